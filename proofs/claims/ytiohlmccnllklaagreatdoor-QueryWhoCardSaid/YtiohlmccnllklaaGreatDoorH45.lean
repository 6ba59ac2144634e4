/-
  Layer 14: Text of the document's answer: a walk. (written by gen_rtext.py)
-/
import Derived.Test.YtiohlmccnllklaaGreatDoorH40
set_option linter.unusedVariables false
set_option linter.unusedSimpArgs false
namespace Go.Proofs.YtiohlmccnllklaaGreatDoor.Q
open Go.RowKit
set_option maxHeartbeats 8000000
set_option maxRecDepth 100000
set_option linter.unusedVariables false
set_option linter.unusedSimpArgs false

/-- The names, as they are written out. -/
def litQ : Array Value := #[.string ⟨#[110, 111, 110, 101]⟩, .string ⟨#[114, 101, 103]⟩, .string ⟨#[112, 99]⟩, .string ⟨#[101, 112, 99]⟩, .string ⟨#[99, 97, 117, 115, 101]⟩, .string ⟨#[118, 101, 99]⟩, .string ⟨#[116, 97, 98, 108, 101]⟩, .string ⟨#[109, 111, 100, 101]⟩, .string ⟨#[109, 97, 115, 107]⟩, .string ⟨#[97, 108, 97, 114, 109]⟩, .string ⟨#[109, 101, 109]⟩, .string ⟨#[116, 108, 98]⟩, .string ⟨#[115, 101, 99, 116, 111, 114]⟩, .string ⟨#[105, 110]⟩, .string ⟨#[111, 117, 116]⟩, .string ⟨#[112, 97, 99, 107, 101, 116]⟩, .string ⟨#[115, 101, 110, 116]⟩, .string ⟨#[97, 115, 107]⟩]
theorem litQ_at {k : Nat} (hk : k < 18) : litQ[k]? = some (.string (bytesQ (nmQ k))) := by
  iterate 18 (rcases k with _ | k; exact rfl)
  omega
structure RxS (B A k : Nat) (nm : ByteArray) (b : Int) (W : World) : Prop where
  e : Env W
  r : W.cell? ⟨B, k, none⟩ = some (.string nm)
  n : W.cell? ⟨A, 1, none⟩ = some (.int .i64 b)
theorem RxS.stb (B A k : Nat) (nm : ByteArray) (b : Int) : Free.Stb (RxS B A k nm b) := fun W W' h hb => ⟨h.e.below hb, cell_below h.r hb, cell_below h.n hb⟩
theorem RText_any {w : World} (h : Env w) {p : T.Pl} (hp : Pi p) : Calls Tryz.prog 12 #[.agg #[.int .i64 p.1, .int .i64 p.2]] w fun e w' => e = .returned (.string (bytesQ (txt p))) ∧ Below w.heap.size w w' := by
  obtain ⟨a, b⟩ := p
  have hb2 := belT (bel1 w (.cells #[.int .i64 a, .int .i64 b] 42)) (bel1 _ (.cells litQ 9))
  unfold litQ at hb2
  by_cases ha : a < 0
  · have HB := Lib.hid (show _ = Ending.returned (.string (bytesQ (txt (a, b)))) ∧ _ from ⟨by unfold txt; rw [if_pos (.inl ha)], hb2⟩)
    clear hb2 hp
    go_enter Tryz.func12, Tryz.ntmps12
    go_wp2
    go_ret
    exact HB.out
  · by_cases hb : 17 < a
    · have HB := Lib.hid (show _ = Ending.returned (.string (bytesQ (txt (a, b)))) ∧ _ from ⟨by unfold txt; rw [if_pos (.inr hb)], hb2⟩)
      clear hb2 hp
      go_enter Tryz.func12, Tryz.ntmps12
      go_wp2
      go_ret
      exact HB.out
    · obtain ⟨k, rfl⟩ : ∃ k : Nat, a = (k : Int) := ⟨a.toNat, by omega⟩
      have hk : k < 18 := by omega
      have hki : (k : Int) < 18 := by omega
      have hki7 : ¬ (17 : Int) < (k : Int) := by omega
      have hpb : I64 b := hp.2
      have hlit := (blk_new (w.alloc (.cells #[.int .i64 (k : Int), .int .i64 b] 42)) litQ 9).cell k
      rw [litQ_at hk, World.size_alloc] at hlit
      have hpl := ((blk_new w #[.int .i64 (k : Int), .int .i64 b] 42).alloc (.cells litQ 9)).cell 1
      have HS : Hid (RxS (w.heap.size + 1) w.heap.size k (bytesQ (nmQ k)) b (World.drew _)) := Lib.hid (RxS.stb _ _ _ _ _ _ _ ⟨h.below hb2, hlit, hpl⟩ (Below.refl _ _).drew)
      have HB := Lib.hid hb2
      have HI := Lib.hid (fun W (hW : Env W) => Itoa_any hpb W hW)
      have ht : Hid (bytesQ (txt ((k : Int), b)) = if svQ k = true then (bytesQ (nmQ k) ++ bytesQ [32]) ++ bytesQ (Lib.itoa b) else bytesQ (nmQ k)) := Lib.hid (by unfold txt; rw [if_neg (by simp only; omega)]; simp only [Int.toNat_natCast]; split <;> simp [bytesQ_app])
      have hl1 : (bytesQ (nmQ k)).size ≤ 10 := by rw [bytesQ_size]; exact (by decide : ∀ k : Fin 18, (nmQ k.val).length ≤ 10) ⟨k, hk⟩
      have hl2 : (bytesQ (Lib.itoa b)).size ≤ 20 := by rw [bytesQ_size]; exact itoa_len20 hpb
      unfold litQ at hlit HS
      have hsv : svQ k = true ↔ k = 1 ∨ 10 ≤ k := by unfold svQ; simp
      generalize bytesQ (nmQ k) = nm at *
      generalize bytesQ (Lib.itoa b) = ib at *
      clear hb2 h hp ha hb hpl
      by_cases h1 : k = 1
      · have HT : Hid (bytesQ (txt ((k : Int), b)) = (nm ++ bytesQ [32]) ++ ib) := Lib.hid (by rw [ht.out, if_pos (hsv.2 (.inl h1))])
        clear ht hsv hlit
        subst h1
        go_enter Tryz.func12, Tryz.ntmps12
        go_wp2
        refine Free.any (RxS (w.heap.size + 1) w.heap.size 1 nm b) (RxS.stb _ _ _ nm b) HS.out (fun st => ?_)
        refine Free.tk 0 (some 20) ?_ (hy := by intro W hW; go_simp; try with_reducible rfl)
        refine Free.tk 1 (some 21) ?_ (hy := by intro W hW; go_simp; try with_reducible rfl)
        refine Free.tk 2 (some 22) (v := .pointer (some ⟨w.heap.size + 1, 1, none⟩)) ?_ (hy := by intro W hW; go_simp; try with_reducible rfl)
        refine Free.tk 3 (some 23) (v := .string nm) ?_ (hy := by intro W hW; have c0 := hW.r; go_simp; try with_reducible rfl)
        refine Free.tk 4 (some 24) (v := .string (nm ++ ⟨#[32]⟩)) ?_ (hy := by intro W hW; go_simp; omega)
        refine Free.tk 5 (some 25) ?_ (hy := by intro W hW; go_simp; try with_reducible rfl)
        refine Free.tk 6 (some 26) (v := .int .i64 b) ?_ (hy := by intro W hW; have c0 := hW.n; go_simp; try with_reducible rfl)
        refine Free.cl 7 (some 27) (v := .string ib) st (fun W hW => (HI.out W hW.e)) ?_ (hy := by intro W; go_simp; try with_reducible rfl)
        refine Free.tk 8 (some 28) (v := .string (nm ++ ⟨#[32]⟩ ++ ib)) ?_ (hy := by intro W hW; go_simp; omega)
        refine Free.tk 9 (some 2) ?_
        refine Free.done (fun W hb hW => ?_)
        have HB2 := Lib.hid (belT HB.out ((Below.refl _ _).drew.trans hb))
        clear hb hW
        go_wp2
        go_ret
        exact ⟨by rw [HT.out]; rfl, HB2.out⟩
      · by_cases h10 : 10 ≤ k
        · have HT : Hid (bytesQ (txt ((k : Int), b)) = (nm ++ bytesQ [32]) ++ ib) := Lib.hid (by rw [ht.out, if_pos (hsv.2 (.inr h10))])
          have h1i : ¬ (k : Int) = 1 := by omega
          have h10i : (10 : Int) ≤ (k : Int) := by omega
          clear ht hsv hlit h1 h10
          go_enter Tryz.func12, Tryz.ntmps12
          go_wp2
          refine Free.any (RxS (w.heap.size + 1) w.heap.size k nm b) (RxS.stb _ _ _ nm b) HS.out (fun st => ?_)
          refine Free.tk 0 (some 20) ?_ (hy := by intro W hW; go_simp; try with_reducible rfl)
          refine Free.tk 1 (some 21) ?_ (hy := by intro W hW; go_simp; try with_reducible rfl)
          refine Free.tk 2 (some 22) (v := .pointer (some ⟨w.heap.size + 1, k, none⟩)) ?_ (hy := by intro W hW; go_simp; try with_reducible rfl)
          refine Free.tk 3 (some 23) (v := .string nm) ?_ (hy := by intro W hW; have c0 := hW.r; go_simp; try with_reducible rfl)
          refine Free.tk 4 (some 24) (v := .string (nm ++ ⟨#[32]⟩)) ?_ (hy := by intro W hW; go_simp; omega)
          refine Free.tk 5 (some 25) ?_ (hy := by intro W hW; go_simp; try with_reducible rfl)
          refine Free.tk 6 (some 26) (v := .int .i64 b) ?_ (hy := by intro W hW; have c0 := hW.n; go_simp; try with_reducible rfl)
          refine Free.cl 7 (some 27) (v := .string ib) st (fun W hW => (HI.out W hW.e)) ?_ (hy := by intro W; go_simp; try with_reducible rfl)
          refine Free.tk 8 (some 28) (v := .string (nm ++ ⟨#[32]⟩ ++ ib)) ?_ (hy := by intro W hW; go_simp; omega)
          refine Free.tk 9 (some 2) ?_
          refine Free.done (fun W hb hW => ?_)
          have HB2 := Lib.hid (belT HB.out ((Below.refl _ _).drew.trans hb))
          clear hb hW
          go_wp2
          go_ret
          exact ⟨by rw [HT.out]; rfl, HB2.out⟩
        · have HT : Hid (bytesQ (txt ((k : Int), b)) = nm) := Lib.hid (by rw [ht.out, if_neg (fun e => by rcases hsv.1 e with e | e; exact h1 e; exact h10 e)])
          have h1i : ¬ (k : Int) = 1 := by omega
          have h10i : ¬ (10 : Int) ≤ (k : Int) := by omega
          clear ht hsv h1 h10
          go_enter Tryz.func12, Tryz.ntmps12
          go_wp2
          go_ret
          exact ⟨by rw [HT.out]; first | rfl | trivial, HB.out⟩
end Go.Proofs.YtiohlmccnllklaaGreatDoor.Q

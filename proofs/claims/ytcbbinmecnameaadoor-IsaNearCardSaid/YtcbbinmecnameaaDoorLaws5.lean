/-
  Layer 4: the statement IsaNear, as a contract: a walk.
-/
import Derived.Test.YtcbbinmecnameaaDoorLaws4
set_option linter.unusedVariables false
namespace Go.Proofs.YtcbbinmecnameaaDoor
open Go.RowKit Go.Maps
set_option maxHeartbeats 2000000

theorem infoN : (Tryd.prog.info? 26).map (fun i => (i.zero, i.size, i.bytes)) = some (some (.agg #[.int .i64 0, .int .i64 0, .int .i64 0, .int .i64 0]), 4, 32) := by kernel_rfl
def flat (ys : List Ins) : List Value := ys.flatMap fun i => [.int .i64 i.op, .int .i64 i.a, .int .i64 i.b, .int .i64 i.imm]

def immL : List Int := [0, 1, -1, 32767, 32768, -32768, -32769, 5, 6, 65536]
def immAt (j : Nat) : Int := immL.getD j 0
theorem ten_at (w : World) (t : TypeId) (j : Nat) (h : j < 10) : (w.alloc (.cells #[.int .i64 0, .int .i64 1, .int .i64 (-1), .int .i64 32767, .int .i64 32768, .int .i64 (-32768), .int .i64 (-32769), .int .i64 5, .int .i64 6, .int .i64 65536] t)).cell? ⟨w.heap.size, j, none⟩ = some (.int .i64 (immAt j)) := by
  rw [cell_of_row _ _ _ _ _ _ (heap_alloc_new w _)]
  iterate 10 (rcases j with _ | j; rfl)
  omega
theorem row_keep4 {w W : World} {base base' : Nat} {e size : Nat} {v : Value} {n : Nat} {xs : List Value} (h : w.ownsRow base e size v n xs) (hb : Below w.heap.size w W) (hbb : base' ≤ base) : W.ownsRow base' e size v n xs := by
  obtain ⟨h1, h2⟩ := h
  refine ⟨h1, ?_⟩
  rcases h2 with h2 | ⟨g, cap, cur, a, b, c, d⟩
  · exact .inl h2
  · exact .inr ⟨g, cap, cur, a, by omega, by rw [hb.block g (Array.getElem?_eq_some_iff.1 c).1]; exact c, d⟩
theorem cell_four_new (w : World) (N : Nat) (a b c d : Value) (hN : N = w.heap.size) {t : TypeId} : ∀ j u, [a, b, c, d][j]? = some u → (w.alloc (.cells #[a, b, c, d] t)).cell? ((⟨N, 0, none⟩ : Addr).add j) = some u := by
  subst hN
  intro j u hj
  match j, hj with
  | 0, hj => simp at hj; subst hj; simp [Addr.add]
  | 1, hj => simp at hj; subst hj; simp [Addr.add]
  | 2, hj => simp at hj; subst hj; simp [Addr.add]
  | 3, hj => simp at hj; subst hj; simp [Addr.add]
  | j + 4, hj => simp at hj
theorem Box.set {w : World} {b : Nat} {i : Ins} (h : Box w b i) {p : Nat} (hp : p ≠ b) (j : Nat) (v : Value) : Box (w.setCell ⟨p, j, none⟩ v) b i := by
  have hc : ∀ q, (w.setCell ⟨p, j, none⟩ v).cell? ⟨b, q, none⟩ = w.cell? ⟨b, q, none⟩ := fun q => World.cell?_of_block (w := w) (Below.heap_setCell w _ v b (fun e => hp e.symm))
  have hf : ∀ q, (w.setCell ⟨p, j, none⟩ v).frozen? ⟨b, q, none⟩ = w.frozen? ⟨b, q, none⟩ := fun q => World.frozen?_of_block (w := w) (Below.heap_setCell w _ v b (fun e => hp e.symm))
  exact ⟨(hc 0).trans h.c0, (hc 1).trans h.c1, (hc 2).trans h.c2, (hc 3).trans h.c3, fun q => (hf q).trans (h.fr q)⟩
theorem Box.grown {w w' : World} {b : Nat} {i : Ins} (h : Box w b i) {row : Option Nat} (hg : w.grownBy w' row) (hr : row ≠ some b) : Box w' b i := by
  have hbk := hg.block b h.lt (fun e => hr e.symm)
  have hc : ∀ q, w'.cell? ⟨b, q, none⟩ = w.cell? ⟨b, q, none⟩ := fun q => World.cell?_of_block (w := w) hbk
  have hf : ∀ q, w'.frozen? ⟨b, q, none⟩ = w.frozen? ⟨b, q, none⟩ := fun q => World.frozen?_of_block (w := w) hbk
  exact ⟨(hc 0).trans h.c0, (hc 1).trans h.c1, (hc 2).trans h.c2, (hc 3).trans h.c3, fun q => (hf q).trans (h.fr q)⟩
theorem box_of_heap {w : World} {b : Nat} {t : TypeId} {i : Ins} (h : w.heap[b]? = some (.cells #[.int .i64 i.op, .int .i64 i.a, .int .i64 i.b, .int .i64 i.imm] t)) : Box w b i :=
  ⟨cell_of_row _ _ _ _ _ _ h, cell_of_row _ _ _ _ _ _ h, cell_of_row _ _ _ _ _ _ h, cell_of_row _ _ _ _ _ _ h, fun j => frozen_of_row _ _ _ _ _ h⟩
theorem two_boxes (w : World) (O A B M : Int) :
    (((w.alloc (.cells #[.int .i64 O, .int .i64 A, .int .i64 B, .int .i64 M] 26)).alloc (.cells #[.int .i64 O, .int .i64 A, .int .i64 B, .int .i64 M] 26)).drew).heap[w.heap.size]? = some (.cells #[.int .i64 O, .int .i64 A, .int .i64 B, .int .i64 M] 26) ∧
    (((w.alloc (.cells #[.int .i64 O, .int .i64 A, .int .i64 B, .int .i64 M] 26)).alloc (.cells #[.int .i64 O, .int .i64 A, .int .i64 B, .int .i64 M] 26)).drew).heap[w.heap.size + 1]? = some (.cells #[.int .i64 O, .int .i64 A, .int .i64 B, .int .i64 M] 26) ∧
    Below w.heap.size w (((w.alloc (.cells #[.int .i64 O, .int .i64 A, .int .i64 B, .int .i64 M] 26)).alloc (.cells #[.int .i64 O, .int .i64 A, .int .i64 B, .int .i64 M] 26)).drew) := by
  refine ⟨?_, ?_, (((Below.refl _ w).alloc (Nat.le_refl _) _).alloc (by simp) _).drew⟩
  · refine (Below.heap_alloc (w.alloc _) _ _ (by simp)).trans ?_
    exact heap_alloc_new w _
  · have := heap_alloc_new (w.alloc (.cells #[.int .i64 O, .int .i64 A, .int .i64 B, .int .i64 M] 26)) (.cells #[.int .i64 O, .int .i64 A, .int .i64 B, .int .i64 M] 26)
    rwa [World.size_alloc] at this

theorem row_set {w : World} {base e size : Nat} {v : Value} {n : Nat} {xs : List Value} (h : w.ownsRow base e size v n xs) {b : Nat} (hb : v.ownBlock ≠ some b) (j : Nat) (u : Value) : (w.setCell ⟨b, j, none⟩ u).ownsRow base e size v n xs := by
  obtain ⟨h1, h2⟩ := h
  refine ⟨h1, ?_⟩
  rcases h2 with h2 | ⟨g, cap, cur, rfl, hg, hh, r⟩
  · exact .inl h2
  · refine .inr ⟨g, cap, cur, rfl, hg, ?_, r⟩
    rw [Below.heap_setCell w _ _ _ (fun e1 => hb (by simp only [Value.ownBlock]; rw [e1]))]
    exact hh
/-- The slice that was appended to lies not in a box. -/
theorem row_not_box {w : World} {bs e k b : Nat} {v : Value} {xs : List Value} {t : TypeId} {c0 c1 c2 c3 : Value} (h : w.ownsRow bs e 4 v (2 * k + 1) xs) (hb : w.heap[b]? = some (.cells #[c0, c1, c2, c3] t)) (h0 : k = 0 → b < bs) : v.ownBlock ≠ some b := by
  intro e1
  rcases h.2 with ⟨_, h1⟩ | ⟨g, cap, cur, rfl, hg, hh, hn, _, hs, _⟩
  · omega
  · simp only [Value.ownBlock, Option.some.injEq] at e1
    subst e1
    rw [hb] at hh
    simp only [Option.some.injEq, Obj.cells.injEq] at hh
    obtain ⟨rfl, _⟩ := hh
    by_cases hk : k = 0
    · have := h0 hk; omega
    · simp at hs; omega

theorem flat_at : ∀ (ys : List Ins) (i : Nat) (x : Ins), ys[i]? = some x → (flat ys)[i * 4]? = some (.int .i64 x.op) ∧ (flat ys)[i * 4 + 1]? = some (.int .i64 x.a) ∧ (flat ys)[i * 4 + 2]? = some (.int .i64 x.b) ∧ (flat ys)[i * 4 + 3]? = some (.int .i64 x.imm)
  | [], i, x, h => by simp at h
  | y :: ys, 0, x, h => by simp at h; subst h; simp [flat]
  | y :: ys, i + 1, x, h => by
    have ih := flat_at ys i x (by simpa using h)
    have e : flat (y :: ys) = .int .i64 y.op :: .int .i64 y.a :: .int .i64 y.b :: .int .i64 y.imm :: flat ys := by simp [flat]
    rw [e]
    have e0 : (i + 1) * 4 = i * 4 + 4 := by omega
    have e1 : (i + 1) * 4 + 1 = (i * 4 + 1) + 4 := by omega
    have e2 : (i + 1) * 4 + 2 = (i * 4 + 2) + 4 := by omega
    have e3 : (i + 1) * 4 + 3 = (i * 4 + 3) + 4 := by omega
    rw [e1, e2, e3, e0]
    simpa using ih
/-- A slice of instructions that the call made, as a slice that comes in. -/
theorem inss_own {w : World} {B t m : Nat} {v : Value} {ys : List Ins} (hl : ys.length = m) (h : w.ownsRow B t 4 v m (flat ys)) : InsL w v := by
  rcases h.2 with ⟨rfl, h0⟩ | ⟨g, cap, cur, rfl, _, hg, hc, hm, _⟩
  · exact ⟨none, 0, 0, rfl, Nat.zero_le _, fun i hi => absurd hi (Nat.not_lt_zero i)⟩
  · refine ⟨some ⟨g, 0, none⟩, cap, m, rfl, by omega, fun i hi => ⟨⟨g, 0, none⟩, ys[i]'(by omega), rfl, ?_⟩⟩
    obtain ⟨f0, f1, f2, f3⟩ := flat_at ys i _ (List.getElem?_eq_getElem (by omega))
    have hcs := fun j x hx => h.cells (g := g) rfl j x hx
    exact ⟨hcs _ _ f0, at_add (by decide) (hcs _ _ f1), at_add (by decide) (hcs _ _ f2), at_add (by decide) (hcs _ _ f3)⟩

set_option maxRecDepth 10000 in
theorem IsaNear_walk (x : Ins) (hx : I64 x) (w : World) (h : Env w) :
    Calls Tryd.prog 7 #[iv x] w fun e w' => e = .returned (.bool true) ∧ Below w.heap.size w w' := by
  obtain ⟨i0, hi, hz0, hz1, hz2⟩ := info_parts infoN
  obtain ⟨O, A, B, M⟩ := x
  unfold iv
  simp only
  go_enter Tryd.func7, Tryd.ntmps7
  go_wp2_with fail
  go_loopw [3, 4] (fun v i wr => ∃ (k : Nat) (u : Value) (ys : List Ins), k ≤ 30 ∧ u = v ∧ Hid (k = 0 → u = .slice none 0 0) ∧ i = .int .i64 (k : Int) ∧ Hid (ys.length = 2 * k) ∧ Hid (wr.ownsRow (w.heap.size + 1) 26 4 u (2 * k) (flat ys)) ∧ Hid (Below (w.heap.size + 1) (w.alloc (.cells #[.int .i64 O, .int .i64 A, .int .i64 B, .int .i64 M] 26)) wr)) (fun _ i _ => 30 - (intOf i).toNat)
  case atStart => exact ⟨0, _, [], by omega, rfl, fun _ => rfl, rfl, rfl, World.ownsRow_nil _ _ _ _, Below.refl _ _⟩
  case round =>
    obtain ⟨k, u, ys, hk, rfl, hu0, rfl, hl, hrow, hb⟩ := hrel
    have HX := Lib.hid ((Box.new w ⟨O, A, B, M⟩ 26).keep hb.out (Nat.lt_succ_self _))
    by_cases hlt : k < 30
    · obtain ⟨x0, x1, x2, x3, xf⟩ := id HX.out
      simp only at x0 x1 x2 x3
      have hs := hb.out.size
      simp only [World.size_alloc] at hs
      have hs1 : w.heap.size < wr.heap.size := by omega
      go_wp2_with fail
      go_region
      · obtain ⟨X0, Y0, bW⟩ := two_boxes wr O A B M
        generalize ((wr.alloc (.cells #[.int .i64 O, .int .i64 A, .int .i64 B, .int .i64 M] 26)).alloc (.cells #[.int .i64 O, .int .i64 A, .int .i64 B, .int .i64 M] 26)).drew = W0 at X0 Y0 bW ⊢
        obtain ⟨a0, a1, a2, a3, af⟩ := box_of_heap (i := ⟨O, A, B, M⟩) X0
        have hYB := Lib.hid (Y0)
        have hlt0 := (Array.getElem?_eq_some_iff.1 X0).1
        have hlt9 := (Array.getElem?_eq_some_iff.1 Y0).1
        have hBW := Lib.hid bW
        have b1 := bW.setCell (p := ⟨wr.heap.size, 0, none⟩) (by simp) (.int .i64 (k : Int))
        obtain ⟨bs, hbs0, hbs1, hbs2⟩ : ∃ bs, (k = 0 → bs = W0.heap.size) ∧ w.heap.size + 1 ≤ bs ∧ (k ≠ 0 → bs = w.heap.size + 1) := ⟨if k = 0 then W0.heap.size else w.heap.size + 1, fun e => if_pos e, by split <;> omega, fun e => if_neg e⟩
        have hbs3 : bs ≤ W0.heap.size := by
          by_cases h0 : k = 0
          · rw [hbs0 h0]; exact Nat.le_refl _
          · rw [hbs2 h0]; omega
        have hrow1 : (W0.setCell ⟨wr.heap.size, 0, none⟩ (.int .i64 (k : Int))).ownsRow bs 26 4 u (2 * k) (flat ys) := by
          by_cases h0 : k = 0
          · have hy : ys = [] := List.eq_nil_of_length_eq_zero (by have := hl.out; omega)
            rw [hu0.out h0, hy, h0]
            exact World.ownsRow_nil _ _ _ _
          · rw [hbs2 h0]; exact row_keep4 hrow.out b1 (Nat.le_refl _)
        have hb1 := hb.out.trans (b1.mono hs)
        clear X0 Y0 bW x0 x1 x2 x3 xf
        simp only at a0 a1 a2 a3
        have HBS := Lib.hid (And.intro hbs0 (And.intro hbs1 (And.intro hbs2 hbs3)))
        clear hbs0 hbs2
        go_wp2_with (at_builtin; refine wpList_append_own _ rfl _ _ 34 rfl bs 26 i0 (.agg #[.int .i64 0, .int .i64 0, .int .i64 0, .int .i64 0]) 4 32 Tryd.underlying34 hi hz0 hz1 hz2 rfl (by decide) _ _ _ rfl (hrow1.alloc _) ⟨W0.heap.size, 0, none⟩ 1 1 [.int .i64 (k : Int), .int .i64 A, .int .i64 B, .int .i64 M] rfl rfl (cell_four_new (W0.setCell ⟨wr.heap.size, 0, none⟩ (.int .i64 (k : Int))) _ _ _ _ _ (by simp [World.setCell])) (by simp [Value.oneCell']) (by unfold maxLen; omega) (by omega) (by simp [World.setCell]; omega) ?_; intro v' W2 hown' hgrow hn1; refine Hid.out ?_)
        refine Lib.hid ?_
        have hgrow2 : ((W0.setCell ⟨wr.heap.size, 0, none⟩ (.int .i64 (k : Int))).alloc (.cells #[.int .i64 (k : Int), .int .i64 A, .int .i64 B, .int .i64 M] 26)).grownBy W2 u.ownBlock := hgrow
        have hz2 : ((W0.setCell ⟨wr.heap.size, 0, none⟩ (.int .i64 (k : Int))).alloc (.cells #[.int .i64 (k : Int), .int .i64 A, .int .i64 B, .int .i64 M] 26)).heap.size = W0.heap.size + 1 := by simp [World.setCell]
        have hY2 : W2.heap[wr.heap.size + 1]? = some (.cells #[.int .i64 O, .int .i64 A, .int .i64 B, .int .i64 M] 26) := by
          rw [hgrow2.block (wr.heap.size + 1) (by omega) (fun e => by have := (World.ownsRow.lt hrow.out _ e.symm).2; omega)]
          refine (Below.heap_alloc _ _ _ (by simp [World.setCell]; omega)).trans ?_
          exact (Below.heap_setCell W0 _ _ _ (by simp)).trans hYB.out
        have hvb := row_not_box hown' hY2 (fun e => by have := HBS.out.1 e; omega)
        have hb2 := (hb1.alloc (by simp [World.setCell]; omega) (.cells #[.int .i64 (k : Int), .int .i64 A, .int .i64 B, .int .i64 M] 26)).grown hgrow2 (by omega) (fun j e => (World.ownsRow.lt hrow.out j e).1)
        have hs2 : w.heap.size + 1 ≤ W2.heap.size := by have := hb2.size; simpa using this
        have hrow2 := Lib.hid (row_keep4 hown' (Below.refl _ _) (HBS.out.2.1))
        have HB2 := Lib.hid hb2
        have HV := Lib.hid hvb
        have HY2 := Lib.hid hY2
        have hltB := (Array.getElem?_eq_some_iff.1 hY2).1
        have hbp : w.heap.size + 1 ≤ wr.heap.size + 1 := by omega
        obtain ⟨y0, y1, y2, y3, yf⟩ := box_of_heap (i := ⟨O, A, B, M⟩) hY2
        simp only at y0 y1 y2 y3
        clear hown' hgrow hgrow2 hn1 hb2 hb1 hrow1 b1 a0 a1 a2 a3 af hlt0 hlt9 hYB hBW HBS hbs1 hbs3 hY2 hz2 hvb
        have h3 : k % 3 = 0 ∨ k % 3 = 1 ∨ k % 3 = 2 := by omega
        rcases h3 with h3 | h3 | h3
        · have t0 : (k : Int) % 3 = 0 := by omega
          have b3 := HB2.out.setCell (p := ⟨wr.heap.size + 1, 1, none⟩) hbp (.int .i64 ((k : Int) / 3 - 1))
          have hrow3 := row_set hrow2.out (b := wr.heap.size + 1) HV.out 1 (.int .i64 ((k : Int) / 3 - 1))
          have hs3 := b3.size
          have HB3 := Lib.hid b3
          clear b3
          go_wp2_with (at_builtin; refine wpList_append_own _ rfl _ _ 34 rfl (w.heap.size + 1) 26 i0 (.agg #[.int .i64 0, .int .i64 0, .int .i64 0, .int .i64 0]) 4 32 Tryd.underlying34 hi hz0 hz1 hz2 rfl (by decide) _ _ _ rfl (hrow3.alloc _) ⟨W2.heap.size, 0, none⟩ 1 1 [.int .i64 O, .int .i64 ((k : Int) / 3 - 1), .int .i64 B, .int .i64 M] rfl rfl (cell_four_new (W2.setCell ⟨wr.heap.size + 1, 1, none⟩ (.int .i64 ((k : Int) / 3 - 1))) _ _ _ _ _ (by simp [World.setCell])) (by simp [Value.oneCell']) (by unfold maxLen; omega) (by omega) (by simp [World.setCell]; omega) ?_; intro v5 W5 hown5 hgrow5 hn5)
          go_roundw
          case rel =>
            refine ⟨k + 1, _, ys ++ [⟨k, A, B, M⟩, ⟨O, (k : Int) / 3 - 1, B, M⟩], by omega, rfl, fun e => by omega, by go_num, by unfold Hid; simp [hl.out]; omega, ?_, ?_⟩
            · unfold Hid
              have e1 : 2 * (k + 1) = 2 * k + 1 + 1 := by omega
              rw [e1]
              simpa [flat] using hown5
            · exact (HB3.out.alloc (by simp [World.setCell]; omega) _).grown hgrow5 (by simp [World.setCell]; omega) (fun j e => (World.ownsRow.lt hrow3 j e).1)
          case measure => simp [intOf]; omega
        · have t0 : (k : Int) % 3 = 1 := by omega
          have b3 := HB2.out.setCell (p := ⟨wr.heap.size + 1, 2, none⟩) hbp (.int .i64 ((k : Int) / 3 - 1))
          have hrow3 := row_set hrow2.out (b := wr.heap.size + 1) HV.out 2 (.int .i64 ((k : Int) / 3 - 1))
          have hs3 := b3.size
          have HB3 := Lib.hid b3
          clear b3
          go_wp2_with (at_builtin; refine wpList_append_own _ rfl _ _ 34 rfl (w.heap.size + 1) 26 i0 (.agg #[.int .i64 0, .int .i64 0, .int .i64 0, .int .i64 0]) 4 32 Tryd.underlying34 hi hz0 hz1 hz2 rfl (by decide) _ _ _ rfl (hrow3.alloc _) ⟨W2.heap.size, 0, none⟩ 1 1 [.int .i64 O, .int .i64 A, .int .i64 ((k : Int) / 3 - 1), .int .i64 M] rfl rfl (cell_four_new (W2.setCell ⟨wr.heap.size + 1, 2, none⟩ (.int .i64 ((k : Int) / 3 - 1))) _ _ _ _ _ (by simp [World.setCell])) (by simp [Value.oneCell']) (by unfold maxLen; omega) (by omega) (by simp [World.setCell]; omega) ?_; intro v5 W5 hown5 hgrow5 hn5)
          go_roundw
          case rel =>
            refine ⟨k + 1, _, ys ++ [⟨k, A, B, M⟩, ⟨O, A, (k : Int) / 3 - 1, M⟩], by omega, rfl, fun e => by omega, by go_num, by unfold Hid; simp [hl.out]; omega, ?_, ?_⟩
            · unfold Hid
              have e1 : 2 * (k + 1) = 2 * k + 1 + 1 := by omega
              rw [e1]
              simpa [flat] using hown5
            · exact (HB3.out.alloc (by simp [World.setCell]; omega) _).grown hgrow5 (by simp [World.setCell]; omega) (fun j e => (World.ownsRow.lt hrow3 j e).1)
          case measure => simp [intOf]; omega
        · have t0 : (k : Int) % 3 = 2 := by omega
          have hten := ten_at W2 3 (k / 3) (by omega)
          have b3 := HB2.out.setCell (p := ⟨wr.heap.size + 1, 3, none⟩) hbp (.int .i64 (immAt (k / 3)))
          have hrow3 := row_set hrow2.out (b := wr.heap.size + 1) HV.out 3 (.int .i64 (immAt (k / 3)))
          have hs3 := b3.size
          have HB3 := Lib.hid b3
          clear b3
          go_wp2_with (at_builtin; refine wpList_append_own _ rfl _ _ 34 rfl (w.heap.size + 1) 26 i0 (.agg #[.int .i64 0, .int .i64 0, .int .i64 0, .int .i64 0]) 4 32 Tryd.underlying34 hi hz0 hz1 hz2 rfl (by decide) _ _ _ rfl ((hrow3.alloc (.cells #[.int .i64 0, .int .i64 1, .int .i64 (-1), .int .i64 32767, .int .i64 32768, .int .i64 (-32768), .int .i64 (-32769), .int .i64 5, .int .i64 6, .int .i64 65536] 3)).alloc _) ⟨W2.heap.size + 1, 0, none⟩ 1 1 [.int .i64 O, .int .i64 A, .int .i64 B, .int .i64 (immAt (k / 3))] rfl rfl (cell_four_new ((W2.setCell ⟨wr.heap.size + 1, 3, none⟩ (.int .i64 (immAt (k / 3)))).alloc (.cells #[.int .i64 0, .int .i64 1, .int .i64 (-1), .int .i64 32767, .int .i64 32768, .int .i64 (-32768), .int .i64 (-32769), .int .i64 5, .int .i64 6, .int .i64 65536] 3)) _ _ _ _ _ (by simp [World.setCell])) (by simp [Value.oneCell']) (by unfold maxLen; omega) (by omega) (by simp [World.setCell]; omega) ?_; intro v5 W5 hown5 hgrow5 hn5)
          go_roundw
          case rel =>
            refine ⟨k + 1, _, ys ++ [⟨k, A, B, M⟩, ⟨O, A, B, immAt (k / 3)⟩], by omega, rfl, fun e => by omega, by go_num, by unfold Hid; simp [hl.out]; omega, ?_, ?_⟩
            · unfold Hid
              have e1 : 2 * (k + 1) = 2 * k + 1 + 1 := by omega
              rw [e1]
              simpa [flat] using hown5
            · exact ((HB3.out.alloc (by simp [World.setCell]; omega) (.cells #[.int .i64 0, .int .i64 1, .int .i64 (-1), .int .i64 32767, .int .i64 32768, .int .i64 (-32768), .int .i64 (-32769), .int .i64 5, .int .i64 6, .int .i64 65536] 3)).alloc (by simp [World.setCell]; omega) _).grown hgrow5 (by simp [World.setCell]; omega) (fun j e => (World.ownsRow.lt hrow3 j e).1)
          case measure => simp [intOf]; omega
      · obtain ⟨X0, Y0, bW⟩ := two_boxes wr O A B M
        generalize ((wr.alloc (.cells #[.int .i64 O, .int .i64 A, .int .i64 B, .int .i64 M] 26)).alloc (.cells #[.int .i64 O, .int .i64 A, .int .i64 B, .int .i64 M] 26)).drew = W0 at X0 Y0 bW ⊢
        obtain ⟨a0, a1, a2, a3, af⟩ := box_of_heap (i := ⟨O, A, B, M⟩) Y0
        have hYB := Lib.hid (X0)
        have hlt0 := (Array.getElem?_eq_some_iff.1 Y0).1
        have hlt9 := (Array.getElem?_eq_some_iff.1 X0).1
        have hBW := Lib.hid bW
        have b1 := bW.setCell (p := ⟨wr.heap.size + 1, 0, none⟩) (by simp) (.int .i64 (k : Int))
        obtain ⟨bs, hbs0, hbs1, hbs2⟩ : ∃ bs, (k = 0 → bs = W0.heap.size) ∧ w.heap.size + 1 ≤ bs ∧ (k ≠ 0 → bs = w.heap.size + 1) := ⟨if k = 0 then W0.heap.size else w.heap.size + 1, fun e => if_pos e, by split <;> omega, fun e => if_neg e⟩
        have hbs3 : bs ≤ W0.heap.size := by
          by_cases h0 : k = 0
          · rw [hbs0 h0]; exact Nat.le_refl _
          · rw [hbs2 h0]; omega
        have hrow1 : (W0.setCell ⟨wr.heap.size + 1, 0, none⟩ (.int .i64 (k : Int))).ownsRow bs 26 4 u (2 * k) (flat ys) := by
          by_cases h0 : k = 0
          · have hy : ys = [] := List.eq_nil_of_length_eq_zero (by have := hl.out; omega)
            rw [hu0.out h0, hy, h0]
            exact World.ownsRow_nil _ _ _ _
          · rw [hbs2 h0]; exact row_keep4 hrow.out b1 (Nat.le_refl _)
        have hb1 := hb.out.trans (b1.mono hs)
        clear X0 Y0 bW x0 x1 x2 x3 xf
        simp only at a0 a1 a2 a3
        have HBS := Lib.hid (And.intro hbs0 (And.intro hbs1 (And.intro hbs2 hbs3)))
        clear hbs0 hbs2
        go_wp2_with (at_builtin; refine wpList_append_own _ rfl _ _ 34 rfl bs 26 i0 (.agg #[.int .i64 0, .int .i64 0, .int .i64 0, .int .i64 0]) 4 32 Tryd.underlying34 hi hz0 hz1 hz2 rfl (by decide) _ _ _ rfl (hrow1.alloc _) ⟨W0.heap.size, 0, none⟩ 1 1 [.int .i64 (k : Int), .int .i64 A, .int .i64 B, .int .i64 M] rfl rfl (cell_four_new (W0.setCell ⟨wr.heap.size + 1, 0, none⟩ (.int .i64 (k : Int))) _ _ _ _ _ (by simp [World.setCell])) (by simp [Value.oneCell']) (by unfold maxLen; omega) (by omega) (by simp [World.setCell]; omega) ?_; intro v' W2 hown' hgrow hn1; refine Hid.out ?_)
        refine Lib.hid ?_
        have hgrow2 : ((W0.setCell ⟨wr.heap.size + 1, 0, none⟩ (.int .i64 (k : Int))).alloc (.cells #[.int .i64 (k : Int), .int .i64 A, .int .i64 B, .int .i64 M] 26)).grownBy W2 u.ownBlock := hgrow
        have hz2 : ((W0.setCell ⟨wr.heap.size + 1, 0, none⟩ (.int .i64 (k : Int))).alloc (.cells #[.int .i64 (k : Int), .int .i64 A, .int .i64 B, .int .i64 M] 26)).heap.size = W0.heap.size + 1 := by simp [World.setCell]
        have hY2 : W2.heap[wr.heap.size]? = some (.cells #[.int .i64 O, .int .i64 A, .int .i64 B, .int .i64 M] 26) := by
          rw [hgrow2.block (wr.heap.size) (by omega) (fun e => by have := (World.ownsRow.lt hrow.out _ e.symm).2; omega)]
          refine (Below.heap_alloc _ _ _ (by simp [World.setCell]; omega)).trans ?_
          exact (Below.heap_setCell W0 _ _ _ (by simp)).trans hYB.out
        have hvb := row_not_box hown' hY2 (fun e => by have := HBS.out.1 e; omega)
        have hb2 := (hb1.alloc (by simp [World.setCell]; omega) (.cells #[.int .i64 (k : Int), .int .i64 A, .int .i64 B, .int .i64 M] 26)).grown hgrow2 (by omega) (fun j e => (World.ownsRow.lt hrow.out j e).1)
        have hs2 : w.heap.size + 1 ≤ W2.heap.size := by have := hb2.size; simpa using this
        have hrow2 := Lib.hid (row_keep4 hown' (Below.refl _ _) (HBS.out.2.1))
        have HB2 := Lib.hid hb2
        have HV := Lib.hid hvb
        have HY2 := Lib.hid hY2
        have hltB := (Array.getElem?_eq_some_iff.1 hY2).1
        have hbp : w.heap.size + 1 ≤ wr.heap.size := by omega
        obtain ⟨y0, y1, y2, y3, yf⟩ := box_of_heap (i := ⟨O, A, B, M⟩) hY2
        simp only at y0 y1 y2 y3
        clear hown' hgrow hgrow2 hn1 hb2 hb1 hrow1 b1 a0 a1 a2 a3 af hlt0 hlt9 hYB hBW HBS hbs1 hbs3 hY2 hz2 hvb
        have h3 : k % 3 = 0 ∨ k % 3 = 1 ∨ k % 3 = 2 := by omega
        rcases h3 with h3 | h3 | h3
        · have t0 : (k : Int) % 3 = 0 := by omega
          have b3 := HB2.out.setCell (p := ⟨wr.heap.size, 1, none⟩) hbp (.int .i64 ((k : Int) / 3 - 1))
          have hrow3 := row_set hrow2.out (b := wr.heap.size) HV.out 1 (.int .i64 ((k : Int) / 3 - 1))
          have hs3 := b3.size
          have HB3 := Lib.hid b3
          clear b3
          go_wp2_with (at_builtin; refine wpList_append_own _ rfl _ _ 34 rfl (w.heap.size + 1) 26 i0 (.agg #[.int .i64 0, .int .i64 0, .int .i64 0, .int .i64 0]) 4 32 Tryd.underlying34 hi hz0 hz1 hz2 rfl (by decide) _ _ _ rfl (hrow3.alloc _) ⟨W2.heap.size, 0, none⟩ 1 1 [.int .i64 O, .int .i64 ((k : Int) / 3 - 1), .int .i64 B, .int .i64 M] rfl rfl (cell_four_new (W2.setCell ⟨wr.heap.size, 1, none⟩ (.int .i64 ((k : Int) / 3 - 1))) _ _ _ _ _ (by simp [World.setCell])) (by simp [Value.oneCell']) (by unfold maxLen; omega) (by omega) (by simp [World.setCell]; omega) ?_; intro v5 W5 hown5 hgrow5 hn5)
          go_roundw
          case rel =>
            refine ⟨k + 1, _, ys ++ [⟨k, A, B, M⟩, ⟨O, (k : Int) / 3 - 1, B, M⟩], by omega, rfl, fun e => by omega, by go_num, by unfold Hid; simp [hl.out]; omega, ?_, ?_⟩
            · unfold Hid
              have e1 : 2 * (k + 1) = 2 * k + 1 + 1 := by omega
              rw [e1]
              simpa [flat] using hown5
            · exact (HB3.out.alloc (by simp [World.setCell]; omega) _).grown hgrow5 (by simp [World.setCell]; omega) (fun j e => (World.ownsRow.lt hrow3 j e).1)
          case measure => simp [intOf]; omega
        · have t0 : (k : Int) % 3 = 1 := by omega
          have b3 := HB2.out.setCell (p := ⟨wr.heap.size, 2, none⟩) hbp (.int .i64 ((k : Int) / 3 - 1))
          have hrow3 := row_set hrow2.out (b := wr.heap.size) HV.out 2 (.int .i64 ((k : Int) / 3 - 1))
          have hs3 := b3.size
          have HB3 := Lib.hid b3
          clear b3
          go_wp2_with (at_builtin; refine wpList_append_own _ rfl _ _ 34 rfl (w.heap.size + 1) 26 i0 (.agg #[.int .i64 0, .int .i64 0, .int .i64 0, .int .i64 0]) 4 32 Tryd.underlying34 hi hz0 hz1 hz2 rfl (by decide) _ _ _ rfl (hrow3.alloc _) ⟨W2.heap.size, 0, none⟩ 1 1 [.int .i64 O, .int .i64 A, .int .i64 ((k : Int) / 3 - 1), .int .i64 M] rfl rfl (cell_four_new (W2.setCell ⟨wr.heap.size, 2, none⟩ (.int .i64 ((k : Int) / 3 - 1))) _ _ _ _ _ (by simp [World.setCell])) (by simp [Value.oneCell']) (by unfold maxLen; omega) (by omega) (by simp [World.setCell]; omega) ?_; intro v5 W5 hown5 hgrow5 hn5)
          go_roundw
          case rel =>
            refine ⟨k + 1, _, ys ++ [⟨k, A, B, M⟩, ⟨O, A, (k : Int) / 3 - 1, M⟩], by omega, rfl, fun e => by omega, by go_num, by unfold Hid; simp [hl.out]; omega, ?_, ?_⟩
            · unfold Hid
              have e1 : 2 * (k + 1) = 2 * k + 1 + 1 := by omega
              rw [e1]
              simpa [flat] using hown5
            · exact (HB3.out.alloc (by simp [World.setCell]; omega) _).grown hgrow5 (by simp [World.setCell]; omega) (fun j e => (World.ownsRow.lt hrow3 j e).1)
          case measure => simp [intOf]; omega
        · have t0 : (k : Int) % 3 = 2 := by omega
          have hten := ten_at W2 3 (k / 3) (by omega)
          have b3 := HB2.out.setCell (p := ⟨wr.heap.size, 3, none⟩) hbp (.int .i64 (immAt (k / 3)))
          have hrow3 := row_set hrow2.out (b := wr.heap.size) HV.out 3 (.int .i64 (immAt (k / 3)))
          have hs3 := b3.size
          have HB3 := Lib.hid b3
          clear b3
          go_wp2_with (at_builtin; refine wpList_append_own _ rfl _ _ 34 rfl (w.heap.size + 1) 26 i0 (.agg #[.int .i64 0, .int .i64 0, .int .i64 0, .int .i64 0]) 4 32 Tryd.underlying34 hi hz0 hz1 hz2 rfl (by decide) _ _ _ rfl ((hrow3.alloc (.cells #[.int .i64 0, .int .i64 1, .int .i64 (-1), .int .i64 32767, .int .i64 32768, .int .i64 (-32768), .int .i64 (-32769), .int .i64 5, .int .i64 6, .int .i64 65536] 3)).alloc _) ⟨W2.heap.size + 1, 0, none⟩ 1 1 [.int .i64 O, .int .i64 A, .int .i64 B, .int .i64 (immAt (k / 3))] rfl rfl (cell_four_new ((W2.setCell ⟨wr.heap.size, 3, none⟩ (.int .i64 (immAt (k / 3)))).alloc (.cells #[.int .i64 0, .int .i64 1, .int .i64 (-1), .int .i64 32767, .int .i64 32768, .int .i64 (-32768), .int .i64 (-32769), .int .i64 5, .int .i64 6, .int .i64 65536] 3)) _ _ _ _ _ (by simp [World.setCell])) (by simp [Value.oneCell']) (by unfold maxLen; omega) (by omega) (by simp [World.setCell]; omega) ?_; intro v5 W5 hown5 hgrow5 hn5)
          go_roundw
          case rel =>
            refine ⟨k + 1, _, ys ++ [⟨k, A, B, M⟩, ⟨O, A, B, immAt (k / 3)⟩], by omega, rfl, fun e => by omega, by go_num, by unfold Hid; simp [hl.out]; omega, ?_, ?_⟩
            · unfold Hid
              have e1 : 2 * (k + 1) = 2 * k + 1 + 1 := by omega
              rw [e1]
              simpa [flat] using hown5
            · exact ((HB3.out.alloc (by simp [World.setCell]; omega) (.cells #[.int .i64 0, .int .i64 1, .int .i64 (-1), .int .i64 32767, .int .i64 32768, .int .i64 (-32768), .int .i64 (-32769), .int .i64 5, .int .i64 6, .int .i64 65536] 3)).alloc (by simp [World.setCell]; omega) _).grown hgrow5 (by simp [World.setCell]; omega) (fun j e => (World.ownsRow.lt hrow3 j e).1)
          case measure => simp [intOf]; omega
    · obtain rfl : k = 30 := by omega
      have hbF := ((Below.refl w.heap.size w).alloc (Nat.le_refl _) (.cells #[.int .i64 O, .int .i64 A, .int .i64 B, .int .i64 M] 26)).trans (hb.out.mono (Nat.le_succ _))
      have HE := Lib.hid (IsaEncode_any u wr (h.below hbF) (inss_own hl.out hrow.out))
      have HF := Lib.hid hbF
      clear hbF
      go_wp2_with fail
      refine HE.out.mono ?_
      rintro e w6 ⟨rfl, b6⟩
      have HG := Lib.hid (HF.out.trans (b6.mono HF.out.size))
      clear b6
      go_wp2_with fail
      go_ret
      exact ⟨rfl, HG.out⟩
end Go.Proofs.YtcbbinmecnameaaDoor

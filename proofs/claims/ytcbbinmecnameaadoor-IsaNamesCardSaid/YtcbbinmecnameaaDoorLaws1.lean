/-
  Layer 4: the statement IsaDecode, as a contract: a walk.
-/
import Derived.Test.YtcbbinmecnameaaDoorRef2
import Derived.Test.YtcbbinmecnameaaDoorWorks
import Derived.Test.YtcbbinmecnameaaDoorArgs
set_option linter.unusedVariables false
namespace Go.Proofs.YtcbbinmecnameaaDoor
open Go.RowKit
set_option maxHeartbeats 1000000

theorem enc_of_decV {x : Int} (hx : W32 x) (h : decB x = true) : encW (decV x) = x ∧ encE (decV x) = 0 := by
  have hm : May (dec x) := of_decide_eq_true h
  have e : decV x = dec x := if_pos hm
  rw [e]
  exact ⟨by unfold encW; rw [if_pos hm, enc_dec hx], if_pos hm⟩

/-- What a slice of words gives a loop. -/
theorem nums_loop {k : IntKind} {w : World} {v : Value} {xs : List Int} (h : NumsIn k w v xs) : ∃ o c n, v = .slice o n c ∧ n ≤ maxLen ∧ ∀ (i : Nat), i < n → ∃ a x, o = some a ∧ w.cell? (a.add i) = some (.int k x) ∧ (Lit.int k x).wf = true := by
  rcases h with ⟨rfl, rfl⟩ | ⟨a, c, rfl, _, hm, hc, hw⟩
  · exact ⟨none, 0, 0, rfl, Nat.zero_le _, fun i hi => absurd hi (Nat.not_lt_zero i)⟩
  · exact ⟨some a, c, xs.length, rfl, hm, fun i hi => ⟨a, xs[i], rfl, hc i _ (List.getElem?_eq_getElem hi), hw _ (List.getElem_mem hi)⟩⟩

set_option maxRecDepth 10000 in
theorem IsaDecode_walk (v : Value) (xs : List Int) (w : World) (h : Env w) (z : NumsIn .u32 w v xs) :
    Calls Tryd.prog 3 #[v] w fun e w' => e = .returned (.bool true) ∧ Below w.heap.size w w' := by
  obtain ⟨o, c, n, rfl, hm, hcell⟩ := nums_loop z
  have HCE := Lib.hid hcell
  clear hcell z
  have hm' : (n : Int) ≤ 9223372036854775807 := by unfold maxLen at hm; omega
  go_enter Tryd.func3, Tryd.ntmps3
  by_cases h60 : 60 < n
  · have hK := Lib.hid (known_any w h)
    go_wp2_with fail
    refine hK.out.mono ?_
    rintro e w1 ⟨rfl, b1⟩
    go_wp2_with fail
    go_ret
    exact ⟨rfl, b1⟩
  · go_wp2_with fail
    go_loopw [3] (fun i wr => ∃ k : Nat, k ≤ n ∧ i = .int .i64 (k : Int) ∧ Hid (Below w.heap.size w wr)) (fun i _ => n - (intOf i).toNat)
    case atStart => exact ⟨0, by omega, rfl, Below.refl _ _⟩
    case round =>
      obtain ⟨k, hk, rfl, hb⟩ := hrel
      have HE := Lib.hid (h.below hb.out)
      by_cases hlt : k < n
      · obtain ⟨a, x, rfl, hc, hwf⟩ := HCE.out k hlt
        have hx := w32_of_wf hwf
        have hc1 : wr.cell? (a.add k) = some (.int .u32 x) := by rw [hb.out.cell (World.block_lt_of_cell? _ _ hc)]; exact hc
        have hal := World.block_lt_of_cell? _ _ hc1
        have HDE := Lib.hid (fun W hW => Decode_any x hx W hW)
        have HRD := Lib.hid (fun W => RDecode_any x hx W)
        have HEN := Lib.hid (fun W hW => Encode_any (decV x) W hW)
        have HQE := Lib.hid (fun q => enc_of_decV (x := x) hx q)
        generalize hd : decV x = d at *
        generalize hq : decB x = q at *
        have HX := Lib.hid hx
        clear hd hq hwf hx
        obtain ⟨O, A, B, M⟩ := d
        generalize encW ⟨O, A, B, M⟩ = W1 at *
        generalize encE ⟨O, A, B, M⟩ = E1 at *
        unfold iv at HDE HRD HEN
        simp only at HDE HRD HEN
        go_wp2_with fail
        refine (HDE.out _ HE.out).mono ?_
        rintro e w1 ⟨rfl, b1⟩
        have HE1 := Lib.hid (HE.out.below b1)
        have BF1 := Lib.hid (hb.out.trans (b1.mono hb.out.size))
        have hc2 : w1.cell? (a.add k) = some (.int .u32 x) := by rw [b1.cell hal]; exact hc1
        have s1 := b1.size
        have ha1 : (a.add k).block < w1.heap.size := by omega
        clear b1 hc1
        go_wp2_with fail
        refine (HRD.out _).mono ?_
        rintro e w2 ⟨rfl, b2⟩
        have X1 := (Box.new w1 ⟨O, A, B, M⟩ 26).below b2
        have HE2 := Lib.hid ((HE1.out.below ((Below.refl _ _).alloc (Nat.le_refl _) _)).below b2)
        have BF2 := Lib.hid ((BF1.out.alloc BF1.out.size _).trans (b2.mono (by have := BF1.out.size; simp; omega)))
        have hc3 : w2.cell? (a.add k) = some (.int .u32 x) := by rw [b2.cell (by simp; omega)]; rw [World.cell?_alloc_lt _ _ _ (by omega)]; exact hc2
        have s2 : w1.heap.size < w2.heap.size := by have := b2.size; simp at this; omega
        have ha2 : (a.add k).block < w2.heap.size := by omega
        clear b2 hc2
        obtain ⟨e0, e1, e2, e3, fe⟩ := X1
        simp only at e0 e1 e2 e3
        have s2' : ¬ w1.heap.size = w2.heap.size := by omega
        go_wp2_with fail
        refine (HEN.out _ (HE2.out.below ((Below.refl _ _).alloc (Nat.le_refl _) _))).mono ?_
        rintro e w3 ⟨rfl, b3⟩
        have BF3 := Lib.hid ((BF2.out.alloc BF2.out.size _).trans (b3.mono (by have := BF2.out.size; simp; omega)))
        have hc4 : w3.cell? (a.add k) = some (.int .u32 x) := by rw [b3.cell (by simp; omega)]; rw [World.cell?_alloc_lt _ _ _ (by omega)]; exact hc3
        clear b3 hc3 e0 e1 e2 e3 fe
        cases q with
        | true =>
          obtain ⟨rfl, rfl⟩ := HQE.out (by simp)
          go_wp2_with fail
          go_roundw
          case rel => exact ⟨k + 1, by omega, by go_num, BF3.out⟩
          case measure => simp [intOf]; omega
        | false =>
          go_wp2_with fail
          go_roundw
          case rel => exact ⟨k + 1, by omega, by go_num, BF3.out⟩
          case measure => simp [intOf]; omega
      · have hK := Lib.hid (known_any wr HE.out)
        go_wp2_with fail
        refine hK.out.mono ?_
        rintro e w1 ⟨rfl, b1⟩
        go_wp2_with fail
        go_ret
        exact ⟨rfl, hb.out.trans (b1.mono hb.out.size)⟩
end Go.Proofs.YtcbbinmecnameaaDoor

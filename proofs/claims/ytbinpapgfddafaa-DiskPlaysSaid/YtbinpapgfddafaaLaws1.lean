/-
  Layer 8: DiskPlays, DiskReads: walks.
-/
import Derived.Test.YtbinpapgfddafaaPlayed
import Derived.Test.YtbinpapgfddafaaWorks
import Derived.Test.YtbinpapgfddafaaIs
namespace Go.Proofs.Ytbinpapgfddafaa
open Go.RowKit
set_option maxHeartbeats 1000000
set_option linter.unusedVariables false
set_option linter.unusedSimpArgs false

set_option maxRecDepth 100000 in
theorem DiskPlays_walk (n : Int) (va : Value) (xs : List Ac) (w : World) (ha : ActsIn w va xs) : Calls Try.prog 4 #[.int .i64 n, va] w fun e w' => e = .returned (.bool true) ∧ Below w.heap.size w w' := by
  by_cases hin : (1 ≤ n ∧ n ≤ 32) ∧ xs.length ≤ 40
  · obtain ⟨⟨n0, n1⟩, hx⟩ := hin
    obtain ⟨P, rfl⟩ : ∃ P : Nat, n = (P : Int) := ⟨n.toNat, by omega⟩
    have HP := Lib.hid (played_any (P := P) (by omega) (by omega) ha hx)
    obtain ⟨ao, c, rfl, hc, hm, _⟩ := ha
    go_enter Try.func4, Try.ntmps4
    go_wp2_with fail
    refine HP.out.mono ?_
    rintro e w1 ⟨S, F, v, rfl, hp⟩
    have HI := Lib.hid (is_any hp.dk hp.n)
    have HB := Lib.hid hp.below
    clear hp
    go_wp2_with fail
    refine HI.out.mono ?_
    rintro e w2 ⟨rfl, hb2⟩
    have HB2 := Lib.hid (HB.out.trans (hb2.mono HB.out.size))
    clear hb2
    go_wp2_with fail
    refine (works_any _).mono ?_
    rintro e w3 ⟨rfl, hb3⟩
    have HB3 := Lib.hid (HB2.out.trans (hb3.mono HB2.out.size))
    clear hb3
    go_wp2
    go_ret
    exact ⟨rfl, HB3.out⟩
  · have hcs : n < 1 ∨ (1 ≤ n ∧ 32 < n) ∨ ((1 ≤ n ∧ n ≤ 32) ∧ 40 < xs.length) := by omega
    obtain ⟨ao, c, rfl, hc, hm, _⟩ := ha
    clear hin
    unfold maxLen at hm
    rcases hcs with h | ⟨h, h2⟩ | ⟨⟨h, h2⟩, h3⟩
    all_goals
      go_enter Try.func4, Try.ntmps4
      go_wp2_with fail
      refine (works_any _).mono ?_
      rintro e w3 ⟨rfl, hb3⟩
      have HB3 := Lib.hid hb3
      clear hb3
      go_wp2
      go_ret
      exact ⟨rfl, HB3.out⟩
set_option maxRecDepth 100000 in
theorem DiskReads_walk (n : Int) (va : Value) (xs : List Ac) (m : Int) (w : World) (ha : ActsIn w va xs) : Calls Try.prog 5 #[.int .i64 n, va, .int .i64 m] w fun e w' => e = .returned (.bool true) ∧ Below w.heap.size w w' := by
  by_cases hin : (1 ≤ n ∧ n ≤ 32) ∧ xs.length ≤ 40
  · obtain ⟨⟨n0, n1⟩, hx⟩ := hin
    obtain ⟨P, rfl⟩ : ∃ P : Nat, n = (P : Int) := ⟨n.toNat, by omega⟩
    have hz := zero_arr
    have HP := Lib.hid (played_any (P := P) (by omega) (by omega) ha hx)
    obtain ⟨ao, c, rfl, hc, hm, _⟩ := ha
    go_enter Try.func5, Try.ntmps5
    go_wp2_with fail
    refine HP.out.mono ?_
    rintro e w1 ⟨S, F, v, rfl, hp⟩
    generalize plB P xs = b at hp
    have hlb : b.length ≤ 1000000 := by have := hp.dk.dsk.len; omega
    have hrl : (rdE b m).length = 64 := by
      unfold rdE
      split
      · rename_i h; exact sec_len hp.dk.dsk.len (by have := hp.dk.dsk.div; omega)
      · rfl
    have HR := Lib.hid (Read_any hp.dk m)
    have HP1 := Lib.hid hp
    clear hp
    go_wp2_with fail
    refine HR.out.mono ?_
    rintro e w2 ⟨rfl, hb2⟩
    have HP2 := Lib.hid (HP1.out.after hb2)
    have HP3 := Lib.hid ((HP1.out.after hb2).after ((Below.refl _ _).alloc (Nat.le_refl _) (.cells (sc (rdE b m)) 37)))
    have HX := Lib.hid (ba_new w2 hrl)
    have HRR := Lib.hid (RRead_any HP3.out.n hlb m)
    generalize rdE b m = x at *
    generalize wrR b m = r at *
    clear hb2
    go_wp2_with (first | ((with_reducible apply wp_store_An x); (exact ⟨nou_len, hrl⟩); (rfl); (rfl)))
    refine HRR.out.mono ?_
    rintro e w3 ⟨rfl, hb3⟩
    have HB3 := Lib.hid (HP3.out.below.trans (hb3.mono HP3.out.below.size))
    have HX1 := Lib.hid ((HX.out.below hb3).alloc (.cells (sc x) 37))
    have HX2 := Lib.hid (ba_new w3 hrl)
    have hq : ∀ W, (binOp .eql 37 (.agg (sc x)) (.agg (sc x))).run Try.prog W = .ok (.bool true) W := fun W => by rw [eql_arr _ _ hrl hrl, decide_eq_true rfl]
    have hgd := guard_arr .eql
    clear hb3
    go_wp2_with (first | ((with_reducible apply wp_store_An x); (exact ⟨nou_len, hrl⟩); (rfl); (rfl)) | ((with_reducible apply wp_load_Ag); (kernel_rfl); (exact HX1.out); (rfl)) | ((with_reducible apply wp_load_Ag); (kernel_rfl); (exact HX2.out); (rfl)) | (go_at_call 12; refine (num_any _ _).mono ?_; rintro e w' ⟨rfl, rfl⟩))
    refine (works_any _).mono ?_
    rintro e w4 ⟨rfl, hb4⟩
    have HB4 := Lib.hid ((HB3.out.alloc HB3.out.size _).trans (hb4.mono (by have := HB3.out.size; simp; omega)))
    clear hb4
    go_wp2
    go_ret
    exact ⟨rfl, HB4.out⟩
  · have hcs : n < 1 ∨ (1 ≤ n ∧ 32 < n) ∨ ((1 ≤ n ∧ n ≤ 32) ∧ 40 < xs.length) := by omega
    obtain ⟨ao, c, rfl, hc, hm, _⟩ := ha
    clear hin
    unfold maxLen at hm
    rcases hcs with h | ⟨h, h2⟩ | ⟨⟨h, h2⟩, h3⟩
    all_goals
      go_enter Try.func5, Try.ntmps5
      go_wp2_with fail
      refine (works_any _).mono ?_
      rintro e w3 ⟨rfl, hb3⟩
      have HB3 := Lib.hid hb3
      clear hb3
      go_wp2
      go_ret
      exact ⟨rfl, HB3.out⟩
end Go.Proofs.Ytbinpapgfddafaa

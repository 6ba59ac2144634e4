/-
  Layer 10: goes: a walk. Written by gen_tq.py.
-/
import Derived.Test.YthjdfneibogcgaaDoorSame
namespace Go.Proofs.YthjdfneibogcgaaDoor
open Go.RowKit
set_option maxHeartbeats 16000000
set_option linter.unusedVariables false
set_option linter.unusedSimpArgs false

theorem goes_succ (l : List Tch) (p : Plc) (k : Nat) (t : Tch) (hk : l[k]? = some t) : (l.take (k + 1)).any (fun u => decide (u.to = p)) = ((l.take k).any (fun u => decide (u.to = p)) || decide (t.to = p)) := by
  rw [List.take_add_one, hk]; simp
set_option maxRecDepth 100000 in
theorem goes_any {w : World} {v : Value} {l : List Tch} (p : Plc) (h : TsIs w v l) : Calls Tryd.prog 19 #[v, .agg (pla p)] w fun e w' => e = .returned (.bool (l.any fun t => decide (t.to = p))) ∧ Below w.heap.size w w' := by
  obtain ⟨q, hq⟩ : ∃ q, Hid (q = l.any fun t => decide (t.to = p)) := ⟨_, rfl⟩
  rw [← hq.out]
  have HA := Lib.hid (fun W (hb : Below w.heap.size w W) => (show TsIs W v l from h.below hb))
  obtain ⟨oa, ca, rfl, _, hla⟩ := h.shape
  have HB := Lib.hid (bel1 w (.cells (pla p) 49))
  have RP := Lib.hid ((pla_ok p).new 49 w)
  unfold maxLen at hla
  clear h
  go_enter Tryd.func19, Tryd.ntmps19
  go_wp2
  go_loopw [5] (fun i wr => ∃ k : Nat, k ≤ l.length ∧ i = .int .i64 (k : Int) ∧ Hid (Below w.heap.size w wr) ∧ Hid (Rf 49 2 wr w.heap.size (pla p)) ∧ Hid ((l.take k).any (fun u => decide (u.to = p)) = false)) (fun i _ => l.length + 1 - (intOf i).toNat)
  case atStart => exact ⟨0, by omega, rfl, HB.out, RP.out, by rw [List.take_zero]; exact Lib.hid rfl⟩
  case round =>
    obtain ⟨k, hk, rfl, HBl, HR, HN⟩ := hrel
    by_cases hlt : k < l.length
    · have hi : (k : Int) < (l.length : Int) := by omega
      obtain ⟨g1, o1, c1, t, f1, e1, l1, q1, r1, s1, P1⟩ := (HA.out _ HBl.out).at3 hlt
      simp at e1
      obtain ⟨rfl, rfl⟩ := e1
      have p0 := (HR.out.cell 0).trans (show (pla p)[0]? = some (.int .i64 p.kind) from rfl)
      have p1 := (HR.out.cell 1).trans (show (pla p)[1]? = some (.int .i64 p.n) from rfl)
      have HS := Lib.hid (goes_succ l p k t l1)
      have HL := Lib.hid l1
      clear s1 P1 l1
      by_cases hc : t.to = p
      · have hne := eql_place t.to p
        rw [decide_eq_true hc] at hne
        have HC := Lib.hid hc
        clear hc
        go_wp2
        go_region
        clear q1 r1 p0 p1 hne
        go_wp2
        go_ret
        refine ⟨?_, HBl.out.drew⟩
        have : q = true := by
          rw [hq.out, List.any_eq_true]
          exact ⟨t, List.mem_of_getElem? HL.out, decide_eq_true HC.out⟩
        rw [this]
        rfl
      · have hne := eql_place t.to p
        rw [decide_eq_false hc] at hne
        have HC := Lib.hid hc
        clear hc
        go_wp2
        go_region
        clear q1 r1 p0 p1 hne
        go_wp2
        refine ⟨⟨k + 1, by omega, by go_num, Lib.hid HBl.out.drew, Lib.hid HR.out.drew, ?_⟩, ?_⟩
        · have h1 := HS.out
          rw [HN.out, decide_eq_false HC.out] at h1
          exact Lib.hid h1
        · simp [intOf]; omega
    · obtain rfl : k = l.length := by omega
      have hf := HN.out
      rw [List.take_length] at hf
      have hq2 : q = false := by rw [hq.out, hf]
      subst hq2
      go_wp2
      go_ret
      exact ⟨rfl, HBl.out⟩
end Go.Proofs.YthjdfneibogcgaaDoor

/-
  Layer 12: sets and same of the statements: walks. Written by gen_ref.py.
-/
import Derived.Test.YtdpdoclhdjhjkaaGreatG24
set_option linter.unusedVariables false
set_option linter.unusedSimpArgs false
namespace Go.Proofs.YtdpdoclhdjhjkaaGreat
open Go.RowKit
set_option maxHeartbeats 8000000
set_option maxRecDepth 100000
set_option linter.unusedVariables false
set_option linter.unusedSimpArgs false

attribute [local go_sem] Oper.semAt_some
/-- A list of sets that is read. -/
def UsIn (w : World) (v : Value) (l : List Int) : Prop := Rd 1 w v l.length (l.map (Value.int .u32))
theorem UsIn.at_ {w : World} {v : Value} {l : List Int} (h : UsIn w v l) {k : Nat} (hk : k < l.length) : ∃ g o c x, v = .slice (some ⟨g, o, none⟩) l.length c ∧ l[k]? = some x ∧ w.cell? ⟨g, o + k, none⟩ = some (.int .u32 x) := by
  obtain ⟨g, o, c, e, _, hr⟩ := Rd.elem h hk
  have hx : l[k]? = some l[k] := List.getElem?_eq_getElem hk
  refine ⟨g, o, c, _, e, hx, ?_⟩
  have := hr 0 (.int .u32 l[k]) (by rw [List.getElem?_take, if_pos (by omega), List.getElem?_drop]; simp [hk])
  simpa using this
theorem rt_us {w : World} {g c : Nat} {l : List Int} (h : L2.RT w g c l) (hl : l.length ≤ c ∧ l.length ≤ maxLen) : UsIn w (tbV g l.length c) l := by
  refine ⟨by simp, _, c, rfl, hl.1, hl.2, fun hn => ⟨g, 0, rfl, fun j u hj => ?_⟩⟩
  have hjl := (List.getElem?_eq_some_iff.1 hj).1
  have := h.at_ (k := j) (by simpa using hjl)
  rw [Nat.zero_add, this]
  rw [List.getElem?_map] at hj
  cases e : l[j]? with
  | none => rw [e] at hj; cases hj
  | some x => rw [e] at hj; simp at hj; rw [← hj]; rfl
theorem sets_any {w : World} {va vb : Value} {l : List Int} (ha : UsIn w va l) (hb : UsIn w vb l) : Calls Tryz.prog 61 #[va, vb] w fun e w' => e = .returned (.bool true) ∧ Below w.heap.size w w' := by
  have HA := Lib.hid (fun W (h : Below w.heap.size w W) => (show UsIn W va l from Rd.below ha h))
  have HB := Lib.hid (fun W (h : Below w.heap.size w W) => (show UsIn W vb l from Rd.below hb h))
  obtain ⟨oa, ca, rfl, _, hla⟩ := Rd.shape ha
  obtain ⟨ob, cb, rfl, _, hlb⟩ := Rd.shape hb
  unfold maxLen at hla hlb
  clear ha hb hlb
  go_enter Tryz.func61, Tryz.ntmps61
  go_wp2
  go_loopw [5] (fun q wr => ∃ k : Nat, k ≤ l.length ∧ q = .int .i64 (k : Int) ∧ Hid (Below w.heap.size w wr)) (fun q _ => l.length + 1 - natI q)
  case atStart => exact ⟨0, by omega, rfl, Below.refl _ _⟩
  case round =>
    obtain ⟨k, hk, rfl, HBl⟩ := hrel
    by_cases hlt : k < l.length
    · have hi : (k : Int) < (l.length : Int) := by omega
      obtain ⟨g1, o1, c1, p1, e1, l1, q1⟩ := (HA.out _ HBl.out).at_ hlt
      obtain ⟨g2, o2, c2, p2, e2, l2, q2⟩ := (HB.out _ HBl.out).at_ hlt
      simp at e1 e2
      obtain ⟨rfl, rfl⟩ := e1
      obtain ⟨rfl, rfl⟩ := e2
      rw [l1] at l2
      cases l2
      clear l1
      go_wp2
      go_region
      clear q1 q2
      go_wp2
      refine ⟨⟨k + 1, by omega, by go_num, Lib.hid HBl.out.drew⟩, ?_⟩
      simp [natI]; omega
    · obtain rfl : k = l.length := by omega
      go_wp2
      go_ret
      exact ⟨rfl, HBl.out⟩
end Go.Proofs.YtdpdoclhdjhjkaaGreat

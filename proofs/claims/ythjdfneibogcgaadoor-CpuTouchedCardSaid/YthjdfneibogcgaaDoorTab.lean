/-
  Layer 10: what is asked of the world: the table of package isa (as in layer 4) and cpu.named hold what their initialisers lay.
-/
import Derived.Test.YthjdfneibogcgaaDoorRows
import Derived.Test.YthjdfneibogcgaaDoorMath
import Derived.WalkKit
import Derived.WalkSmall
import Derived.ProofKit
import Derived.OpenShut
import Derived.LaidMore
import Derived.Stop.Joined
import Derived.Lib.LaidTab
import Derived.Stop.LaidErr
set_option linter.unusedVariables false
namespace Go.Proofs.YthjdfneibogcgaaDoor
open Go.RowKit

def opV (k : Nat) : Value := .agg #[.string (bytes (nm k)), .int .i64 (us k : Int)]
def opsCells : Array Value := ((List.range 29).flatMap fun k => [Value.string (bytes (nm k)), Value.int .i64 (us k : Int)]).toArray

/-- The table of isa. -/
structure Env (w : World) : Prop where
  ops : w.var? Tryd.prog "pomander/isa.ops" = some opsCells
/-- The table of cpu. -/
structure Nam (w : World) : Prop where
  named : w.var? Tryd.prog "pomander/cpu.named" = some #[.int .i64 3, .int .i64 4, .int .i64 5, .int .i64 6, .int .i64 7, .int .i64 2]

theorem gOps : Tryd.prog.globalNamed "pomander/isa.ops" = some 1 := by kernel_rfl
theorem gNam : Tryd.prog.globalNamed "pomander/cpu.named" = some 0 := by kernel_rfl
theorem var_lt {w : World} {n : String} {g : Nat} {cs : Array Value} (hg : Tryd.prog.globalNamed n = some g) (h : w.var? Tryd.prog n = some cs) : g < w.heap.size := by
  simp only [World.var?, hg, Option.bind_some] at h
  split at h
  · rename_i hh; exact (Array.getElem?_eq_some_iff.1 hh).1
  · cases h
theorem Env.below {w w' : World} (h : Env w) (hb : Below w.heap.size w w') : Env w' :=
  ⟨var?_below hb gOps (var_lt gOps h.ops) h.ops⟩
theorem Nam.below {w w' : World} (h : Nam w) (hb : Below w.heap.size w w') : Nam w' :=
  ⟨var?_below hb gNam (var_lt gNam h.named) h.named⟩
theorem Nam.at_ {w : World} (h : Nam w) (k : Nat) : w.cell? ⟨0, k, none⟩ = (#[.int .i64 3, .int .i64 4, .int .i64 5, .int .i64 6, .int .i64 7, .int .i64 2] : Array Value)[k]? := World.var?_cell gNam h.named k
theorem Env.block {w : World} (h : Env w) : ∃ t fr, w.heap[1]? = some (.cells opsCells t fr) := by
  have := h.ops
  simp only [World.var?, gOps, Option.bind_some] at this
  split at this
  · rename_i hh
    cases this
    exact ⟨_, _, hh⟩
  · cases this
theorem opsAt_fin : ∀ k : Fin 29, opsCells[2 * k.val]? = some (.string (bytes (nm k.val))) ∧ opsCells[2 * k.val + 1]? = some (.int .i64 (us k.val : Int)) := by
  intro k
  match k with
  | ⟨k, hk⟩ =>
    have : k < 29 := hk
    iterate 29 (rcases k with _ | k; exact ⟨rfl, rfl⟩)
    omega
theorem Env.name {w : World} (h : Env w) {k : Nat} (hk : k < 29) : w.cell? ⟨1, k * 2, none⟩ = some (.string (bytes (nm k))) := by
  rw [World.var?_cell gOps h.ops, Nat.mul_comm k 2]; exact (opsAt_fin ⟨k, hk⟩).1
theorem Env.use {w : World} (h : Env w) {k : Nat} (hk : k < 29) : w.cell? ⟨1, k * 2 + 1, none⟩ = some (.int .i64 (us k : Int)) := by
  rw [World.var?_cell gOps h.ops, Nat.mul_comm k 2]; exact (opsAt_fin ⟨k, hk⟩).2

/-! ### from the row's condition -/
def opsD {H : Type} : DataW H := .agg ((List.range 29).map fun k => .agg [.lit (.string (nm k)), .lit (.int .i64 (us k : Int))])
theorem opsD_eq : (Rows.laid_pomander_isa_ops : DataW Unit) = opsD := rfl

set_option maxRecDepth 100000 in
theorem ops_cells {H : Type} {enc : TypeId × Value → H} {w : World} {base : Nat} {sp : Nat → Bool} {held : Bool} {fuel : Nat} {cs : List Value} {p : List MemPlace}
    (h : DataW.trod enc Tryd.prog w base sp held fuel 116 cs = some (opsD, p)) : cs = opsCells.toList := by
  obtain ⟨xs, m, rfl, hx, hlen, hn, hel⟩ := DataW.trod_array Tryd.underlying116 h
  have cR : Tryd.prog.cellsOf 115 = 2 := by kernel_rfl
  have cA : Tryd.prog.cellsOf 116 = 58 := by kernel_rfl
  rw [cA] at hlen
  simp only [Prod.mk.injEq, opsD, DataW.agg.injEq] at hx
  have hxs := hx.1
  have each : ∀ k, k < 29 → cs[2 * k]? = some (.string (bytes (nm k))) ∧ cs[2 * k + 1]? = some (.int .i64 (us k : Int)) := by
    intro k hk
    have h1 := hel k hk
    rw [cR] at h1
    have hk' : k < xs.length := by omega
    rw [List.getElem?_eq_getElem hk'] at h1
    have h2 : (xs[k]).1 = .agg [.lit (.string (nm k)), .lit (.int .i64 (us k : Int))] := by
      have := congrArg (fun l => l[k]?) hxs
      simp only [List.getElem?_map, List.getElem?_range hk, Option.map_some] at this
      rw [List.getElem?_eq_getElem hk'] at this
      simpa using this.symm
    obtain ⟨ys, n', _, hy, hyl, _, hf⟩ := DataW.trod_struct Tryd.underlying115 h1
    have g0 := hf 0 _ rfl
    have g1 := hf 1 _ rfl
    rw [hy] at h2
    simp only [DataW.agg.injEq] at h2
    obtain ⟨c0, c1, hc⟩ : ∃ c0 c1, (cs.drop (k * 2)).take 2 = [c0, c1] := by
      rw [cR] at hyl
      match hq : (cs.drop (k * 2)).take 2, hyl with
      | [c0, c1], _ => exact ⟨c0, c1, rfl⟩
    rw [hc] at g0 g1
    have e0 : Tryd.prog.cellsOf 9 = 1 := by kernel_rfl
    have e1 : Tryd.prog.cellsOf 3 = 1 := by kernel_rfl
    change DataW.trod enc Tryd.prog w base sp held n' 9 (List.take (Tryd.prog.cellsOf 9) [c0, c1]) = ys[0]? at g0
    change DataW.trod enc Tryd.prog w base sp held n' 3 (List.take (Tryd.prog.cellsOf 3) [c1]) = ys[1]? at g1
    rw [e0] at g0
    rw [e1] at g1
    match ys, h2 with
    | [y0, y1], h2 =>
      simp only [List.map_cons, List.map_nil, List.cons.injEq, and_true] at h2
      simp only [List.getElem?_cons_zero, List.getElem?_cons_succ] at g0 g1
      obtain ⟨s, q0, q0', _⟩ := DataW.trod_string Tryd.underlying9 g0
      obtain ⟨z, q1, q1', _⟩ := DataW.trod_int Tryd.underlying3 g1
      rw [q0', q1'] at h2
      simp at q0 q1 h2
      obtain ⟨h2a, h2b⟩ := h2
      have hs : s = bytes (nm k) := by
        apply ByteArray.ext
        unfold bytes
        rw [← h2a]
      subst hs h2b
      have at0 : cs[k * 2]? = some c0 := by
        have := congrArg (fun l => l[0]?) hc
        simpa [List.getElem?_take, List.getElem?_drop] using this
      have at1 : cs[k * 2 + 1]? = some c1 := by
        have := congrArg (fun l => l[1]?) hc
        simpa [List.getElem?_take, List.getElem?_drop] using this
      rw [Nat.mul_comm 2 k]
      exact ⟨by rw [at0, q0], by rw [at1, q1]⟩
  apply List.ext_getElem?
  intro i
  by_cases hi : i < 58
  · have hk : i / 2 < 29 := by omega
    have ha := each (i / 2) hk
    have hb := opsAt_fin ⟨i / 2, hk⟩
    simp only [Array.getElem?_toList] 
    rcases Nat.mod_two_eq_zero_or_one i with e | e
    · have : i = 2 * (i / 2) := by omega
      rw [this]
      rw [ha.1, hb.1]
    · have : i = 2 * (i / 2) + 1 := by omega
      rw [this]
      rw [ha.2, hb.2]
  · rw [List.getElem?_eq_none (by omega), List.getElem?_eq_none (by show opsCells.toList.length ≤ i; have : opsCells.toList.length = 58 := by kernel_rfl
                                                                    omega)]

theorem env_of_met {W : World} {rest : List (String × DataW Unit)} (h3 : laidMet Tryd.prog (("pomander/isa.ops", Rows.laid_pomander_isa_ops) :: rest) W) : Env W := by
  refine ⟨?_⟩
  obtain ⟨ps, ⟨g', t', cs, fuel, p, q, hg', ht', hvar, hd, _, _⟩, _⟩ := h3
  obtain rfl := Option.some.inj (gOps.symm.trans hg')
  obtain rfl := Option.some.inj ((show (Tryd.prog.globals[1]?).map (·.type) = some 116 by kernel_rfl).symm.trans ht')
  rw [opsD_eq] at hd
  have := ops_cells hd
  rw [hvar]
  exact congrArg some (Array.ext' this)
theorem nam_of_met {W : World} {rest : List (String × DataW Unit)} (h : laidMet Tryd.prog (("pomander/cpu.named", Rows.laid_pomander_cpu_named) :: rest) W) : Nam W := by
  refine ⟨?_⟩
  have h2 : laidMet Tryd.prog (("pomander/cpu.named", Lib.tabData .i64 [3, 4, 5, 6, 7, 2]) :: rest) W := h
  exact Lib.tabIs_of_head (g := 0) (t := 89) (e := 47) (n := 6) (by kernel_rfl) (by kernel_rfl) (by kernel_rfl) (by kernel_rfl) (by kernel_rfl) (by kernel_rfl) h2
theorem env_of_laid {W : World} (h : laidMetH Tryd.prog Rows.cpuWordsRow.laid W) : Env W ∧ Nam W := by
  rw [MakeChecks.laidMetH_plain _ _ _ (by kernel_rfl)] at h
  exact ⟨env_of_met h, nam_of_met (laidMet.tail h)⟩
theorem env_of_laid1 {W : World} (h : laidMetH Tryd.prog Rows.cpuTrapsRow.laid W) : Env W := by
  rw [MakeChecks.laidMetH_plain _ _ _ (by kernel_rfl)] at h
  exact env_of_met h
end Go.Proofs.YthjdfneibogcgaaDoor

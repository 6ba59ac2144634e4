/-
  Layer 10: maps of function values: what package cpu's two maps hold, and what a look into one gives.
-/
import Derived.Test.YthjdfneibogcgaaDoorStep2
import Derived.Maps.OwnOps
import Derived.Maps.OwnIn
namespace Go.Proofs.YthjdfneibogcgaaDoor
open Go.RowKit
set_option maxHeartbeats 4000000
set_option linter.unusedVariables false
set_option linter.unusedSimpArgs false

/-- A function as a value. -/
def fv (n : Nat) : Value := .func (.func n) #[] #[]
/-- How it reads: as its number. -/
def fR : Value → Option (DataW Unit × List MemPlace)
  | .func (.func n) a b => if a.size = 0 ∧ b.size = 0 then some (.lit (.int .i64 (n : Int)), []) else none
  | _ => none
theorem fR_fv (n : Nat) : fR (fv n) = some (.lit (.int .i64 (n : Int)), []) := rfl
theorem fR_inv {v : Value} {n : Nat} {ps : List MemPlace} (h : fR v = some (.lit (.int .i64 (n : Int)), ps)) : v = fv n := by
  unfold fR at h
  split at h
  · rename_i m a b
    split at h
    · rename_i hs
      simp only [Option.some.injEq, Prod.mk.injEq, DataW.lit.injEq, Lit.int.injEq, true_and] at h
      have hm : m = n := Int.ofNat.inj h.1
      subst hm
      have ea : a = #[] := Array.eq_empty_of_size_eq_zero hs.1
      have eb : b = #[] := Array.eq_empty_of_size_eq_zero hs.2
      subst ea eb
      rfl
    · cases h
  · cases h
/-- A map, by the list of what was put into it, the last one first. -/
def DL : List (Int × Nat) → DataW Unit
  | [] => .map []
  | (a, n) :: r => (DL r).put (.int .i64 a) (.lit (.int .i64 (n : Int)))
def look : List (Int × Nat) → Int → Option Nat
  | [], _ => none
  | (a, n) :: r, k => if k = a then some n else look r k
theorem isKeyI (x : Int) : WideAt.IsKeyLit (Lit.int .i64 x) := trivial
theorem DL_map : ∀ l, Maps.IsMap (DL l)
  | [] => Maps.isMap_empty
  | (a, n) :: r => (DL_map r).put _ _
theorem DL_at (k : Int) (zd : DataW Unit) : ∀ l, (DL l).atKey (.int .i64 k) zd = match look l k with | some n => .lit (.int .i64 (n : Int)) | none => zd
  | [] => rfl
  | (a, n) :: r => by
    by_cases h : k = a
    · subst h
      rw [DL, Maps.atKey_put_same (DL_map r) (isKeyI k)]
      simp [look]
    · rw [DL, Maps.atKey_put_other (by simpa using h), DL_at k zd r]
      simp [look, h]
theorem opLaw : Maps.Keyed Tryd.prog 54 := Maps.int_keyed Tryd.underlying54
theorem key_op {x : Int} (h : (Lit.int .i64 x).wf = true) : keyOf Tryd.prog 54 (.int .i64 x) = some (.int .i64 x) := Maps.keyOf_int_mk Tryd.underlying54 h
def lookV (l : List (Int × Nat)) (k : Int) : Array Value := match look l k with | some n => #[fv n, .bool true] | none => #[.nilFunc, .bool false]
theorem look_f {w : World} {b n : Nat} {l : List (Int × Nat)} (h : w.ownsMap Tryd.prog 54 fR b n (DL l)) {t e : TypeId} (ht : Tryd.prog.underlying t = some (.map 54 e)) (hz : (zeroValue e).run Tryd.prog w = .ok .nilFunc w) {k : Int} (hk : (Lit.int .i64 k).wf = true) :
    (Instr.lookup t (.map (some b)) (.int .i64 k) true).run Tryd.prog w = .ok (.tuple (lookV l k)) w := by
  obtain ⟨es, clock, hb, F, _, hD⟩ := h
  unfold lookV
  rcases Maps.fit_look true opLaw ht hz hb F (key_op hk) with ⟨hrun, _, hat⟩ | ⟨e0, y, _, _, hrun, hRv, hat, _⟩
  · have h1 := hat (.lit (.bool true))
    rw [← hD, DL_at] at h1
    cases hl : look l k with
    | none => simpa using hrun
    | some n => rw [hl] at h1; simp at h1
  · have h1 := hat (.lit (.bool true))
    have h2 := hat (.lit (.bool false))
    rw [← hD, DL_at] at h1 h2
    cases hl : look l k with
    | none => rw [hl] at h1 h2; simp only at h1 h2; rw [← h1] at h2; simp at h2
    | some n =>
      rw [hl] at h1
      simp only at h1
      obtain ⟨y1, y2⟩ := y
      simp only at h1
      subst h1
      rw [fR_inv hRv] at hrun
      simpa using hrun
/-- A map literal's entry, at the operation. -/
theorem wpList_insert_f (w : World) {ops : Array Oper} {rest : List Oper} {o : Oper} {a : Act} {Q : Exit → Act → World → Prop}
    (hg : o.guard = none) (m x v : Operand) (t : TypeId) (hop : o.op = Op.insert t m x v)
    (e : TypeId) (ht : Tryd.prog.underlying t = some (.map 54 e)) (b n : Nat) (l : List (Int × Nat))
    (hm : a.eval m = .map (some b)) (hown : w.ownsMap Tryd.prog 54 fR b n (DL l)) (hn : n < maxLen) (k : Int) (f : Nat) (hx : a.eval x = .int .i64 k) (hv : a.eval v = fv f) (hk : (Lit.int .i64 k).wf = true)
    (hK : ∀ w', w'.ownsMap Tryd.prog 54 fR b (n + 1) (DL ((k, f) :: l)) → w.mapTurned w' b → wpList Tryd.prog ops Q rest (a.put o.dst undef) w') :
    wpList Tryd.prog ops Q (o :: rest) a w := by
  refine wpList_plain hg fun K' hK' => ?_
  obtain ⟨w', hrun, r1, r2⟩ := hown.store opLaw ht hn (key_op hk) (fR_fv f)
  unfold Oper.wp
  simp [execOp, hop, hm, hx, hv, hrun, Result.andThen]
  exact hK' _ _ (hK w' r1 r2)
theorem turned_size {w w' : World} {b : Nat} (h : w.mapTurned w' b) : w'.heap.size = w.heap.size := by
  obtain ⟨es, clock, es', clock', _, rfl⟩ := h
  simp [ChangeMaps.setBlock]
theorem turned_below {B b : Nat} {w0 w w' : World} (h0 : Below B w0 w) (hB : B ≤ b) (h : w.mapTurned w' b) (hb : b < w.heap.size) : Below B w0 w' := h0.grown h.grown (by have := h0.size; omega) (by intro k e; cases e; omega)
def rL : List (Int × Nat) := [(12, 84), (11, 83), (10, 82), (9, 81), (8, 80), (7, 79), (6, 71), (5, 78), (4, 65)]
def gL : List (Int × Nat) := [(26, 93), (21, 92), (20, 91), (22, 90), (15, 89), (13, 88), (3, 87), (2, 86)]
theorem reckoned_any (w : World) : Calls Tryd.prog 68 #[] w fun e w' => e = .returned (.map (some w.heap.size)) ∧ w'.ownsMap Tryd.prog 54 fR w.heap.size 9 (DL rL) ∧ Below w.heap.size w w' := by
  have hmm := @run_makeMap Tryd.prog
  have HO0 : Hid ((w.alloc (.map #[] 0)).ownsMap Tryd.prog 54 fR w.heap.size 0 (DL [])) := World.ownsMap_made w Tryd.prog 54 fR
  have HB0 := Lib.hid (bel1 w (.map #[] 0))
  go_enter Tryd.func68, Tryd.ntmps68
  go_wp2_with (refine wpList_insert_f _ rfl _ _ _ 96 rfl 73 Tryd.underlying96 w.heap.size 0 _ rfl HO0.out (by decide) 4 65 rfl rfl (by decide) ?_)
  intro w1 hown ht
  have HO1 := Lib.hid hown
  have HB1 := Lib.hid (turned_below HB0.out (Nat.le_refl _) ht HO0.out.lt)
  clear hown ht
  go_wp2_with (refine wpList_insert_f _ rfl _ _ _ 96 rfl 73 Tryd.underlying96 w.heap.size 1 _ rfl HO1.out (by decide) 5 78 rfl rfl (by decide) ?_)
  intro w2 hown ht
  have HO2 := Lib.hid hown
  have HB2 := Lib.hid (turned_below HB1.out (Nat.le_refl _) ht HO1.out.lt)
  clear hown ht
  go_wp2_with (refine wpList_insert_f _ rfl _ _ _ 96 rfl 73 Tryd.underlying96 w.heap.size 2 _ rfl HO2.out (by decide) 6 71 rfl rfl (by decide) ?_)
  intro w3 hown ht
  have HO3 := Lib.hid hown
  have HB3 := Lib.hid (turned_below HB2.out (Nat.le_refl _) ht HO2.out.lt)
  clear hown ht
  go_wp2_with (refine wpList_insert_f _ rfl _ _ _ 96 rfl 73 Tryd.underlying96 w.heap.size 3 _ rfl HO3.out (by decide) 7 79 rfl rfl (by decide) ?_)
  intro w4 hown ht
  have HO4 := Lib.hid hown
  have HB4 := Lib.hid (turned_below HB3.out (Nat.le_refl _) ht HO3.out.lt)
  clear hown ht
  go_wp2_with (refine wpList_insert_f _ rfl _ _ _ 96 rfl 73 Tryd.underlying96 w.heap.size 4 _ rfl HO4.out (by decide) 8 80 rfl rfl (by decide) ?_)
  intro w5 hown ht
  have HO5 := Lib.hid hown
  have HB5 := Lib.hid (turned_below HB4.out (Nat.le_refl _) ht HO4.out.lt)
  clear hown ht
  go_wp2_with (refine wpList_insert_f _ rfl _ _ _ 96 rfl 73 Tryd.underlying96 w.heap.size 5 _ rfl HO5.out (by decide) 9 81 rfl rfl (by decide) ?_)
  intro w6 hown ht
  have HO6 := Lib.hid hown
  have HB6 := Lib.hid (turned_below HB5.out (Nat.le_refl _) ht HO5.out.lt)
  clear hown ht
  go_wp2_with (refine wpList_insert_f _ rfl _ _ _ 96 rfl 73 Tryd.underlying96 w.heap.size 6 _ rfl HO6.out (by decide) 10 82 rfl rfl (by decide) ?_)
  intro w7 hown ht
  have HO7 := Lib.hid hown
  have HB7 := Lib.hid (turned_below HB6.out (Nat.le_refl _) ht HO6.out.lt)
  clear hown ht
  go_wp2_with (refine wpList_insert_f _ rfl _ _ _ 96 rfl 73 Tryd.underlying96 w.heap.size 7 _ rfl HO7.out (by decide) 11 83 rfl rfl (by decide) ?_)
  intro w8 hown ht
  have HO8 := Lib.hid hown
  have HB8 := Lib.hid (turned_below HB7.out (Nat.le_refl _) ht HO7.out.lt)
  clear hown ht
  go_wp2_with (refine wpList_insert_f _ rfl _ _ _ 96 rfl 73 Tryd.underlying96 w.heap.size 8 _ rfl HO8.out (by decide) 12 84 rfl rfl (by decide) ?_)
  intro w9 hown ht
  have HO9 := Lib.hid hown
  have HB9 := Lib.hid (turned_below HB8.out (Nat.le_refl _) ht HO8.out.lt)
  clear hown ht
  go_wp2
  go_ret
  exact ⟨rfl, HO9.out, HB9.out⟩
theorem given_any (w : World) : Calls Tryd.prog 69 #[] w fun e w' => e = .returned (.map (some w.heap.size)) ∧ w'.ownsMap Tryd.prog 54 fR w.heap.size 8 (DL gL) ∧ Below w.heap.size w w' := by
  have hmm := @run_makeMap Tryd.prog
  have HO0 : Hid ((w.alloc (.map #[] 0)).ownsMap Tryd.prog 54 fR w.heap.size 0 (DL [])) := World.ownsMap_made w Tryd.prog 54 fR
  have HB0 := Lib.hid (bel1 w (.map #[] 0))
  go_enter Tryd.func69, Tryd.ntmps69
  go_wp2_with (refine wpList_insert_f _ rfl _ _ _ 100 rfl 98 Tryd.underlying100 w.heap.size 0 _ rfl HO0.out (by decide) 2 86 rfl rfl (by decide) ?_)
  intro w1 hown ht
  have HO1 := Lib.hid hown
  have HB1 := Lib.hid (turned_below HB0.out (Nat.le_refl _) ht HO0.out.lt)
  clear hown ht
  go_wp2_with (refine wpList_insert_f _ rfl _ _ _ 100 rfl 98 Tryd.underlying100 w.heap.size 1 _ rfl HO1.out (by decide) 3 87 rfl rfl (by decide) ?_)
  intro w2 hown ht
  have HO2 := Lib.hid hown
  have HB2 := Lib.hid (turned_below HB1.out (Nat.le_refl _) ht HO1.out.lt)
  clear hown ht
  go_wp2_with (refine wpList_insert_f _ rfl _ _ _ 100 rfl 98 Tryd.underlying100 w.heap.size 2 _ rfl HO2.out (by decide) 13 88 rfl rfl (by decide) ?_)
  intro w3 hown ht
  have HO3 := Lib.hid hown
  have HB3 := Lib.hid (turned_below HB2.out (Nat.le_refl _) ht HO2.out.lt)
  clear hown ht
  go_wp2_with (refine wpList_insert_f _ rfl _ _ _ 100 rfl 98 Tryd.underlying100 w.heap.size 3 _ rfl HO3.out (by decide) 15 89 rfl rfl (by decide) ?_)
  intro w4 hown ht
  have HO4 := Lib.hid hown
  have HB4 := Lib.hid (turned_below HB3.out (Nat.le_refl _) ht HO3.out.lt)
  clear hown ht
  go_wp2_with (refine wpList_insert_f _ rfl _ _ _ 100 rfl 98 Tryd.underlying100 w.heap.size 4 _ rfl HO4.out (by decide) 22 90 rfl rfl (by decide) ?_)
  intro w5 hown ht
  have HO5 := Lib.hid hown
  have HB5 := Lib.hid (turned_below HB4.out (Nat.le_refl _) ht HO4.out.lt)
  clear hown ht
  go_wp2_with (refine wpList_insert_f _ rfl _ _ _ 100 rfl 98 Tryd.underlying100 w.heap.size 5 _ rfl HO5.out (by decide) 20 91 rfl rfl (by decide) ?_)
  intro w6 hown ht
  have HO6 := Lib.hid hown
  have HB6 := Lib.hid (turned_below HB5.out (Nat.le_refl _) ht HO5.out.lt)
  clear hown ht
  go_wp2_with (refine wpList_insert_f _ rfl _ _ _ 100 rfl 98 Tryd.underlying100 w.heap.size 6 _ rfl HO6.out (by decide) 21 92 rfl rfl (by decide) ?_)
  intro w7 hown ht
  have HO7 := Lib.hid hown
  have HB7 := Lib.hid (turned_below HB6.out (Nat.le_refl _) ht HO6.out.lt)
  clear hown ht
  go_wp2_with (refine wpList_insert_f _ rfl _ _ _ 100 rfl 98 Tryd.underlying100 w.heap.size 7 _ rfl HO7.out (by decide) 26 93 rfl rfl (by decide) ?_)
  intro w8 hown ht
  have HO8 := Lib.hid hown
  have HB8 := Lib.hid (turned_below HB7.out (Nat.le_refl _) ht HO7.out.lt)
  clear hown ht
  go_wp2
  go_ret
  exact ⟨rfl, HO8.out, HB8.out⟩
end Go.Proofs.YthjdfneibogcgaaDoor

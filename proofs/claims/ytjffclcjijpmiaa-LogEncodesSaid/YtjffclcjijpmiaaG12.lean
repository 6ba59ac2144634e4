/-
  Layer 16: the program's refusals: must, caught, the deferred closures; a span; may a log begin: walks. Layer 16: what each kind may have: the map, made and looked into. Layer 16: bytes are taken: the closure: walk. Layer 16: a number's bits, moved and joined. No walk.
-/
import Derived.Test.YtjffclcjijpmiaaG06
import Derived.Recover
import Derived.Defers
import Derived.Maps.OwnOps
import Derived.Maps.OwnIn
import Derived.Laws.BitsLemmas
import Derived.IntWalk
set_option linter.unusedVariables false
set_option linter.unusedSimpArgs false
namespace Go.Proofs.Ytjffclcjijpmiaa.LG
open Go.RowKit
set_option maxHeartbeats 4000000
set_option maxRecDepth 100000
set_option linter.unusedVariables false
set_option linter.unusedSimpArgs false

/-- What is raised where something may not be. -/
def chain (why : Int) : List PanicEntry := [{ v := .iface 84 (.int .i64 why), recovered := false }]
theorem must_yes (why : Int) (w : World) : Calls Try.prog 46 #[.bool true, .int .i64 why] w fun e w' => e = .returned (.tuple #[]) ∧ w = w' := by
  go_enter Try.func46, Try.ntmps46
  go_wp2
  go_end0
  exact ⟨rfl, rfl⟩
theorem must_no (why : Int) (w : World) : Calls Try.prog 46 #[.bool false, .int .i64 why] w fun e w' => e = .panicked (chain why) ∧ w = w' := by
  go_enter Try.func46, Try.ntmps46
  go_wp2
  exact ⟨rfl, rfl, rfl⟩
theorem caught_nil (w : World) : Calls Try.prog 26 #[.nilIface] w fun e w' => e = .returned (.int .i64 0) ∧ w = w' := by
  go_enter Try.func26, Try.ntmps26
  go_wp2
  refine bodyPost_ret (results_tmp rfl _ _ _) rfl ?_
  exact ⟨rfl, rfl⟩
theorem caught_ref (why : Int) (w : World) : Calls Try.prog 26 #[.iface 84 (.int .i64 why)] w fun e w' => e = .returned (.int .i64 why) ∧ w = w' := by
  have hta : (Instr.typeAssert (.iface 84 (.int .i64 why)) 20 84 true).run Try.prog w = .ok (.tuple #[.int .i64 why, .bool true]) w := by
    simp [Instr.typeAssert]
  go_enter Try.func26, Try.ntmps26
  go_wp2
  refine bodyPost_ret (results_tmp rfl _ _ _) rfl ?_
  exact ⟨rfl, rfl⟩
theorem has_any (a b n : Int) (w : World) : Calls Try.prog 59 #[.agg #[.int .i64 a, .int .i64 b], .int .i64 n] w fun e w' => e = .returned (.bool (decide (a ≤ n ∧ n ≤ b))) ∧ Below w.heap.size w w' := by
  obtain ⟨d, hd⟩ : ∃ d, Hid (d = decide (a ≤ n ∧ n ≤ b)) := ⟨_, Lib.hid rfl⟩
  rw [← hd.out]
  by_cases h1 : a ≤ n
  · by_cases h2 : n ≤ b
    · obtain rfl : d = true := by rw [hd.out]; exact decide_eq_true ⟨h1, h2⟩
      go_enter Try.func59, Try.ntmps59
      go_wp2
      go_ret
      exact ⟨rfl, bel1 _ _⟩
    · obtain rfl : d = false := by rw [hd.out]; exact decide_eq_false (fun h => h2 h.2)
      have h2' : b < n := by omega
      go_enter Try.func59, Try.ntmps59
      go_wp2
      go_ret
      exact ⟨rfl, bel1 _ _⟩
  · obtain rfl : d = false := by rw [hd.out]; exact decide_eq_false (fun h => h1 h.1)
    have h1' : n < a := by omega
    have h1d : decide (a ≤ n) = false := by simp; omega
    go_enter Try.func59, Try.ntmps59
    go_wp2
    go_ret
    exact ⟨rfl, bel1 _ _⟩
theorem Check1_p (p : Addr) (x why : Int) (w : World) (hc : w.cell? p = some (.int .i64 x)) (hz : w.frozen? p = false) :
    CallsD Try.prog 25 #[.pointer (some p)] (.panicking (chain why)) w fun e u' w' => e = .returned (.tuple #[]) ∧ u' = .panicking [{ v := .iface 84 (.int .i64 why), recovered := true }] ∧ w' = w.setCell p (.int .i64 why) := by
  refine callsD_of_wpS Try.func25 rfl fun c₀ cs hu => ?_
  apply wpS_region
  simp [wpOpsS, go_sem, recoverD, hu, chain, Try.ntmps25, Exit.thenS]
  refine (caught_ref why w).mono ?_
  rintro e w1 ⟨rfl, rfl⟩
  simp [wpOpsS, go_sem, hc, hz, bodyPostS, results, Try.results25]
theorem Check1_r (p : Addr) (x : Int) (w : World) (hc : w.cell? p = some (.int .i64 x)) (hz : w.frozen? p = false) :
    CallsD Try.prog 25 #[.pointer (some p)] .returning w fun e u' w' => e = .returned (.tuple #[]) ∧ u' = .returning ∧ w' = w.setCell p (.int .i64 0) := by
  refine callsD_of_wpS Try.func25 rfl fun c₀ cs hu => ?_
  apply wpS_region
  simp [wpOpsS, go_sem, recoverD, hu, Try.ntmps25, Exit.thenS]
  refine (caught_nil w).mono ?_
  rintro e w1 ⟨rfl, rfl⟩
  cases c₀
  simp_all [wpOpsS, go_sem, hc, hz, bodyPostS, results, Try.results25]
theorem Encode1_p (p : Addr) (x why : Int) (w : World) (hc : w.cell? p = some (.int .i64 x)) (hz : w.frozen? p = false) :
    CallsD Try.prog 32 #[.pointer (some p)] (.panicking (chain why)) w fun e u' w' => e = .returned (.tuple #[]) ∧ u' = .panicking [{ v := .iface 84 (.int .i64 why), recovered := true }] ∧ w' = w.setCell p (.int .i64 why) := by
  refine callsD_of_wpS Try.func32 rfl fun c₀ cs hu => ?_
  apply wpS_region
  simp [wpOpsS, go_sem, recoverD, hu, chain, Try.ntmps32, Exit.thenS]
  refine (caught_ref why w).mono ?_
  rintro e w1 ⟨rfl, rfl⟩
  simp [wpOpsS, go_sem, hc, hz, bodyPostS, results, Try.results32]
theorem Encode1_r (p : Addr) (x : Int) (w : World) (hc : w.cell? p = some (.int .i64 x)) (hz : w.frozen? p = false) :
    CallsD Try.prog 32 #[.pointer (some p)] .returning w fun e u' w' => e = .returned (.tuple #[]) ∧ u' = .returning ∧ w' = w.setCell p (.int .i64 0) := by
  refine callsD_of_wpS Try.func32 rfl fun c₀ cs hu => ?_
  apply wpS_region
  simp [wpOpsS, go_sem, recoverD, hu, Try.ntmps32, Exit.thenS]
  refine (caught_nil w).mono ?_
  rintro e w1 ⟨rfl, rfl⟩
  cases c₀
  simp_all [wpOpsS, go_sem, hc, hz, bodyPostS, results, Try.results32]
theorem Bound1_p (p : Addr) (x why : Int) (w : World) (hc : w.cell? p = some (.int .i64 x)) (hz : w.frozen? p = false) :
    CallsD Try.prog 36 #[.pointer (some p)] (.panicking (chain why)) w fun e u' w' => e = .returned (.tuple #[]) ∧ u' = .panicking [{ v := .iface 84 (.int .i64 why), recovered := true }] ∧ w' = w.setCell p (.int .i64 why) := by
  refine callsD_of_wpS Try.func36 rfl fun c₀ cs hu => ?_
  apply wpS_region
  simp [wpOpsS, go_sem, recoverD, hu, chain, Try.ntmps36, Exit.thenS]
  refine (caught_ref why w).mono ?_
  rintro e w1 ⟨rfl, rfl⟩
  simp [wpOpsS, go_sem, hc, hz, bodyPostS, results, Try.results36]
theorem Bound1_r (p : Addr) (x : Int) (w : World) (hc : w.cell? p = some (.int .i64 x)) (hz : w.frozen? p = false) :
    CallsD Try.prog 36 #[.pointer (some p)] .returning w fun e u' w' => e = .returned (.tuple #[]) ∧ u' = .returning ∧ w' = w.setCell p (.int .i64 0) := by
  refine callsD_of_wpS Try.func36 rfl fun c₀ cs hu => ?_
  apply wpS_region
  simp [wpOpsS, go_sem, recoverD, hu, Try.ntmps36, Exit.thenS]
  refine (caught_nil w).mono ?_
  rintro e w1 ⟨rfl, rfl⟩
  cases c₀
  simp_all [wpOpsS, go_sem, hc, hz, bodyPostS, results, Try.results36]
theorem Decode1_p (p : Addr) (x why : Int) (w : World) (hc : w.cell? p = some (.int .i64 x)) (hz : w.frozen? p = false) :
    CallsD Try.prog 39 #[.pointer (some p)] (.panicking (chain why)) w fun e u' w' => e = .returned (.tuple #[]) ∧ u' = .panicking [{ v := .iface 84 (.int .i64 why), recovered := true }] ∧ w' = w.setCell p (.int .i64 why) := by
  refine callsD_of_wpS Try.func39 rfl fun c₀ cs hu => ?_
  apply wpS_region
  simp [wpOpsS, go_sem, recoverD, hu, chain, Try.ntmps39, Exit.thenS]
  refine (caught_ref why w).mono ?_
  rintro e w1 ⟨rfl, rfl⟩
  simp [wpOpsS, go_sem, hc, hz, bodyPostS, results, Try.results39]
theorem Decode1_r (p : Addr) (x : Int) (w : World) (hc : w.cell? p = some (.int .i64 x)) (hz : w.frozen? p = false) :
    CallsD Try.prog 39 #[.pointer (some p)] .returning w fun e u' w' => e = .returned (.tuple #[]) ∧ u' = .returning ∧ w' = w.setCell p (.int .i64 0) := by
  refine callsD_of_wpS Try.func39 rfl fun c₀ cs hu => ?_
  apply wpS_region
  simp [wpOpsS, go_sem, recoverD, hu, Try.ntmps39, Exit.thenS]
  refine (caught_nil w).mono ?_
  rintro e w1 ⟨rfl, rfl⟩
  cases c₀
  simp_all [wpOpsS, go_sem, hc, hz, bodyPostS, results, Try.results39]
end Go.Proofs.Ytjffclcjijpmiaa.LG
namespace Go.Proofs.Ytjffclcjijpmiaa.LG
open Go.RowKit
set_option maxHeartbeats 4000000
set_option maxRecDepth 100000
set_option linter.unusedVariables false
set_option linter.unusedSimpArgs false

/-- A value reads as itself. -/
def fR (v : Value) : Option (DataW Value × List MemPlace) := some (.held v, [])
def DL : List (Int × Value) → DataW Value
  | [] => .map []
  | (a, n) :: r => (DL r).put (.int .i64 a) (.held n)
def look : List (Int × Value) → Int → Option Value
  | [], _ => none
  | (a, n) :: r, k => if k = a then some n else look r k
theorem isKeyI (x : Int) : WideAt.IsKeyLit (Lit.int .i64 x) := trivial
theorem DL_map : ∀ l, Maps.IsMap (DL l)
  | [] => Maps.isMap_empty
  | (a, n) :: r => (DL_map r).put _ _
theorem DL_at (k : Int) (zd : DataW Value) : ∀ l, (DL l).atKey (.int .i64 k) zd = match look l k with | some n => .held n | none => zd
  | [] => rfl
  | (a, n) :: r => by
    by_cases h : k = a
    · subst h
      rw [DL, Maps.atKey_put_same (DL_map r) (isKeyI k)]
      simp [look]
    · rw [DL, Maps.atKey_put_other (by simpa using h), DL_at k zd r]
      simp [look, h]
theorem kLaw : Maps.Keyed Try.prog 40 := Maps.int_keyed Try.underlying40
theorem key_k {x : Int} (h : (Lit.int .i64 x).wf = true) : keyOf Try.prog 40 (.int .i64 x) = some (.int .i64 x) := Maps.keyOf_int_mk Try.underlying40 h
def shp (a b c d : Int) : Value := .agg #[.int .i64 a, .int .i64 b, .int .i64 c, .int .i64 d]
def lookV (l : List (Int × Value)) (k : Int) : Array Value := match look l k with | some n => #[n, .bool true] | none => #[shp 0 0 0 0, .bool false]
theorem look_f {w : World} {b n : Nat} {l : List (Int × Value)} (h : w.ownsMap Try.prog 40 fR b n (DL l)) {t e : TypeId} (ht : Try.prog.underlying t = some (.map 40 e)) (hz : (zeroValue e).run Try.prog w = .ok (shp 0 0 0 0) w) {k : Int} (hk : (Lit.int .i64 k).wf = true) :
    (Instr.lookup t (.map (some b)) (.int .i64 k) true).run Try.prog w = .ok (.tuple (lookV l k)) w := by
  obtain ⟨es, clock, hb, F, _, hD⟩ := h
  unfold lookV
  rcases Maps.fit_look true kLaw ht hz hb F (key_k hk) with ⟨hrun, _, hat⟩ | ⟨e0, y, _, _, hrun, hRv, hat, _⟩
  · have h1 := hat (.lit (.bool true))
    rw [← hD, DL_at] at h1
    cases hl : look l k with
    | none => simpa using hrun
    | some n => rw [hl] at h1; simp at h1
  · have h1 := hat (.lit (.bool true))
    have h2 := hat (.lit (.bool false))
    rw [← hD, DL_at] at h1 h2
    cases hl : look l k with
    | none => rw [hl] at h1 h2; simp only at h1 h2; rw [← h1] at h2; simp at h2
    | some n =>
      rw [hl] at h1
      simp only at h1
      obtain ⟨y1, y2⟩ := y
      simp only at h1
      subst h1
      simp only [fR, Option.some.injEq, Prod.mk.injEq, DataW.held.injEq] at hRv
      rw [hRv.1] at hrun
      simpa using hrun
/-- A map literal's entry, at the operation. -/
theorem wpList_insert_f (w : World) {ops : Array Oper} {rest : List Oper} {o : Oper} {a : Act} {Q : Exit → Act → World → Prop}
    (hg : o.guard = none) (m x v : Operand) (t : TypeId) (hop : o.op = Op.insert t m x v)
    (e : TypeId) (ht : Try.prog.underlying t = some (.map 40 e)) (b n : Nat) (l : List (Int × Value))
    (hm : a.eval m = .map (some b)) (hown : w.ownsMap Try.prog 40 fR b n (DL l)) (hn : n < maxLen) (k : Int) (f : Value) (hx : a.eval x = .int .i64 k) (hv : a.eval v = f) (hk : (Lit.int .i64 k).wf = true)
    (hK : ∀ w', w'.ownsMap Try.prog 40 fR b (n + 1) (DL ((k, f) :: l)) → w.mapTurned w' b → wpList Try.prog ops Q rest (a.put o.dst undef) w') :
    wpList Try.prog ops Q (o :: rest) a w := by
  refine wpList_plain hg fun K' hK' => ?_
  obtain ⟨w', hrun, r1, r2⟩ := hown.store kLaw ht hn (key_k hk) (show fR f = some (.held f, []) from rfl)
  unfold Oper.wp
  simp [execOp, hop, hm, hx, hv, hrun, Result.andThen]
  exact hK' _ _ (hK w' r1 r2)
theorem turned_size {w w' : World} {b : Nat} (h : w.mapTurned w' b) : w'.heap.size = w.heap.size := by
  obtain ⟨es, clock, es', clock', _, rfl⟩ := h
  simp [ChangeMaps.setBlock]
theorem turned_map {b : Nat} {w w' : World} (h : w.mapTurned w' b) : Turned (fun k => k = b) w w' := Turned.of_grown h.grown (by intro k e; cases e; rfl)
theorem Turned.map {F : Nat → Prop} {w w' : World} (h : Turned F w w') {H : Type} {P : Program} {k : TypeId} {R : Value → Option (DataW H × List MemPlace)} {b n : Nat} {D : DataW H} (ho : w.ownsMap P k R b n D) (hn : ¬ F b) : w'.ownsMap P k R b n D := by
  obtain ⟨es, clock, hb, r⟩ := ho
  exact ⟨es, clock, h.keep hb hn, r⟩
/-- What is in the map, the last one first. -/
def shL : List (Int × Value) := [(8, shp 0 0 0 0), (7, shp 0 0 2 2), (6, shp 1 4 2 2), (5, shp 1 4 2 2), (4, shp 0 0 0 64), (3, shp 0 0 0 256), (2, shp 0 255 0 64), (1, shp 0 65535 0 2048)]
def Shs (w : World) (b : Nat) : Prop := w.ownsMap Try.prog 40 fR b 8 (DL shL)
theorem shapes_any (w : World) : Calls Try.prog 41 #[] w fun e w' => ∃ b, e = .returned (.map (some b)) ∧ Shs w' b ∧ Below w.heap.size w w' ∧ w.heap.size ≤ b := by
  have hmm := @run_makeMap Try.prog
  go_enter Try.func41, Try.ntmps41
  have HO0 : Hid (((w.alloc (.cells #[.int .i64 2, .int .i64 2] 98)).alloc (.map #[] 0)).ownsMap Try.prog 40 fR (w.heap.size + 1) 0 (DL [])) := by
    have := World.ownsMap_made (w.alloc (.cells #[.int .i64 2, .int .i64 2] 98)) Try.prog 40 fR
    rw [World.size_alloc] at this
    exact this
  have HB0 : Hid (Below w.heap.size w ((w.alloc (.cells #[.int .i64 2, .int .i64 2] 98)).alloc (.map #[] 0)) ∧ Blk ((w.alloc (.cells #[.int .i64 2, .int .i64 2] 98)).alloc (.map #[] 0)) w.heap.size #[.int .i64 2, .int .i64 2] 98) := ⟨belT (bel1 w _) (bel1 _ _), (blk_new w _ _).alloc _⟩
  obtain ⟨B, hB⟩ : ∃ B, w.heap.size + 1 = B := ⟨_, rfl⟩
  have st : ∀ {W W' : World}, (Below w.heap.size w W ∧ Blk W w.heap.size #[.int .i64 2, .int .i64 2] 98) → W.mapTurned W' (w.heap.size + 1) → Hid (Below w.heap.size w W' ∧ Blk W' w.heap.size #[.int .i64 2, .int .i64 2] 98) := fun h ht => by
    have hu := turned_map ht
    exact ⟨h.1.trans (hu.below (by have := h.1.size; omega) (fun k hk => by omega)), h.2.turned hu (by omega)⟩
  clear hB
  go_wp2_with (refine wpList_insert_f _ rfl _ _ _ 69 rfl 100 Try.underlying69 (w.heap.size + 1) 0 _ rfl HO0.out (by decide) 1 (shp 0 65535 0 2048) rfl rfl (by decide) ?_)
  intro w1 hown ht
  have HO1 := Lib.hid hown
  have HB1 := st HB0.out ht
  clear hown ht
  go_wp2_with (refine wpList_insert_f _ rfl _ _ _ 69 rfl 100 Try.underlying69 (w.heap.size + 1) 1 _ rfl HO1.out (by decide) 2 (shp 0 255 0 64) rfl rfl (by decide) ?_)
  intro w2 hown ht
  have HO2 := Lib.hid hown
  have HB2 := st HB1.out ht
  clear hown ht
  go_wp2_with (refine wpList_insert_f _ rfl _ _ _ 69 rfl 100 Try.underlying69 (w.heap.size + 1) 2 _ rfl HO2.out (by decide) 3 (shp 0 0 0 256) rfl rfl (by decide) ?_)
  intro w3 hown ht
  have HO3 := Lib.hid hown
  have HB3 := st HB2.out ht
  clear hown ht
  go_wp2_with (refine wpList_insert_f _ rfl _ _ _ 69 rfl 100 Try.underlying69 (w.heap.size + 1) 3 _ rfl HO3.out (by decide) 4 (shp 0 0 0 64) rfl rfl (by decide) ?_)
  intro w4 hown ht
  have HO4 := Lib.hid hown
  have HB4 := st HB3.out ht
  clear hown ht
  obtain ⟨y0, y1⟩ : w4.cell? ⟨w.heap.size, 0, none⟩ = some (.int .i64 2) ∧ w4.cell? ⟨w.heap.size, 1, none⟩ = some (.int .i64 2) := ⟨HB4.out.2.cell 0, HB4.out.2.cell 1⟩
  go_wp2_with (refine wpList_insert_f _ rfl _ _ _ 69 rfl 100 Try.underlying69 (w.heap.size + 1) 4 _ rfl HO4.out (by decide) 5 (shp 1 4 2 2) rfl rfl (by decide) ?_)
  intro w5 hown ht
  have HO5 := Lib.hid hown
  have HB5 := st HB4.out ht
  clear hown ht
  clear y0 y1
  obtain ⟨y0, y1⟩ : w5.cell? ⟨w.heap.size, 0, none⟩ = some (.int .i64 2) ∧ w5.cell? ⟨w.heap.size, 1, none⟩ = some (.int .i64 2) := ⟨HB5.out.2.cell 0, HB5.out.2.cell 1⟩
  go_wp2_with (refine wpList_insert_f _ rfl _ _ _ 69 rfl 100 Try.underlying69 (w.heap.size + 1) 5 _ rfl HO5.out (by decide) 6 (shp 1 4 2 2) rfl rfl (by decide) ?_)
  intro w6 hown ht
  have HO6 := Lib.hid hown
  have HB6 := st HB5.out ht
  clear hown ht
  clear y0 y1
  obtain ⟨y0, y1⟩ : w6.cell? ⟨w.heap.size, 0, none⟩ = some (.int .i64 2) ∧ w6.cell? ⟨w.heap.size, 1, none⟩ = some (.int .i64 2) := ⟨HB6.out.2.cell 0, HB6.out.2.cell 1⟩
  go_wp2_with (refine wpList_insert_f _ rfl _ _ _ 69 rfl 100 Try.underlying69 (w.heap.size + 1) 6 _ rfl HO6.out (by decide) 7 (shp 0 0 2 2) rfl rfl (by decide) ?_)
  intro w7 hown ht
  have HO7 := Lib.hid hown
  have HB7 := st HB6.out ht
  clear hown ht
  clear y0 y1
  go_wp2_with (refine wpList_insert_f _ rfl _ _ _ 69 rfl 100 Try.underlying69 (w.heap.size + 1) 7 _ rfl HO7.out (by decide) 8 (shp 0 0 0 0) rfl rfl (by decide) ?_)
  intro w8 hown ht
  have HO8 := Lib.hid hown
  have HB8 := st HB7.out ht
  clear hown ht
  have HE : Hid (Shs w8 (w.heap.size + 1) ∧ Below w.heap.size w w8) := ⟨HO8.out, HB8.out.1⟩
  clear HO0 HO1 HO2 HO3 HO4 HO5 HO6 HO7 HO8 HB0 HB1 HB2 HB3 HB4 HB5 HB6 HB7 HB8 st
  go_wp2
  go_ret
  exact ⟨_, rfl, HE.out.1, HE.out.2, by omega⟩
end Go.Proofs.Ytjffclcjijpmiaa.LG
namespace Go.Proofs.Ytjffclcjijpmiaa.LG
open Go.RowKit
set_option maxHeartbeats 4000000
set_option maxRecDepth 100000
set_option linter.unusedVariables false
set_option linter.unusedSimpArgs false

/-- Bytes that lie below N. -/
def Bn (N : Nat) (w : World) (v : Value) (l : List Int) : Prop := Bs w v l ∧ ∀ k, rdBlk v = some k → k < N
theorem Bn.keep {N : Nat} {w w' : World} {v : Value} {l : List Int} (h : Bn N w v l) (hb : Below N w w') : Bn N w' v l := ⟨⟨h.1.1.keep h.2 hb, h.1.2⟩, h.2⟩
theorem Bs.bn {w : World} {v : Value} {l : List Int} (h : Bs w v l) : Bn w.heap.size w v l := ⟨h, fun k hk => h.1.lt (by omega) hk⟩
theorem Bn.mono {N M : Nat} {w : World} {v : Value} {l : List Int} (h : Bn N w v l) (hM : N ≤ M) : Bn M w v l := ⟨h.1, fun k hk => Nat.lt_of_lt_of_le (h.2 k hk) hM⟩
/-- A taker's boxes: what is left of the bytes. -/
structure Tkr (w : World) (B L : Nat) (v : Value) : Prop where
  b : Blk w B #[.pointer (some ⟨L, 0, none⟩)] 92
  l : Blk w L #[v] 34
theorem Tkr.ne {w : World} {B L : Nat} {v : Value} (h : Tkr w B L v) : B ≠ L := by
  rintro rfl
  have := h.b.symm.trans h.l
  simp at this
theorem Tkr.set {w : World} {B L : Nat} {v : Value} (h : Tkr w B L v) (u : Value) : Tkr (w.setCell ⟨L, 0, none⟩ u) B L u :=
  ⟨h.b.turned ((Turned.refl (fun k => k = L) w).setCell (.inl rfl) u) (fun e => h.ne e), by have := h.l.setCell 0 u; simpa using this⟩
theorem Tkr.drew {w : World} {B L : Nat} {v : Value} (h : Tkr w B L v) : Tkr w.drew B L v := ⟨h.b, h.l⟩
theorem Tkr.below {w w' : World} {B L : Nat} {v : Value} (h : Tkr w B L v) (hb : Below w.heap.size w w') : Tkr w' B L v := ⟨h.b.below hb, h.l.below hb⟩
/-- A taker of bytes below N. -/
structure Tk (N : Nat) (w : World) (B L : Nat) (l : List Int) : Prop where
  t : ∃ v, Tkr w B L v ∧ Bn N w v l
  nB : N ≤ B
  nL : N ≤ L
theorem Tk.below {N : Nat} {w w' : World} {B L : Nat} {l : List Int} (h : Tk N w B L l) (hN : N ≤ w.heap.size) (hb : Below w.heap.size w w') : Tk N w' B L l := by
  obtain ⟨⟨v, h1, h2⟩, h3, h4⟩ := h
  exact ⟨⟨v, h1.below hb, h2.keep (hb.mono hN)⟩, h3, h4⟩
/-- What a call of a taker leaves. -/
def TkP (N B L : Nat) (l : List Int) (n : Int) (w : World) (e : Ending) (w' : World) : Prop :=
  ((l.length : Int) < n ∧ e = .returned (.tuple #[.slice none 0 0, .bool false]) ∧ w = w') ∨
  (n ≤ (l.length : Int) ∧ ∃ v1, e = .returned (.tuple #[v1, .bool true]) ∧ Bn N w' v1 (l.take n.toNat) ∧ Tk N w' B L (l.drop n.toNat) ∧ Turned (fun k => k = L) w w')
theorem rd_take {w : World} {g o len c n : Nat} {l : List Int} (h : Bs w (.slice (some ⟨g, o, none⟩) len c) l) (hn : n ≤ len) : Bs w (.slice (some ⟨g, o, none⟩) n c) (l.take n) := by
  obtain ⟨⟨h0, ao, c', e1, h2, h3, h4⟩, hb⟩ := h
  simp only [Value.slice.injEq] at e1
  obtain ⟨rfl, rfl, rfl⟩ := e1
  refine ⟨⟨by simp, _, c, by rw [List.length_take, Nat.min_eq_left hn], by rw [List.length_take]; omega, by rw [List.length_take]; omega, fun hp => ?_⟩, fun x hx => hb x (List.mem_of_mem_take hx)⟩
  obtain ⟨g', o', e2, h6⟩ := h4 (by rw [List.length_take] at hp; omega)
  refine ⟨g', o', e2, fun j u hj => h6 j u ?_⟩
  rw [u8s, List.map_take, List.getElem?_take] at hj
  split at hj
  · exact hj
  · cases hj
theorem rd_drop {w : World} {g o len c n : Nat} {l : List Int} (h : Bs w (.slice (some ⟨g, o, none⟩) len c) l) (hn : n ≤ len) : Bs w (.slice (if c = n then some ⟨g, o, none⟩ else some ⟨g, o + n, none⟩) (len - n) (c - n)) (l.drop n) := by
  obtain ⟨⟨h0, ao, c', e1, h2, h3, h4⟩, hb⟩ := h
  simp only [Value.slice.injEq] at e1
  obtain ⟨rfl, rfl, rfl⟩ := e1
  refine ⟨⟨by simp, _, c - n, by rw [List.length_drop], by rw [List.length_drop]; omega, by rw [List.length_drop]; omega, fun hp => ?_⟩, fun x hx => hb x (List.mem_of_mem_drop hx)⟩
  rw [List.length_drop] at hp
  obtain ⟨g', o', e2, h6⟩ := h4 (by omega)
  simp only [Option.some.injEq, Addr.mk.injEq, and_true] at e2
  obtain ⟨rfl, rfl⟩ := e2
  refine ⟨g, o + n, by rw [if_neg (by omega)], fun j u hj => ?_⟩
  rw [u8s, List.map_drop, List.getElem?_drop] at hj
  have := h6 _ u hj
  rwa [← Nat.add_assoc] at this
theorem bn_take {N : Nat} {w : World} {g o len c n : Nat} {l : List Int} (h : Bn N w (.slice (some ⟨g, o, none⟩) len c) l) (hn : n ≤ len) : Bn N w (.slice (some ⟨g, o, none⟩) n c) (l.take n) := by
  refine ⟨rd_take h.1 hn, fun k hk => ?_⟩
  by_cases h0 : n = 0
  · simp [rdBlk, h0] at hk
  · refine h.2 k ?_
    simp only [rdBlk] at hk ⊢
    rw [if_neg h0] at hk
    rw [if_neg (by omega)]; exact hk
theorem bn_drop {N : Nat} {w : World} {g o len c n : Nat} {l : List Int} (h : Bn N w (.slice (some ⟨g, o, none⟩) len c) l) (hn : n ≤ len) : Bn N w (.slice (if c = n then some ⟨g, o, none⟩ else some ⟨g, o + n, none⟩) (len - n) (c - n)) (l.drop n) := by
  refine ⟨rd_drop h.1 hn, fun k hk => ?_⟩
  by_cases h0 : len - n = 0
  · by_cases h1 : c = n <;> simp [rdBlk, h0, h1] at hk
  · refine h.2 k ?_
    have hz : len ≠ 0 := by omega
    by_cases h1 : c = n <;> simp [rdBlk, h0, h1, hz] at hk ⊢ <;> exact hk
theorem bs_none {w : World} {ao : Option Addr} {c : Nat} : Bs w (.slice ao 0 c) [] := ⟨Rd.nil 1 w ao c, by intro x hx; cases hx⟩
theorem bn_none {N : Nat} {w : World} {ao : Option Addr} {c : Nat} : Bn N w (.slice ao 0 c) [] := ⟨bs_none, fun k hk => by
  cases ao with
  | none => cases hk
  | some a => simp [rdBlk] at hk⟩
theorem take1_any {N B L : Nat} {w : World} {l : List Int} (h : Tk N w B L l) (n : Int) (hn0 : 0 ≤ n) :
    Calls Try.prog 60 #[.int .i64 n, .pointer (some ⟨B, 0, none⟩)] w fun e w' => TkP N B L l n w e w' := by
  have HH := Lib.hid h
  obtain ⟨⟨v, h1, h2⟩, h3, h4⟩ := h
  obtain ⟨ao, c, rfl, hlc, hlm⟩ := h2.1.shape
  have HT := Lib.hid h1
  have HB := Lib.hid h2
  have c1 := h1.b.cell 0
  have c2 := h1.l.cell 0
  have f2 := h1.l.frozen 0
  simp only [List.getElem?_toArray, List.getElem?_cons_zero] at c1 c2
  have HL := Lib.hid (And.intro hlc (And.intro h3 h4))
  clear h1 h2 hlm
  by_cases hlt : (l.length : Int) < n
  · refine Calls.mono (R := fun e w' => e = .returned (.tuple #[.slice none 0 0, .bool false]) ∧ w = w') ?_ (fun e w' he => .inl ⟨hlt, he.1, he.2⟩)
    clear HL HB HT HH
    go_enter Try.func60, Try.ntmps60
    go_wp2
    go_ret2
    exact ⟨rfl, rfl⟩
  · obtain ⟨m, rfl⟩ : ∃ m : Nat, n = m := ⟨n.toNat, by omega⟩
    have hm : m ≤ l.length := by omega
    have hm' : (m : Int) ≤ (l.length : Int) := by omega
    have fin : ∀ v1 v2 W, Bn N w v1 (l.take m) → Bn N w v2 (l.drop m) → W = (w.setCell ⟨L, 0, none⟩ v2).drew → TkP N B L l (m : Int) w (.returned (.tuple #[v1, .bool true])) W := by
      intro v1 v2 W k1 k2 e
      have ht : Turned (fun k => k = L) w (w.setCell ⟨L, 0, none⟩ v2).drew := ((Turned.refl (fun k => k = L) w).setCell (.inl rfl) v2).drew
      have hbl : Below N w (w.setCell ⟨L, 0, none⟩ v2).drew := ht.below (by have := HT.out.l.lt; omega) (fun k hk => by omega)
      subst e
      refine .inr ⟨hm', v1, rfl, ?_, ⟨⟨v2, (HT.out.set v2).drew, ?_⟩, h3, h4⟩, ht⟩
      · rw [Int.toNat_natCast]; exact k1.keep hbl
      · rw [Int.toNat_natCast]; exact k2.keep hbl
    have HF := Lib.hid fin
    clear fin hlt
    by_cases hz : l.length = 0
    · obtain rfl : l = [] := List.eq_nil_of_length_eq_zero hz
      obtain rfl : m = 0 := by omega
      have HF2 := Lib.hid (fun v1 v2 h1 h2 => HF.out v1 v2 _ h1 h2 rfl)
      clear HF HB HL HT HH
      simp only [List.length_nil] at c2 ⊢
      go_enter Try.func60, Try.ntmps60
      go_wp2
      go_region
      go_wp2
      go_ret2
      exact HF2.out _ _ bn_none bn_none
    · have h8 := HB.out.1.1
      obtain ⟨_, ao', c', e1, _, _, h9⟩ := h8
      obtain ⟨g, o, rfl, _⟩ := h9 (by omega)
      simp only [Value.slice.injEq] at e1
      obtain ⟨rfl, _, rfl⟩ := e1
      have HF2 := Lib.hid (HF.out _ _ _ (bn_take HB.out hm) (bn_drop HB.out hm) rfl)
      clear HF HB HL HT HH hz h9
      by_cases hcm : c = m
      · subst hcm
        have HF3 := HF2.out
        rw [if_pos rfl, Nat.sub_self, show l.length - c = 0 by omega] at HF3
        replace HF2 := Lib.hid HF3
        clear HF3 hlc
        go_enter Try.func60, Try.ntmps60
        go_wp2
        go_region
        go_wp2
        go_ret2
        exact HF2.out
      · have HF3 := HF2.out
        rw [if_neg hcm] at HF3
        replace HF2 := Lib.hid HF3
        clear HF3 hlc
        go_enter Try.func60, Try.ntmps60
        go_wp2
        go_region
        go_wp2
        go_ret2
        exact HF2.out
end Go.Proofs.Ytjffclcjijpmiaa.LG
namespace Go.Proofs.Ytjffclcjijpmiaa.LG
open Go.RowKit
set_option linter.unusedVariables false
theorem wrap0 : wrap64 0 = 0 := by unfold wrap64; omega
theorem pw7 (k : Nat) : (2 : Int) ^ (7 * k) = 128 ^ k := by rw [Int.pow_mul]; rfl
theorem pw_le {k : Nat} (h : k ≤ 8) : (128 : Int) ^ k ≤ 72057594037927936 := (by decide : ∀ k : Fin 9, (128 : Int) ^ k.val ≤ 72057594037927936) ⟨k, by omega⟩
theorem pw_pos (k : Nat) : (0 : Int) < 128 ^ k := Int.pow_pos (by decide)
theorem pw_ge {k : Nat} (h : 9 ≤ k) : (9223372036854775808 : Int) ≤ 128 ^ k := by
  obtain ⟨j, rfl⟩ : ∃ j, k = 9 + j := ⟨k - 9, by omega⟩
  rw [Int.pow_add]
  have h1 := pw_pos j
  have h2 : (128 : Int) ^ 9 = 9223372036854775808 := by decide
  rw [h2]
  generalize (128 : Int) ^ j = z at *
  omega
theorem shl8 {k : Nat} {p : Int} (h : k ≤ 8) (h0 : 0 ≤ p) (h1 : p < 128) : wrap64 (p * 2 ^ (7 * k)) = p * 128 ^ k := by
  rw [pw7]
  have h2 := pw_le h
  have h3 := pw_pos k
  generalize (128 : Int) ^ k = z at *
  have h4 : p * z ≤ 127 * z := Int.mul_le_mul_of_nonneg_right (by omega) (by omega)
  have h5 : 0 ≤ p * z := Int.mul_nonneg h0 (by omega)
  exact IntWalk.wrap64_in _ (by omega)
theorem back8 {k : Nat} {p : Int} (h : k ≤ 8) (h0 : 0 ≤ p) (h1 : p < 128) : (wrap64 (p * 2 ^ (7 * k)) / 2 ^ (7 * k) == p) = true := by
  rw [shl8 h h0 h1, pw7, Int.mul_ediv_cancel _ (by have := pw_pos k; omega)]
  simp
theorem back0 (m : Nat) : (wrap64 0 / 2 ^ m == (0 : Int)) = true := by
  rw [wrap0, Int.zero_ediv]; rfl
theorem back9 {m : Nat} {p : Int} (h : 63 ≤ m) (h0 : 0 < p) : (wrap64 (p * 2 ^ m) / 2 ^ m == p) = false := by
  have h1 : (9223372036854775808 : Int) ≤ 2 ^ m := by
    obtain ⟨j, rfl⟩ : ∃ j, m = 63 + j := ⟨m - 63, by omega⟩
    rw [Int.pow_add]
    have h1 : (0 : Int) < 2 ^ j := Int.pow_pos (by decide)
    have h2 : (2 : Int) ^ 63 = 9223372036854775808 := by decide
    rw [h2]
    generalize (2 : Int) ^ j = z at *
    omega
  have h2 : wrap64 (p * 2 ^ m) < 9223372036854775808 := by unfold wrap64; omega
  generalize wrap64 (p * 2 ^ m) = y at *
  generalize (2 : Int) ^ m = z at *
  have h3 : y / z ≤ 0 := by
    have : y / z < 1 := Int.ediv_lt_of_lt_mul (by omega) (by omega)
    omega
  have : ¬ y / z = p := by omega
  simpa using this
theorem nat63 (a b : Nat) (ha : a < 2 ^ 63) (hb : b < 2 ^ 63) : bits .or .i64 (a : Int) (b : Int) = ((a ||| b : Nat) : Int) := by
  have e63 : (2 : Int) ^ 63 = 9223372036854775808 := by decide
  exact (bits_nat .i64 63 (by decide) (fun n h0 h1 => by rw [IntWalk.i64_left]; exact IntWalk.wrap64_in n (by rw [e63] at h1; omega)) a b ha hb).2
theorem or8 {k : Nat} {n p : Int} (h : k ≤ 8) (h0 : 0 ≤ p) (h1 : p < 128) (n0 : 0 ≤ n) (n1 : n < 128 ^ k) : bits .or .i64 n (wrap64 (p * 2 ^ (7 * k))) = n + p * 128 ^ k := by
  rw [shl8 h h0 h1]
  have h2 := pw_le h
  have h3 := pw_pos k
  have h4 : p * 128 ^ k ≤ 127 * 128 ^ k := Int.mul_le_mul_of_nonneg_right (by omega) (by omega)
  have h5 : 0 ≤ p * 128 ^ k := Int.mul_nonneg h0 (by omega)
  have e63 : (2 : Int) ^ 63 = 9223372036854775808 := by decide
  have hj := bits_join .i64 63 (by decide) (fun n h0 h1 => by rw [IntWalk.i64_left]; exact IntWalk.wrap64_in n (by rw [e63] at h1; omega)) (7 * k) (p * 128 ^ k) n h5 (by rw [pw7]; exact Int.mul_emod_left _ _) (by rw [e63]; omega) n0 (by rw [pw7]; exact n1) (by rw [e63]; omega)
  rw [Int.add_comm, ← hj]
  obtain ⟨a, ha⟩ := Int.eq_ofNat_of_zero_le n0
  obtain ⟨b, hb⟩ := Int.eq_ofNat_of_zero_le h5
  rw [ha, hb]
  have la : a < 2 ^ 63 := by
    have : (a : Int) < 2 ^ 63 := by rw [e63]; omega
    exact_mod_cast this
  have lb : b < 2 ^ 63 := by
    have : (b : Int) < 2 ^ 63 := by rw [e63]; omega
    exact_mod_cast this
  rw [(nat63 a b la lb), (nat63 b a lb la), Nat.or_comm]
theorem or0 {n : Int} (n0 : 0 ≤ n) (n1 : n ≤ 9223372036854775807) : bits .or .i64 n 0 = n := by
  have e63 : (2 : Int) ^ 63 = 9223372036854775808 := by decide
  obtain ⟨a, rfl⟩ := Int.eq_ofNat_of_zero_le n0
  have la : a < 2 ^ 63 := by
    have : (a : Int) < 2 ^ 63 := by rw [e63]; omega
    exact_mod_cast this
  have := nat63 a 0 la (by decide)
  rw [Nat.or_zero] at this
  exact this
theorem shl_any (p y : Int) (m : Nat) (h0 : 0 ≤ y) (hm : min y.toNat IntKind.i64.bits = m) : Op.shift .shl .i64 p .i64 y = pure (.int .i64 (wrap64 (p * 2 ^ m))) := by
  rw [← IntWalk.i64_left]
  subst hm
  have : ¬ y < 0 := by omega
  simp [Op.shift, this]
theorem shr_any (p y : Int) (m : Nat) (h0 : 0 ≤ y) (hm : min y.toNat IntKind.i64.bits = m) : Op.shift .shr .i64 p .i64 y = pure (.int .i64 (p / 2 ^ m)) := by
  subst hm
  have : ¬ y < 0 := by omega
  have hp : (0 : Int) ≤ 2 ^ (min y.toNat IntKind.i64.bits) := Int.le_of_lt (Int.pow_pos (by decide))
  simp [Op.shift, this, Int.fdiv_eq_ediv_of_nonneg _ hp]
end Go.Proofs.Ytjffclcjijpmiaa.LG

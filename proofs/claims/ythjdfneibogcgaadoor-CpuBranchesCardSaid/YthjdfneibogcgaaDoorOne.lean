/-
  Layer 10: one word, as the document says: a walk. Written by gen_tq.py.
-/
import Derived.Test.YthjdfneibogcgaaDoorKnown
import Derived.Test.YthjdfneibogcgaaDoorRDone0
import Derived.Test.YthjdfneibogcgaaDoorRDone1
import Derived.Test.YthjdfneibogcgaaDoorRDone2
import Derived.Test.YthjdfneibogcgaaDoorRDone3
import Derived.Test.YthjdfneibogcgaaDoorRDone4
import Derived.Test.YthjdfneibogcgaaDoorRDone5
import Derived.Test.YthjdfneibogcgaaDoorTouches
import Derived.Test.YthjdfneibogcgaaDoorRTa
import Derived.Test.YthjdfneibogcgaaDoorRTb
import Derived.Test.YthjdfneibogcgaaDoorSame
import Derived.Test.YthjdfneibogcgaaDoorArgs
namespace Go.Proofs.YthjdfneibogcgaaDoor
open Go.RowKit
set_option maxHeartbeats 16000000
set_option linter.unusedVariables false
set_option linter.unusedSimpArgs false

theorem RDone_any (s : Sta) (hs : s.Ok) (x told : Int) (hx : W32 x) (ht : W32 told) (w : World) : Calls Tryd.prog 22 #[.agg (sc s), .int .u32 x, .int .u32 told] w fun e w' => e = .returned (.agg (sc (doneS s (decV x) told))) ∧ Below w.heap.size w w' := by
  have hP := fun W => RPlan_any s hs x hx W
  have hD := fun W => RDecode_any x hx W
  by_cases hc : causeS s (decV x) = 0
  · have hm : May (dec x) := by
      rcases Decidable.em (May (dec x)) with h | h
      · exact h
      · rw [show decV x = zeroI from if_neg h] at hc
        exact absurd hc (by simp [causeS, causeOf, zeroI])
    have e1 : decB x = true := decide_eq_true hm
    have e2 : decV x = dec x := if_pos hm
    rw [e1] at hD
    have hb := hm.bounds
    have hp : planS s (decV x) = wantOf (decV x).op (s.r (decV x).a.toNat) (addr s (decV x)) (decV x).imm := by unfold planS; rw [if_pos hc]
    have hk : (planS s (decV x)).kind ≠ 1 := by rw [hp]; exact wantOf_kind _ _ _ _
    rw [e2] at hD hP hc hk ⊢
    generalize dec x = i at *
    obtain ⟨op, a, b, m⟩ := i
    dsimp only at hb
    obtain ⟨⟨o0, o1⟩, ⟨a0, a1⟩, ⟨b0, b1⟩, m0, m1⟩ := hb
    obtain ⟨A, rfl⟩ := Int.eq_ofNat_of_zero_le a0
    obtain ⟨B, rfl⟩ := Int.eq_ofNat_of_zero_le b0
    have hA : A < 8 := by omega
    have hB : B < 8 := by omega
    by_cases h26 : op = 26
    · subst h26
      exact RDone_get s hs x told A B m hA hB m0 m1 ht (cause_imm hc (.inl rfl)) w _ hk _ ⟨hc, rfl⟩ (Lib.hid hP) (Lib.hid hD)
    by_cases h27 : op = 27
    · subst h27
      exact RDone_high s hs x told A B m hA hB m0 m1 ht (cause_imm hc (.inr rfl)) w _ hk _ ⟨hc, rfl⟩ (Lib.hid hP) (Lib.hid hD)
    by_cases h25 : op = 25
    · subst h25
      exact RDone_back s hs x told A B m hA hB m0 m1 ht w _ hk _ ⟨hc, rfl⟩ (Lib.hid hP) (Lib.hid hD)
    by_cases h0 : op = 1 ∨ op = 14 ∨ op = 16 ∨ op = 23 ∨ op = 24 ∨ op = 28
    · exact RDone_none s hs x told op A B m hA hB m0 m1 ht h0 w _ hk _ ⟨hc, rfl⟩ (Lib.hid hP) (Lib.hid hD)
    by_cases h1 : op = 2 ∨ op = 3 ∨ op = 4 ∨ op = 5 ∨ op = 6 ∨ op = 7 ∨ op = 8 ∨ op = 9 ∨ op = 10 ∨ op = 11 ∨ op = 12
    · exact RDone_some s hs x told op A B m hA hB m0 m1 ht h1 w _ hk _ ⟨hc, rfl⟩ (Lib.hid hP) (Lib.hid hD)
    · exact RDone_more s hs x told op A B m hA hB m0 m1 ht (by omega) w _ hk _ ⟨hc, rfl⟩ (Lib.hid hP) (Lib.hid hD)
  · have hp : planS s (decV x) = ⟨1, causeS s (decV x), 0, 0, 0, 0⟩ := by unfold planS; rw [if_neg hc]
    rw [hp] at hP
    rw [show doneS s (decV x) told = trapS s (causeS s (decV x)) from if_neg hc]
    exact RDone_trap s x told _ w (Lib.hid hP)
theorem RTouches_any (s : Sta) (hs : s.Ok) (x : Int) (hx : W32 x) (w : World) : Calls Tryd.prog 24 #[.agg (sc s), .int .u32 x] w fun e w' => (∃ v, e = .returned v ∧ TsIs w' v (touS s (decV x))) ∧ Below w.heap.size w w' := by
  have hP := fun W => RPlan_any s hs x hx W
  have hD := fun W => RDecode_any x hx W
  have his := decV_is x
  obtain ⟨op, A, B, m, hd, h1, h2, h3, h4, h5, h6⟩ := decV_nat x
  rw [hd] at hP hD his ⊢
  have key : ∀ (OPS : Prop), (op ≠ 0 → OPS) → Hid (((planS s ⟨op, A, B, m⟩).kind = 1 ∧ (planS s ⟨op, A, B, m⟩).cause = 6 ∧ touS s ⟨op, A, B, m⟩ = [⟨on 0, [rg B]⟩] ++ trapT) ∨ ((planS s ⟨op, A, B, m⟩).kind = 1 ∧ (planS s ⟨op, A, B, m⟩).cause ≠ 6 ∧ touS s ⟨op, A, B, m⟩ = trapT) ∨ ((planS s ⟨op, A, B, m⟩).kind ≠ 1 ∧ OPS ∧ (op = 26 ∨ op = 27 → 0 ≤ m ∧ m < 6) ∧ touS s ⟨op, A, B, m⟩ = aheadT ⟨op, A, B, m⟩ ++ behindT ⟨op, A, B, m⟩ ++ movedT ⟨op, A, B, m⟩)) := by
    intro OPS hops
    unfold touS planS Hid
    by_cases hc : causeS s ⟨op, A, B, m⟩ = 0
    · rw [if_pos hc, if_pos hc]
      refine .inr (.inr ⟨wantOf_kind _ _ _ _, hops ?_, fun h => cause_imm hc h, rfl⟩)
      rintro rfl
      exact absurd hc (by simp [causeS, causeOf])
    · rw [if_neg hc, if_neg hc]
      by_cases h6 : causeS s ⟨op, A, B, m⟩ = 6
      · rw [if_pos h6]; exact .inl ⟨rfl, h6, rfl⟩
      · rw [if_neg h6]; exact .inr (.inl ⟨rfl, h6, by simp⟩)
  by_cases hb : op = 20 ∨ op = 21 ∨ op = 26 ∨ op = 27
  · exact RTouches_b s x op A B m h3 h4 (decB x) _ _ (key _ (fun _ => hb)) w (Lib.hid hP) (Lib.hid hD)
  · exact RTouches_a s x op A B m h3 h4 (decB x) _ _ (key _ (fun h => by omega)) w (Lib.hid hP) (Lib.hid hD)
/-- A state, a word in their blocks. -/
structure On (w : World) (s : Sta) (x : Td) (W : World) : Prop where
  b : Rf 25 16 W w.heap.size (sc s) ∧ Rf 30 2 W (w.heap.size + 1) (tdc x)
  k : Below w.heap.size w W
  e : Env W ∧ Nam W
theorem On.after {w W W' : World} {s : Sta} {x : Td} (h : On w s x W) (hb : Below W.heap.size W W') : On w s x W' := ⟨⟨h.b.1.below hb, h.b.2.below hb⟩, h.k.trans (hb.mono h.k.size), ⟨h.e.1.below hb, h.e.2.below hb⟩⟩
set_option maxRecDepth 100000 in
theorem one_any (s : Sta) (hs : s.Ok) (x : Td) (hx : x.Ok) (w : World) (h : Env w ∧ Nam w) : Calls Tryd.prog 12 #[.agg (sc s), .agg (tdc x)] w fun e w' => e = .returned (.bool true) ∧ Below w.heap.size w w' := by
  have hK0 : On w s x ((w.alloc (.cells (sc s) 25)).alloc (.cells (tdc x) 30)).drew := by
    have hb : Below w.heap.size w ((w.alloc (.cells (sc s) 25)).alloc (.cells (tdc x) 30)) := (bel1 w _).alloc (by simp) _
    have hr : Rf 30 2 ((w.alloc (.cells (sc s) 25)).alloc (.cells (tdc x) 30)) (w.heap.size + 1) (tdc x) := by
      have := (show Ok1 2 (tdc x) from ⟨rfl, by simp [tdc, Value.oneCell']⟩).new 30 (w.alloc (.cells (sc s) 25))
      rw [World.size_alloc] at this
      exact this
    exact (⟨⟨(rs_new w s).alloc _, hr⟩, hb, ⟨h.1.below hb, h.2.below hb⟩⟩ : On w s x _).after (Below.refl _ _).drew
  clear h
  go_enter Tryd.func12, Tryd.ntmps12
  go_wp2
  have hqw := eql_want (planS s (decV x.w))
  have hqs := eql_state (doneS s (decV x.w) x.t)
  refine wp_region_held_drew (S := fun W => Rf 25 16 W w.heap.size (sc s) ∧ Rf 30 2 W (w.heap.size + 1) (tdc x)) (by kernel_rfl) hK0.b (fun _ => ?_)
  have hS := hK0
  refine take_d (i := 0) (d := some 5) (v := .agg (sc s)) rfl rfl (by kernel_rfl) (by kernel_rfl) (by kernel_rfl) (fun _ _ _ h => h) (y_R rowS (by kernel_rfl) rfl rfl (fun W hW => hW.1)) hS.b ?_
  try simp only [Act.put, List.setIfInBounds_toArray, List.set_cons_zero, List.set_cons_succ]
  refine take_d (i := 1) (d := some 6) (v := ?_) rfl rfl (by kernel_rfl) (by kernel_rfl) (by kernel_rfl) (fun _ _ _ h => h) (.inl ⟨by rfl, ?_⟩) hS.b ?_
  rotate_left
  · intro W hW
    have q0 := (hW.2.cell 0).trans (show (tdc x)[0]? = some (.int .u32 x.w) from rfl); have q1 := (hW.2.cell 1).trans (show (tdc x)[1]? = some (.int .u32 x.t) from rfl)
    go_simp
    try with_reducible rfl
  try simp only [Act.put, List.setIfInBounds_toArray, List.set_cons_zero, List.set_cons_succ]
  refine take_d (i := 2) (d := some 7) (v := ?_) rfl rfl (by kernel_rfl) (by kernel_rfl) (by kernel_rfl) (fun _ _ _ h => h) (.inl ⟨by rfl, ?_⟩) hS.b ?_
  rotate_left
  · intro W hW
    have q0 := (hW.2.cell 0).trans (show (tdc x)[0]? = some (.int .u32 x.w) from rfl); have q1 := (hW.2.cell 1).trans (show (tdc x)[1]? = some (.int .u32 x.t) from rfl)
    go_simp
    try with_reducible rfl
  try simp only [Act.put, List.setIfInBounds_toArray, List.set_cons_zero, List.set_cons_succ]
  refine take_d (i := 4) (d := some 9) (v := .agg (sc s)) rfl rfl (by kernel_rfl) (by kernel_rfl) (by kernel_rfl) (fun _ _ _ h => h) (y_R rowS (by kernel_rfl) rfl rfl (fun W hW => hW.1)) hS.b ?_
  try simp only [Act.put, List.setIfInBounds_toArray, List.set_cons_zero, List.set_cons_succ]
  refine take_d (i := 5) (d := some 10) (v := ?_) rfl rfl (by kernel_rfl) (by kernel_rfl) (by kernel_rfl) (fun _ _ _ h => h) (.inl ⟨by rfl, ?_⟩) hS.b ?_
  rotate_left
  · intro W hW
    have q0 := (hW.2.cell 0).trans (show (tdc x)[0]? = some (.int .u32 x.w) from rfl); have q1 := (hW.2.cell 1).trans (show (tdc x)[1]? = some (.int .u32 x.t) from rfl)
    go_simp
    try with_reducible rfl
  try simp only [Act.put, List.setIfInBounds_toArray, List.set_cons_zero, List.set_cons_succ]
  refine take_d (i := 6) (d := some 11) (v := ?_) rfl rfl (by kernel_rfl) (by kernel_rfl) (by kernel_rfl) (fun _ _ _ h => h) (.inl ⟨by rfl, ?_⟩) hS.b ?_
  rotate_left
  · intro W hW
    have q0 := (hW.2.cell 0).trans (show (tdc x)[0]? = some (.int .u32 x.w) from rfl); have q1 := (hW.2.cell 1).trans (show (tdc x)[1]? = some (.int .u32 x.t) from rfl)
    go_simp
    try with_reducible rfl
  try simp only [Act.put, List.setIfInBounds_toArray, List.set_cons_zero, List.set_cons_succ]
  refine wpAnyH_all (rs := [3]) (by kernel_rfl) (by simp) (fun i hi => ?_)
  simp only [List.mem_cons, List.not_mem_nil, or_false] at hi
  subst hi
  refine .inl ?_
  go_simp
  refine (Plan_any s hs x.w hx.w _ hS.e.1).mono ?_
  rintro e wc ⟨rfl, hb⟩
  replace hS := hS.after hb
  clear hb
  refine ⟨hS.b, ?_⟩
  try simp only [Act.put, List.setIfInBounds_toArray, List.set_cons_zero, List.set_cons_succ]
  refine wpAnyH_all (rs := [7]) (by kernel_rfl) (by simp) (fun i hi => ?_)
  simp only [List.mem_cons, List.not_mem_nil, or_false] at hi
  subst hi
  refine .inl ?_
  go_simp
  refine (RPlan_any s hs x.w hx.w _).mono ?_
  rintro e wc ⟨rfl, hb⟩
  replace hS := hS.after hb
  clear hb
  refine ⟨hS.b, ?_⟩
  try simp only [Act.put, List.setIfInBounds_toArray, List.set_cons_zero, List.set_cons_succ]
  refine take_d (i := 8) (d := some 13) (v := ?_) rfl rfl (by kernel_rfl) (by kernel_rfl) (by kernel_rfl) (fun _ _ _ h => h) (.inl ⟨by rfl, ?_⟩) hS.b ?_
  rotate_left
  · intro W hW
    have q0 := (hW.2.cell 0).trans (show (tdc x)[0]? = some (.int .u32 x.w) from rfl); have q1 := (hW.2.cell 1).trans (show (tdc x)[1]? = some (.int .u32 x.t) from rfl)
    go_simp
    try with_reducible rfl
  try simp only [Act.put, List.setIfInBounds_toArray, List.set_cons_zero, List.set_cons_succ]
  refine take_d (i := 9) (d := some 14) (v := ?_) rfl rfl (by kernel_rfl) (by kernel_rfl) (by kernel_rfl) (fun _ _ _ h => h) (.inl ⟨by rfl, ?_⟩) hS.b ?_
  rotate_left
  · intro W hW
    have q0 := (hW.2.cell 0).trans (show (tdc x)[0]? = some (.int .u32 x.w) from rfl); have q1 := (hW.2.cell 1).trans (show (tdc x)[1]? = some (.int .u32 x.t) from rfl)
    go_simp
    try with_reducible rfl
  try simp only [Act.put, List.setIfInBounds_toArray, List.set_cons_zero, List.set_cons_succ]
  refine take_d (i := 10) (d := some 15) (v := .agg (sc s)) rfl rfl (by kernel_rfl) (by kernel_rfl) (by kernel_rfl) (fun _ _ _ h => h) (y_R rowS (by kernel_rfl) rfl rfl (fun W hW => hW.1)) hS.b ?_
  try simp only [Act.put, List.setIfInBounds_toArray, List.set_cons_zero, List.set_cons_succ]
  refine take_d (i := 11) (d := some 16) (v := ?_) rfl rfl (by kernel_rfl) (by kernel_rfl) (by kernel_rfl) (fun _ _ _ h => h) (.inl ⟨by rfl, ?_⟩) hS.b ?_
  rotate_left
  · intro W hW
    have q0 := (hW.2.cell 0).trans (show (tdc x)[0]? = some (.int .u32 x.w) from rfl); have q1 := (hW.2.cell 1).trans (show (tdc x)[1]? = some (.int .u32 x.t) from rfl)
    go_simp
    try with_reducible rfl
  try simp only [Act.put, List.setIfInBounds_toArray, List.set_cons_zero, List.set_cons_succ]
  refine take_d (i := 12) (d := some 17) (v := ?_) rfl rfl (by kernel_rfl) (by kernel_rfl) (by kernel_rfl) (fun _ _ _ h => h) (.inl ⟨by rfl, ?_⟩) hS.b ?_
  rotate_left
  · intro W hW
    have q0 := (hW.2.cell 0).trans (show (tdc x)[0]? = some (.int .u32 x.w) from rfl); have q1 := (hW.2.cell 1).trans (show (tdc x)[1]? = some (.int .u32 x.t) from rfl)
    go_simp
    try with_reducible rfl
  try simp only [Act.put, List.setIfInBounds_toArray, List.set_cons_zero, List.set_cons_succ]
  refine take_d (i := 13) (d := some 18) (v := ?_) rfl rfl (by kernel_rfl) (by kernel_rfl) (by kernel_rfl) (fun _ _ _ h => h) (.inl ⟨by rfl, ?_⟩) hS.b ?_
  rotate_left
  · intro W hW
    have q0 := (hW.2.cell 0).trans (show (tdc x)[0]? = some (.int .u32 x.w) from rfl); have q1 := (hW.2.cell 1).trans (show (tdc x)[1]? = some (.int .u32 x.t) from rfl)
    go_simp
    try with_reducible rfl
  try simp only [Act.put, List.setIfInBounds_toArray, List.set_cons_zero, List.set_cons_succ]
  refine take_d (i := 14) (d := some 19) (v := ?_) rfl rfl (by kernel_rfl) (by kernel_rfl) (by kernel_rfl) (fun _ _ _ h => h) (.inl ⟨by rfl, ?_⟩) hS.b ?_
  rotate_left
  · intro W hW
    have q0 := (hW.2.cell 0).trans (show (tdc x)[0]? = some (.int .u32 x.w) from rfl); have q1 := (hW.2.cell 1).trans (show (tdc x)[1]? = some (.int .u32 x.t) from rfl)
    go_simp
    try with_reducible rfl
  try simp only [Act.put, List.setIfInBounds_toArray, List.set_cons_zero, List.set_cons_succ]
  refine take_d (i := 16) (d := some 21) (v := .agg (sc s)) rfl rfl (by kernel_rfl) (by kernel_rfl) (by kernel_rfl) (fun _ _ _ h => h) (y_R rowS (by kernel_rfl) rfl rfl (fun W hW => hW.1)) hS.b ?_
  try simp only [Act.put, List.setIfInBounds_toArray, List.set_cons_zero, List.set_cons_succ]
  refine take_d (i := 17) (d := some 22) (v := ?_) rfl rfl (by kernel_rfl) (by kernel_rfl) (by kernel_rfl) (fun _ _ _ h => h) (.inl ⟨by rfl, ?_⟩) hS.b ?_
  rotate_left
  · intro W hW
    have q0 := (hW.2.cell 0).trans (show (tdc x)[0]? = some (.int .u32 x.w) from rfl); have q1 := (hW.2.cell 1).trans (show (tdc x)[1]? = some (.int .u32 x.t) from rfl)
    go_simp
    try with_reducible rfl
  try simp only [Act.put, List.setIfInBounds_toArray, List.set_cons_zero, List.set_cons_succ]
  refine take_d (i := 18) (d := some 23) (v := ?_) rfl rfl (by kernel_rfl) (by kernel_rfl) (by kernel_rfl) (fun _ _ _ h => h) (.inl ⟨by rfl, ?_⟩) hS.b ?_
  rotate_left
  · intro W hW
    have q0 := (hW.2.cell 0).trans (show (tdc x)[0]? = some (.int .u32 x.w) from rfl); have q1 := (hW.2.cell 1).trans (show (tdc x)[1]? = some (.int .u32 x.t) from rfl)
    go_simp
    try with_reducible rfl
  try simp only [Act.put, List.setIfInBounds_toArray, List.set_cons_zero, List.set_cons_succ]
  refine take_d (i := 19) (d := some 24) (v := ?_) rfl rfl (by kernel_rfl) (by kernel_rfl) (by kernel_rfl) (fun _ _ _ h => h) (.inl ⟨by rfl, ?_⟩) hS.b ?_
  rotate_left
  · intro W hW
    have q0 := (hW.2.cell 0).trans (show (tdc x)[0]? = some (.int .u32 x.w) from rfl); have q1 := (hW.2.cell 1).trans (show (tdc x)[1]? = some (.int .u32 x.t) from rfl)
    go_simp
    try with_reducible rfl
  try simp only [Act.put, List.setIfInBounds_toArray, List.set_cons_zero, List.set_cons_succ]
  refine take_d (i := 20) (d := some 25) (v := ?_) rfl rfl (by kernel_rfl) (by kernel_rfl) (by kernel_rfl) (fun _ _ _ h => h) (.inl ⟨by rfl, ?_⟩) hS.b ?_
  rotate_left
  · intro W hW
    have q0 := (hW.2.cell 0).trans (show (tdc x)[0]? = some (.int .u32 x.w) from rfl); have q1 := (hW.2.cell 1).trans (show (tdc x)[1]? = some (.int .u32 x.t) from rfl)
    go_simp
    try with_reducible rfl
  try simp only [Act.put, List.setIfInBounds_toArray, List.set_cons_zero, List.set_cons_succ]
  refine wpAnyH_all (rs := [15]) (by kernel_rfl) (by simp) (fun i hi => ?_)
  simp only [List.mem_cons, List.not_mem_nil, or_false] at hi
  subst hi
  refine .inl ?_
  go_simp
  refine (Done_any s hs x.w x.t hx.w hx.t _ hS.e.1).mono ?_
  rintro e wc ⟨rfl, hb⟩
  replace hS := hS.after hb
  clear hb
  refine ⟨hS.b, ?_⟩
  try simp only [Act.put, List.setIfInBounds_toArray, List.set_cons_zero, List.set_cons_succ]
  refine wpAnyH_all (rs := [21]) (by kernel_rfl) (by simp) (fun i hi => ?_)
  simp only [List.mem_cons, List.not_mem_nil, or_false] at hi
  subst hi
  refine .inl ?_
  go_simp
  refine (RDone_any s hs x.w x.t hx.w hx.t _).mono ?_
  rintro e wc ⟨rfl, hb⟩
  replace hS := hS.after hb
  clear hb
  refine ⟨hS.b, ?_⟩
  try simp only [Act.put, List.setIfInBounds_toArray, List.set_cons_zero, List.set_cons_succ]
  refine take_d (i := 22) (d := some 27) (v := ?_) rfl rfl (by kernel_rfl) (by kernel_rfl) (by kernel_rfl) (fun _ _ _ h => h) (.inl ⟨by rfl, ?_⟩) hS.b ?_
  rotate_left
  · intro W hW
    have q0 := (hW.2.cell 0).trans (show (tdc x)[0]? = some (.int .u32 x.w) from rfl); have q1 := (hW.2.cell 1).trans (show (tdc x)[1]? = some (.int .u32 x.t) from rfl)
    go_simp
    try with_reducible rfl
  try simp only [Act.put, List.setIfInBounds_toArray, List.set_cons_zero, List.set_cons_succ]
  refine take_d (i := 23) (d := some 28) (v := ?_) rfl rfl (by kernel_rfl) (by kernel_rfl) (by kernel_rfl) (fun _ _ _ h => h) (.inl ⟨by rfl, ?_⟩) hS.b ?_
  rotate_left
  · intro W hW
    have q0 := (hW.2.cell 0).trans (show (tdc x)[0]? = some (.int .u32 x.w) from rfl); have q1 := (hW.2.cell 1).trans (show (tdc x)[1]? = some (.int .u32 x.t) from rfl)
    go_simp
    try with_reducible rfl
  try simp only [Act.put, List.setIfInBounds_toArray, List.set_cons_zero, List.set_cons_succ]
  refine take_d (i := 24) (d := some 29) (v := ?_) rfl rfl (by kernel_rfl) (by kernel_rfl) (by kernel_rfl) (fun _ _ _ h => h) (.inl ⟨by rfl, ?_⟩) hS.b ?_
  rotate_left
  · intro W hW
    have q0 := (hW.2.cell 0).trans (show (tdc x)[0]? = some (.int .u32 x.w) from rfl); have q1 := (hW.2.cell 1).trans (show (tdc x)[1]? = some (.int .u32 x.t) from rfl)
    go_simp
    try with_reducible rfl
  try simp only [Act.put, List.setIfInBounds_toArray, List.set_cons_zero, List.set_cons_succ]
  refine take_d (i := 25) (d := some 30) (v := .agg (sc s)) rfl rfl (by kernel_rfl) (by kernel_rfl) (by kernel_rfl) (fun _ _ _ h => h) (y_R rowS (by kernel_rfl) rfl rfl (fun W hW => hW.1)) hS.b ?_
  try simp only [Act.put, List.setIfInBounds_toArray, List.set_cons_zero, List.set_cons_succ]
  refine take_d (i := 26) (d := some 31) (v := ?_) rfl rfl (by kernel_rfl) (by kernel_rfl) (by kernel_rfl) (fun _ _ _ h => h) (.inl ⟨by rfl, ?_⟩) hS.b ?_
  rotate_left
  · intro W hW
    have q0 := (hW.2.cell 0).trans (show (tdc x)[0]? = some (.int .u32 x.w) from rfl); have q1 := (hW.2.cell 1).trans (show (tdc x)[1]? = some (.int .u32 x.t) from rfl)
    go_simp
    try with_reducible rfl
  try simp only [Act.put, List.setIfInBounds_toArray, List.set_cons_zero, List.set_cons_succ]
  refine take_d (i := 27) (d := some 32) (v := ?_) rfl rfl (by kernel_rfl) (by kernel_rfl) (by kernel_rfl) (fun _ _ _ h => h) (.inl ⟨by rfl, ?_⟩) hS.b ?_
  rotate_left
  · intro W hW
    have q0 := (hW.2.cell 0).trans (show (tdc x)[0]? = some (.int .u32 x.w) from rfl); have q1 := (hW.2.cell 1).trans (show (tdc x)[1]? = some (.int .u32 x.t) from rfl)
    go_simp
    try with_reducible rfl
  try simp only [Act.put, List.setIfInBounds_toArray, List.set_cons_zero, List.set_cons_succ]
  refine take_d (i := 29) (d := some 34) (v := .agg (sc s)) rfl rfl (by kernel_rfl) (by kernel_rfl) (by kernel_rfl) (fun _ _ _ h => h) (y_R rowS (by kernel_rfl) rfl rfl (fun W hW => hW.1)) hS.b ?_
  try simp only [Act.put, List.setIfInBounds_toArray, List.set_cons_zero, List.set_cons_succ]
  refine take_d (i := 30) (d := some 35) (v := ?_) rfl rfl (by kernel_rfl) (by kernel_rfl) (by kernel_rfl) (fun _ _ _ h => h) (.inl ⟨by rfl, ?_⟩) hS.b ?_
  rotate_left
  · intro W hW
    have q0 := (hW.2.cell 0).trans (show (tdc x)[0]? = some (.int .u32 x.w) from rfl); have q1 := (hW.2.cell 1).trans (show (tdc x)[1]? = some (.int .u32 x.t) from rfl)
    go_simp
    try with_reducible rfl
  try simp only [Act.put, List.setIfInBounds_toArray, List.set_cons_zero, List.set_cons_succ]
  refine take_d (i := 31) (d := some 36) (v := ?_) rfl rfl (by kernel_rfl) (by kernel_rfl) (by kernel_rfl) (fun _ _ _ h => h) (.inl ⟨by rfl, ?_⟩) hS.b ?_
  rotate_left
  · intro W hW
    have q0 := (hW.2.cell 0).trans (show (tdc x)[0]? = some (.int .u32 x.w) from rfl); have q1 := (hW.2.cell 1).trans (show (tdc x)[1]? = some (.int .u32 x.t) from rfl)
    go_simp
    try with_reducible rfl
  try simp only [Act.put, List.setIfInBounds_toArray, List.set_cons_zero, List.set_cons_succ]
  refine wpAnyH_all (rs := [28]) (by kernel_rfl) (by simp) (fun i hi => ?_)
  simp only [List.mem_cons, List.not_mem_nil, or_false] at hi
  subst hi
  refine .inl ?_
  go_simp
  refine (Touches_any s x.w hx.w _ hS.e.1 hS.e.2).mono ?_
  rintro e wc ⟨⟨v1, rfl, ht1⟩, hb⟩
  replace hS := hS.after hb
  clear hb
  refine ⟨hS.b, ?_⟩
  try simp only [Act.put, List.setIfInBounds_toArray, List.set_cons_zero, List.set_cons_succ]
  refine wpAnyH_all (rs := [32]) (by kernel_rfl) (by simp) (fun i hi => ?_)
  simp only [List.mem_cons, List.not_mem_nil, or_false] at hi
  subst hi
  refine .inl ?_
  go_simp
  refine (RTouches_any s hs x.w hx.w _).mono ?_
  rintro e wc ⟨⟨v2, rfl, ht2⟩, hb⟩
  replace ht1 := ht1.below hb
  replace hS := hS.after hb
  clear hb
  refine ⟨hS.b, ?_⟩
  try simp only [Act.put, List.setIfInBounds_toArray, List.set_cons_zero, List.set_cons_succ]
  refine wpAnyH_all (rs := [33]) (by kernel_rfl) (by simp) (fun i hi => ?_)
  simp only [List.mem_cons, List.not_mem_nil, or_false] at hi
  subst hi
  refine .inl ?_
  go_simp
  refine (RSame_any ht1 ht2).mono ?_
  rintro e wc ⟨rfl, hb⟩
  replace hS := hS.after hb
  clear hb
  refine ⟨hS.b, ?_⟩
  try simp only [Act.put, List.setIfInBounds_toArray, List.set_cons_zero, List.set_cons_succ]
  refine take_d (i := 34) (d := some 39) (v := ?_) rfl rfl (by kernel_rfl) (by kernel_rfl) (by kernel_rfl) (fun _ _ _ h => h) (.inl ⟨by rfl, ?_⟩) hS.b ?_
  rotate_left
  · intro W hW
    have q0 := (hW.2.cell 0).trans (show (tdc x)[0]? = some (.int .u32 x.w) from rfl); have q1 := (hW.2.cell 1).trans (show (tdc x)[1]? = some (.int .u32 x.t) from rfl)
    go_simp
    try with_reducible rfl
  try simp only [Act.put, List.setIfInBounds_toArray, List.set_cons_zero, List.set_cons_succ]
  refine take_d (i := 35) (d := some 4) (v := ?_) rfl rfl (by kernel_rfl) (by kernel_rfl) (by kernel_rfl) (fun _ _ _ h => h) (.inl ⟨by rfl, ?_⟩) hS.b ?_
  rotate_left
  · intro W hW
    have q0 := (hW.2.cell 0).trans (show (tdc x)[0]? = some (.int .u32 x.w) from rfl); have q1 := (hW.2.cell 1).trans (show (tdc x)[1]? = some (.int .u32 x.t) from rfl)
    go_simp
    try with_reducible rfl
  try simp only [Act.put, List.setIfInBounds_toArray, List.set_cons_zero, List.set_cons_succ]
  refine wpAnyH_done (by kernel_rfl) ?_ _
  have HF := Lib.hid hS.k
  clear hS hK0
  go_wp2
  go_ret
  exact ⟨rfl, HF.out⟩
end Go.Proofs.YthjdfneibogcgaaDoor

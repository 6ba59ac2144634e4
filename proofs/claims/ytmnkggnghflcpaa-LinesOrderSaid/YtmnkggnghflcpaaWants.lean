/-
  Layer 7: Wants, Pending of package lines: walks. Written by gen_wants.py.
-/
import Derived.Test.YtmnkggnghflcpaaIter
import Derived.Test.YtmnkggnghflcpaaRound
import Derived.Test.YtmnkggnghflcpaaRegion
namespace Go.Proofs.Ytmnkggnghflcpaa
open Go.RowKit Go.Shelf
attribute [local go_sem] Oper.semAt_some
set_option maxHeartbeats 1000000
set_option linter.unusedVariables false
set_option linter.unusedSimpArgs false

/-! ### boxes that a call made, and what lies in them -/
theorem cell_putObj {W : World} {D : Nat} {o : Obj} {p : Addr} (h : p.block ≠ D) : (W.putObj D o).cell? p = W.cell? p := by
  simp only [World.cell?, World.putObj_heap_other h]
abbrev Bx := Nat × Array Value × TypeId
structure Bxs (w : World) (L : List Bx) (W : World) : Prop where
  below : Below w.heap.size w W
  at_ : ∀ p ∈ L, Blk W p.1 p.2.1 p.2.2
section
variable {w W W' : World} {L : List Bx}
theorem Bxs.after (h : Bxs w L W) (hb : Below W.heap.size W W') : Bxs w L W' := ⟨h.below.trans (hb.mono h.below.size), fun p hp => (h.at_ p hp).below hb⟩
theorem Bxs.drew (h : Bxs w L W) : Bxs w L W.drew := h.after (Below.refl _ _).drew
theorem Bxs.nil (w : World) : Bxs w [] w := ⟨Below.refl _ _, fun p hp => by cases hp⟩
theorem Bxs.alloc (h : Bxs w L W) (cs : Array Value) (ty : TypeId) : Bxs w ((W.heap.size, cs, ty) :: L) (W.alloc (.cells cs ty)) :=
  ⟨h.below.alloc h.below.size _, fun p hp => by
    rcases List.mem_cons.1 hp with rfl | hp
    · exact blk_new _ _ _
    · exact (h.at_ p hp).alloc _⟩
theorem Bxs.get (h : Bxs w L W) (b : Nat) {cs : Array Value} {ty : TypeId} (hm : (b, cs, ty) ∈ L) : Blk W b cs ty := h.at_ _ hm
theorem bxs_own {β γ : Type} (w : World) (f : β → γ → Prop) (L : β → γ → List Bx) {B : Nat} (hB : w.heap.size ≤ B) : OwnFrom B (fun (s : β) W => ∃ x, f s x ∧ Bxs w (L s x) W) := by
  intro s W W' row hs hg hr
  obtain ⟨x, hf, hs⟩ := hs
  refine ⟨x, hf, hs.below.grown hg hs.below.size (fun k e => by have := (hr k e).1; omega), fun p hp => ?_⟩
  have hj := hs.at_ p hp
  exact (hg.block _ hj.lt (fun e => by
      obtain ⟨h1, o', h2, h3⟩ := hr _ e.symm
      rw [hj] at h2; cases h2
      cases h3)).trans hj
/-- A block of the list is written anew: by what the walk makes of it. -/
theorem Bxs.turned (h : Bxs w L W) {F : Nat → Prop} (ht : Turned F W W') (hF : ∀ k, F k → w.heap.size ≤ k) {L' : List Bx} (hL : ∀ p ∈ L', (F p.1 → Blk W' p.1 p.2.1 p.2.2) ∧ (¬ F p.1 → p ∈ L)) : Bxs w L' W' :=
  ⟨h.below.trans (ht.below h.below.size hF), fun p hp => by
    by_cases e : F p.1
    · exact (hL p hp).1 e
    · exact (h.at_ p ((hL p hp).2 e)).turned ht e⟩
end
theorem KeptBut.cell {M : Nat → Prop} (W : World) {p : Addr} (v : Value) (h : M p.block) : KeptBut M W (W.setCell p v) := ⟨by simp, fun k _ hn => Below.heap_setCell _ _ _ _ (fun e => hn (e ▸ h))⟩
theorem KeptBut.ofTurned {M : Nat → Prop} {W W' : World} (h : Turned M W W') : KeptBut M W W' := ⟨h.size, fun k hk hn => h.block k hk hn⟩

theorem Blk.off {w : World} {b : Nat} {cs : Array Value} {ty : TypeId} (h : Blk w b cs ty) {g j : Nat} (hp : b ≠ g) (v : Value) : Blk (w.setCell ⟨g, j, none⟩ v) b cs ty := (Below.heap_setCell _ _ _ _ hp).trans h
theorem setCell_same {w : World} {b j : Nat} {cs : Array Value} {ty : TypeId} {v : Value} (h : Blk w b cs ty) (hv : cs[j]? = some v) : w.setCell ⟨b, j, none⟩ v = w := by
  rw [setCell_eq_setRow w b j cs ty (0, 0) v h]
  have e : cs.setIfInBounds j v = cs := by
    apply Array.ext
    · simp
    · intro k h1 h2
      rw [Array.getElem_setIfInBounds (by simpa using h2)]
      split
      · rename_i e; subst e
        rw [Array.getElem?_eq_getElem h2] at hv
        exact (Option.some.inj hv).symm
      · rfl
  rw [e]
  exact setRow_self w b cs ty (0, 0) h

/-! ### Wants -/
abbrev wnL (z : Nat) (n : Int) : List Bx := [(z, #[.int .u32 n], 26)]
theorem Bxs.set1 {w W W' : World} {b : Nat} {cs cs' : Array Value} {ty : TypeId} (h : Bxs w [(b, cs, ty)] W) (hb : w.heap.size ≤ b) (ht : Turned (fun k => k = b) W W') (hB : Blk W' b cs' ty) : Bxs w [(b, cs', ty)] W' :=
  h.turned ht (fun k e => by omega) (fun p hp => by
    simp only [List.mem_cons, List.not_mem_nil, or_false] at hp
    subst hp
    exact ⟨fun _ => hB, fun hn => absurd rfl hn⟩)
set_option maxRecDepth 100000 in
theorem Wants_any {w : World} {S : Nat} {l : Ls} {F : Nat → Prop} (h : At w S l F) (hal : W32 l.al) (now : Int) : Calls Try.prog 17 #[.pointer (some ⟨S, 0, none⟩), .int .i64 now] w fun e w' => e = .returned (.int .u32 (l.wn now)) ∧ Below w.heap.size w w' := by
  have HA := Lib.hid (fun W (hb : Below w.heap.size w W) => (show At W S l F from h.below hb))
  have HF := Lib.hid h.lt
  have h0 : Bxs w (wnL w.heap.size 0) (w.alloc (.cells #[.int .u32 0] 26)) := (Bxs.nil w).alloc _ _
  have H0 := Lib.hid h0
  clear h h0
  refine (callsIn_wide (n := 5)).1 ?_
  refine callsIn_of_wp_marks Try.func17 rfl trivial ?_ rfl
  refine wpIn_wide.2 ?_
  simp only [Try.ntmps17, List.size_toArray, List.length_cons, List.length_nil, Nat.reduceAdd, Nat.reduceSub, Array.replicate_succ, Array.replicate_zero, List.push_toArray, List.append_toArray, List.nil_append, List.cons_append]
  go_wp2_with fail
  refine (wanting_any _ now _).mono ?_; rintro e W1 ⟨rfl, rfl⟩
  have HX := Lib.hid ((H0.out.alloc #[.pointer (some ⟨S, 0, none⟩)] 25).alloc #[.int .i64 now] 2)
  have hB := HX.out.get (w.heap.size + 1) (cs := #[.pointer (some ⟨S, 0, none⟩)]) (ty := 25) (by simp)
  have hC := HX.out.get (w.heap.size + 1 + 1) (cs := #[.int .i64 now]) (ty := 2) (by simp)
  have HX1 : Hid (Bxs w (wnL w.heap.size 0) (((w.alloc (.cells #[.int .u32 0] 26)).alloc (.cells #[.pointer (some ⟨S, 0, none⟩)] 25)).alloc (.cells #[.int .i64 now] 2))) := ⟨HX.out.below, fun p hp => HX.out.at_ p (by simp at hp ⊢; exact .inr (.inr hp))⟩
  clear H0
  go_wp2_with fail
  refine (wpIn_wide (n := 5)).1 (wp_over_f (gf := 49) (lb := #[.pointer (some ⟨w.heap.size + 1, 0, none⟩), .pointer (some ⟨w.heap.size + 1 + 1, 0, none⟩)]) rfl (enters_of Try.func49 (by kernel_rfl) rfl)
    (wanting1_gives (HA.out _ HX1.out.below) hal hB hC (fun k => k = w.heap.size) (fun k e => by subst e; simp <;> omega) (by omega) (by omega) (fun k hk e => by have := HF.out k hk; omega))
    (fun k e => by subst e; simp <;> omega) (fun _ => rfl)
    (fun pre W => ∃ _x : Unit, True ∧ Bxs w (wnL w.heap.size (bsum pre)) W)
    (fun c pre W => ∃ _x : Unit, False ∧ Bxs w [] W)
    (bxs_own w _ _ (by simp <;> omega)) (fun c => bxs_own w _ _ (by simp <;> omega)) ⟨(), trivial, HX1.out⟩
    (fun tm x => (tm.setIfInBounds 10 (.int .i64 (x : Int))).setIfInBounds 6 (.int .i64 (x : Int)))
    ?assign ?body ?done (fun _ _ _ _ _ _ _ hx _ => by obtain ⟨_, h, _⟩ := hx; exact h.elim))
  case assign =>
    intro ll mm x W1 K hK
    gi_wp2
    simp only [List.setIfInBounds_toArray, List.set_cons_zero, List.set_cons_succ] at hK
    exact hK
  case body =>
    rintro ll mm pre x rest W hf ⟨_, _, hX⟩
    simp only [List.setIfInBounds_toArray, List.set_cons_zero, List.set_cons_succ]
    have hb := hX.get w.heap.size (cs := #[.int .u32 (bsum pre)]) (ty := 26) (by simp)
    have q0 := hb.cell 0
    have f0 := hb.frozen 0
    simp only [List.getElem?_toArray, List.getElem?_cons_zero] at q0
    have HO := Lib.hid (wl_or hf)
    have hx4 := wl_lt hf
    have HX9 := Lib.hid hX
    have HB9 := Lib.hid hb
    have hx0 : (0 : Int) ≤ (x : Int) := by omega
    have hx5 : (x : Int) < 32 := by omega
    have hpow : IntKind.u32.wrap (2 ^ x) = 2 ^ x := by
      rcases lt4 hx4 with rfl | rfl | rfl | rfl <;> decide
    clear hf hX hb
    gi_wp2
    refine wpIn_region_round_plain (by kernel_rfl) (by kernel_rfl) (fun _ _ h => h) ?_
    refine wpAny_take (i := 1) (v := .int .i64 (x : Int)) rfl (by kernel_rfl) (by kernel_rfl) (by kernel_rfl) (fun _ _ _ h => h) (.inl ⟨by rfl, fun W => by go_simp⟩) ?_
    try simp only [Act.put, List.setIfInBounds_toArray, List.set_cons_zero, List.set_cons_succ]
    refine wpAny_take (i := 2) (v := .int .u32 (2 ^ x)) rfl (by kernel_rfl) (by kernel_rfl) (by kernel_rfl) (fun _ _ _ h => h) (.inl ⟨by rfl, fun W => by go_simp⟩) ?_
    try simp only [Act.put, List.setIfInBounds_toArray, List.set_cons_zero, List.set_cons_succ]
    refine wpAny_ready (rs := [0]) (by kernel_rfl) (by simp) (AllReady.cons rfl (fun K hK => ?_) AllReady.nil)
    rw [if_pos (by kernel_rfl)]
    go_simp
    refine hK _ _ ?_
    clear hK K
    try simp only [Act.put, List.setIfInBounds_toArray, List.set_cons_zero, List.set_cons_succ]
    refine wpAny_take (i := 3) (v := .int .u32 (bsum (pre ++ [x]))) rfl (by kernel_rfl) (by kernel_rfl) (by kernel_rfl) (fun _ _ _ h => h) (.inl ⟨by rfl, fun W => by have q := HO.out; go_simp⟩) ?_
    try simp only [Act.put, List.setIfInBounds_toArray, List.set_cons_zero, List.set_cons_succ]
    refine wpAny_ready (rs := [4]) (by kernel_rfl) (by simp) (AllReady.cons rfl (fun K hK => ?_) AllReady.nil)
    rw [if_pos (by kernel_rfl)]
    go_simp
    refine hK _ _ ?_
    clear hK K
    try simp only [Act.put, List.setIfInBounds_toArray, List.set_cons_zero, List.set_cons_succ]
    refine wpAny_done (by kernel_rfl) ?_ _
    gi_wp2
    have ht := (Turned.refl (fun k => k = w.heap.size) W).setCell (p := ⟨w.heap.size, 0, none⟩) (.inl rfl) (.int .u32 (bsum (pre ++ [x])))
    exact ⟨KeptBut.ofTurned ht.drew, (), trivial, HX9.out.set1 (Nat.le_refl _) ht.drew (HB9.out.setCell 0 _)⟩
  case done =>
    rintro D0 W9 hD0 ⟨_, _, hX9⟩ hK
    have HX9 := Lib.hid hX9
    have HK := Lib.hid hK
    have hb := hX9.get w.heap.size (cs := #[.int .u32 (bsum (l.wl now))]) (ty := 26) (by simp)
    have q0 := hb.cell 0
    simp only [List.getElem?_toArray, List.getElem?_cons_zero] at q0
    clear hX9 hK hb
    have hD9 := (Array.getElem?_eq_some_iff.1 HK.out).1
    have hD1 : w.heap.size < D0 := by simp at hD0; omega
    go_wp2
    refine ⟨by simp, .inl ⟨_, _, rfl, run_takeDeferred (show W9.heap[D0]? = some (.deferred (some [])) from HK.out), ?_⟩⟩
    have hB : Below w.heap.size w (W9.putObj D0 (.deferred none)) := HX9.out.below.trans (belowK_b (w := w) (Nat.le_refl _) _ D0 _ _ (by omega) HK.out rfl rfl)
    exact ⟨.int .u32 (l.wn now), by simp [results, Try.results17, go_sem]; rfl, rfl, hB⟩
set_option maxRecDepth 100000 in
theorem Wants_nil (now : Int) (w : World) : Calls Try.prog 17 #[.pointer none, .int .i64 now] w fun e w' => e = .returned (.int .u32 0) ∧ Below w.heap.size w w' := by
  have h0 : Bxs w (wnL w.heap.size 0) (w.alloc (.cells #[.int .u32 0] 26)) := (Bxs.nil w).alloc _ _
  have H0 := Lib.hid h0
  clear h0
  refine (callsIn_wide (n := 5)).1 ?_
  refine callsIn_of_wp_marks Try.func17 rfl trivial ?_ rfl
  refine wpIn_wide.2 ?_
  simp only [Try.ntmps17, List.size_toArray, List.length_cons, List.length_nil, Nat.reduceAdd, Nat.reduceSub, Array.replicate_succ, Array.replicate_zero, List.push_toArray, List.append_toArray, List.nil_append, List.cons_append]
  go_wp2_with fail
  refine (wanting_any none now _).mono ?_; rintro e W1 ⟨rfl, rfl⟩
  have HX := Lib.hid ((H0.out.alloc #[.pointer none] 25).alloc #[.int .i64 now] 2)
  have hB := HX.out.get (w.heap.size + 1) (cs := #[.pointer none]) (ty := 25) (by simp)
  have HX1 : Hid (Bxs w (wnL w.heap.size 0) (((w.alloc (.cells #[.int .u32 0] 26)).alloc (.cells #[.pointer none] 25)).alloc (.cells #[.int .i64 now] 2))) := ⟨HX.out.below, fun p hp => HX.out.at_ p (by simp at hp ⊢; exact .inr (.inr hp))⟩
  clear H0
  go_wp2_with fail
  refine (wpIn_wide (n := 5)).1 (wp_over_f (gf := 49) (lb := #[.pointer (some ⟨w.heap.size + 1, 0, none⟩), .pointer (some ⟨w.heap.size + 1 + 1, 0, none⟩)]) rfl (enters_of Try.func49 (by kernel_rfl) rfl)
    (wanting1_nil _ _ _ hB (fun k => False))
    (fun k e => e.elim) (fun _ => rfl)
    (fun pre W => ∃ _x : Unit, True ∧ Bxs w (wnL w.heap.size 0) W)
    (fun c pre W => ∃ _x : Unit, False ∧ Bxs w [] W)
    (bxs_own w _ _ (by simp <;> omega)) (fun c => bxs_own w _ _ (by simp <;> omega)) ⟨(), trivial, HX1.out⟩
    (fun tm x => (tm.setIfInBounds 10 (.int .i64 (x : Int))).setIfInBounds 6 (.int .i64 (x : Int)))
    ?assign ?body ?done (fun _ _ _ _ _ _ _ hx _ => by obtain ⟨_, h, _⟩ := hx; exact h.elim))
  case assign =>
    intro ll mm x W1 K hK
    gi_wp2
    simp only [List.setIfInBounds_toArray, List.set_cons_zero, List.set_cons_succ] at hK
    exact hK
  case body =>
    rintro ll mm pre x rest W hf ⟨_, _, hX⟩
    simp at hf
  case done =>
    rintro D0 W9 hD0 ⟨_, _, hX9⟩ hK
    have HX9 := Lib.hid hX9
    have HK := Lib.hid hK
    have hb := hX9.get w.heap.size (cs := #[.int .u32 0]) (ty := 26) (by simp)
    have q0 := hb.cell 0
    simp only [List.getElem?_toArray, List.getElem?_cons_zero] at q0
    clear hX9 hK hb
    have hD9 := (Array.getElem?_eq_some_iff.1 HK.out).1
    have hD1 : w.heap.size < D0 := by simp at hD0; omega
    go_wp2
    refine ⟨by simp, .inl ⟨_, _, rfl, run_takeDeferred (show W9.heap[D0]? = some (.deferred (some [])) from HK.out), ?_⟩⟩
    have hB : Below w.heap.size w (W9.putObj D0 (.deferred none)) := HX9.out.below.trans (belowK_b (w := w) (Nat.le_refl _) _ D0 _ _ (by omega) HK.out rfl rfl)
    exact ⟨.int .u32 0, by simp [results, Try.results17, go_sem], rfl, hB⟩

/-! ### Pending -/
abbrev pdL (z : Nat) (q : Option Addr) (k : Int) (b : Bool) : List Bx := [(z + 1 + 1, #[.bool b], 4), (z + 1, #[.int .i64 k], 3), (z, #[.pointer q], 25)]
theorem pd_start (w : World) (q : Option Addr) : Bxs w (pdL w.heap.size q 0 false) (((w.alloc (.cells #[.pointer q] 25)).alloc (.cells #[.int .i64 0] 3)).alloc (.cells #[.bool false] 4)) := by
  have := (((Bxs.nil w).alloc #[.pointer q] 25).alloc #[.int .i64 0] 3).alloc #[.bool false] 4
  simp only [World.size_alloc] at this
  exact this
abbrev pdM (z : Nat) (k : Nat) : Prop := k = z + 1 ∨ k = z + 1 + 1
theorem pd_set {w W : World} {q : Option Addr} (h : Bxs w (pdL w.heap.size q 0 false) W) (k : Int) (b : Bool) :
    Bxs w (pdL w.heap.size q k b) ((W.setCell ⟨w.heap.size + 1, 0, none⟩ (.int .i64 k)).setCell ⟨w.heap.size + 1 + 1, 0, none⟩ (.bool b)) ∧ Turned (pdM w.heap.size) W ((W.setCell ⟨w.heap.size + 1, 0, none⟩ (.int .i64 k)).setCell ⟨w.heap.size + 1 + 1, 0, none⟩ (.bool b)) := by
  have a0 := h.get w.heap.size (cs := #[.pointer q]) (ty := 25) (by simp)
  have a1 := h.get (w.heap.size + 1) (cs := #[.int .i64 0]) (ty := 3) (by simp)
  have a2 := h.get (w.heap.size + 1 + 1) (cs := #[.bool false]) (ty := 4) (by simp)
  have ht : Turned (pdM w.heap.size) W ((W.setCell ⟨w.heap.size + 1, 0, none⟩ (.int .i64 k)).setCell ⟨w.heap.size + 1 + 1, 0, none⟩ (.bool b)) :=
    ((Turned.refl (pdM w.heap.size) W).setCell (.inl (.inl rfl)) _).setCell (.inl (.inr rfl)) _
  refine ⟨h.turned ht (by rintro k (e | e) <;> omega) (fun p hp => ?_), ht⟩
  simp only [List.mem_cons, List.not_mem_nil, or_false] at hp
  rcases hp with rfl | rfl | rfl
  · exact ⟨fun _ => (a2.off (by omega) _).setCell 0 _, fun hn => absurd (.inr rfl) hn⟩
  · exact ⟨fun _ => (a1.setCell 0 _).off (by omega) _, fun hn => absurd (.inl rfl) hn⟩
  · exact ⟨fun e => by rcases e with e | e <;> simp at e <;> omega, fun _ => by simp⟩
set_option maxRecDepth 100000 in
theorem Pending_any {w : World} {S : Nat} {l : Ls} {F : Nat → Prop} (h : At w S l F) (hok : l.Ok) (now : Int) : Calls Try.prog 15 #[.pointer (some ⟨S, 0, none⟩), .int .i64 now] w fun e w' => e = .returned (.tuple #[.int .i64 (l.pdN now), .bool (l.pdB now)]) ∧ Below w.heap.size w w' := by
  have HA := Lib.hid (fun W (hb : Below w.heap.size w W) => (show At W S l F from h.below hb))
  have HF := Lib.hid h.lt
  have H0 := Lib.hid (pd_start w (some ⟨S, 0, none⟩))
  have hal := hok.al
  have HMS := Lib.hid hok.ms
  clear h hok
  refine (callsIn_wide (n := 5)).1 ?_
  refine callsIn_of_wp_marks Try.func15 rfl trivial ?_ rfl
  refine wpIn_wide.2 ?_
  simp only [Try.ntmps15, List.size_toArray, List.length_cons, List.length_nil, Nat.reduceAdd, Nat.reduceSub, Array.replicate_succ, Array.replicate_zero, List.push_toArray, List.append_toArray, List.nil_append, List.cons_append]
  go_wp2_with fail
  refine (wanting_any _ now _).mono ?_; rintro e W1 ⟨rfl, rfl⟩
  have HX := Lib.hid ((H0.out.alloc #[.pointer (some ⟨S, 0, none⟩)] 25).alloc #[.int .i64 now] 2)
  have hB := HX.out.get (w.heap.size + 1 + 1 + 1) (cs := #[.pointer (some ⟨S, 0, none⟩)]) (ty := 25) (by simp)
  have hC := HX.out.get (w.heap.size + 1 + 1 + 1 + 1) (cs := #[.int .i64 now]) (ty := 2) (by simp)
  have HX1 : Hid (Bxs w (pdL w.heap.size (some ⟨S, 0, none⟩) 0 false) (((((w.alloc (.cells #[.pointer (some ⟨S, 0, none⟩)] 25)).alloc (.cells #[.int .i64 0] 3)).alloc (.cells #[.bool false] 4)).alloc (.cells #[.pointer (some ⟨S, 0, none⟩)] 25)).alloc (.cells #[.int .i64 now] 2))) := ⟨HX.out.below, fun p hp => HX.out.at_ p (by simp only [List.mem_cons] at hp ⊢; exact .inr (.inr hp))⟩
  clear H0
  go_wp2_with fail
  refine (wpIn_wide (n := 5)).1 (wp_over_f (gf := 49) (lb := #[.pointer (some ⟨w.heap.size + 1 + 1 + 1, 0, none⟩), .pointer (some ⟨w.heap.size + 1 + 1 + 1 + 1, 0, none⟩)]) rfl (enters_of Try.func49 (by kernel_rfl) rfl)
    (wanting1_gives (HA.out _ HX1.out.below) hal hB hC (pdM w.heap.size) (fun k e => by rcases e with rfl | rfl <;> simp <;> omega) (by rintro (e | e) <;> omega) (by rintro (e | e) <;> omega) (fun k hk e => by have := HF.out k hk; rcases e with e | e <;> omega))
    (fun k e => by rcases e with rfl | rfl <;> simp <;> omega) (fun _ => rfl)
    (fun pre W => ∃ _x : Unit, (∀ y ∈ pre, bit l.ms y = false) ∧ Bxs w (pdL w.heap.size (some ⟨S, 0, none⟩) 0 false) W)
    (fun c pre W => ∃ k : Nat, (c = .ret ∧ l.pd now = some k) ∧ Bxs w (pdL w.heap.size (some ⟨S, 0, none⟩) (k : Int) true) W)
    (bxs_own w _ _ (by simp <;> omega)) (fun c => bxs_own w _ _ (by simp <;> omega)) ⟨(), by simp, HX1.out⟩
    (fun tm x => (tm.setIfInBounds 10 (.int .i64 (x : Int))).setIfInBounds 6 (.int .i64 (x : Int)))
    ?assign ?body ?done ?stop)
  case assign =>
    intro ll mm x W1 K hK
    gi_wp2
    simp only [List.setIfInBounds_toArray, List.set_cons_zero, List.set_cons_succ] at hK
    exact hK
  case body =>
    rintro ll mm pre x rest W hf ⟨_, hpre, hX⟩
    simp only [List.setIfInBounds_toArray, List.set_cons_zero, List.set_cons_succ]
    have q0 := (hX.get w.heap.size (cs := #[.pointer (some ⟨S, 0, none⟩)]) (ty := 25) (by simp)).cell 0
    have k1 := hX.get (w.heap.size + 1) (cs := #[.int .i64 0]) (ty := 3) (by simp)
    have k2 := hX.get (w.heap.size + 1 + 1) (cs := #[.bool false]) (ty := 4) (by simp)
    have q1 := k1.cell 0
    have q2 := k2.cell 0
    have f1 := k1.frozen 0
    have f2 := k2.frozen 0
    simp only [List.getElem?_toArray, List.getElem?_cons_zero] at q0 q1 q2
    have q3 : W.cell? ⟨S, 2, none⟩ = some (.int .u32 l.ms) := by
      obtain ⟨wv, tv, _, hi⟩ := HA.out W hX.below
      exact hi.cells.2.2.1
    have hx4 := wl_lt hf
    have HH := Lib.hid (has_any l.ms x HMS.out hx4 W)
    have HSet := Lib.hid (pd_set hX (x : Int) true)
    have HX9 := Lib.hid hX
    have HF9 := Lib.hid hf
    have HP := Lib.hid hpre
    clear hf hX hpre k1 k2
    cases hb : bit l.ms x with
    | true =>
      rw [hb] at HH
      have HD : Hid (l.pd now = some x) := pd_hit HF9.out hb HP.out
      clear hb
      gi_wp2_with (refine ⟨trivial, fun hd => (by cases hd), ?_⟩; gi_at_call 43; refine (CallsIn.inRound ll (callsIn_wide.2 HH.out)).mono ?_; rintro e w1 ⟨rfl, rfl⟩)
      exact ⟨KeptBut.ofTurned HSet.out.2, x, ⟨rfl, HD.out⟩, HSet.out.1⟩
    | false =>
      rw [hb] at HH
      have HN : Hid (∀ y ∈ pre ++ [x], bit l.ms y = false) := fun y hy => by
        rcases List.mem_append.1 hy with h | h
        · exact HP.out y h
        · simp at h; subst h; exact hb
      clear hb
      gi_wp2_with (refine ⟨trivial, fun hd => (by cases hd), ?_⟩; gi_at_call 43; refine (CallsIn.inRound ll (callsIn_wide.2 HH.out)).mono ?_; rintro e w1 ⟨rfl, rfl⟩)
      exact ⟨KeptBut.refl _ _, (), HN.out, HX9.out⟩
  case done =>
    rintro D0 W9 hD0 ⟨_, hn, hX9⟩ hK
    have HX9 := Lib.hid hX9
    have HK := Lib.hid hK
    have hpd := pd_none hn
    have E1 : Hid (l.pdN now = 0) := by show l.pdN now = 0; unfold Ls.pdN; rw [hpd]; rfl
    have E2 : Hid (l.pdB now = false) := by show l.pdB now = false; unfold Ls.pdB; rw [hpd]; rfl
    clear hn hX9 hK hB hC HX HX1 hpd
    have k1 := HX9.out.get (w.heap.size + 1) (cs := #[.int .i64 0]) (ty := 3) (by simp)
    have k2 := HX9.out.get (w.heap.size + 1 + 1) (cs := #[.bool false]) (ty := 4) (by simp)
    have q1 := k1.cell 0
    have q2 := k2.cell 0
    have f1 := k1.frozen 0
    have f2 := k2.frozen 0
    simp only [List.getElem?_toArray, List.getElem?_cons_zero] at q1 q2
    have hD9 := (Array.getElem?_eq_some_iff.1 HK.out).1
    have hD1 : w.heap.size + 1 + 1 + 1 ≤ D0 := by simp at hD0; omega
    have s1 : W9.setCell ⟨w.heap.size + 1, 0, none⟩ (.int .i64 0) = W9 := setCell_same k1 rfl
    have s2 : W9.setCell ⟨w.heap.size + 1 + 1, 0, none⟩ (.bool false) = W9 := setCell_same k2 rfl
    have c1 : (W9.putObj D0 (.deferred none)).cell? ⟨w.heap.size + 1, 0, none⟩ = some (.int .i64 0) := (cell_putObj (show w.heap.size + 1 ≠ D0 by omega)).trans (k1.cell 0)
    have c2 : (W9.putObj D0 (.deferred none)).cell? ⟨w.heap.size + 1 + 1, 0, none⟩ = some (.bool false) := (cell_putObj (show w.heap.size + 1 + 1 ≠ D0 by omega)).trans (k2.cell 0)
    have hB : Below w.heap.size w (W9.putObj D0 (.deferred none)) := HX9.out.below.trans (belowK_b (w := w) (Nat.le_refl _) _ D0 _ _ (by omega) HK.out rfl rfl)
    have HB := Lib.hid hB
    have HC1 := Lib.hid c1
    have HC2 := Lib.hid c2
    clear hB c1 c2 k1 k2
    go_wp2
    clear s1 s2 q1 q2 f1 f2
    have c1 := HC1.out
    have c2 := HC2.out
    refine ⟨by simp, .inl ⟨_, _, rfl, run_takeDeferred (show W9.heap[D0]? = some (.deferred (some [])) from HK.out), ?_⟩⟩
    exact ⟨.tuple #[.int .i64 0, .bool false], by simp [results, Try.results15, go_sem, c1, c2], by rw [E1.out, E2.out], HB.out⟩
  case stop =>
    rintro D0 c pre rest W9 hD0 hf ⟨k, ⟨rfl, hpd⟩, hX9⟩ hK
    have HX9 := Lib.hid hX9
    have HK := Lib.hid hK
    have E1 : Hid (l.pdN now = (k : Int)) := by show l.pdN now = _; unfold Ls.pdN; rw [hpd]; rfl
    have E2 : Hid (l.pdB now = true) := by show l.pdB now = true; unfold Ls.pdB; rw [hpd]; rfl
    clear hf hX9 hK hB hC HX HX1 hpd
    have k1 := HX9.out.get (w.heap.size + 1) (cs := #[.int .i64 (k : Int)]) (ty := 3) (by simp)
    have k2 := HX9.out.get (w.heap.size + 1 + 1) (cs := #[.bool true]) (ty := 4) (by simp)
    have q1 := k1.cell 0
    have q2 := k2.cell 0
    have f1 := k1.frozen 0
    have f2 := k2.frozen 0
    simp only [List.getElem?_toArray, List.getElem?_cons_zero] at q1 q2
    have hD9 := (Array.getElem?_eq_some_iff.1 HK.out).1
    have hD1 : w.heap.size + 1 + 1 + 1 ≤ D0 := by simp at hD0; omega
    have s1 : W9.setCell ⟨w.heap.size + 1, 0, none⟩ (.int .i64 (k : Int)) = W9 := setCell_same k1 rfl
    have s2 : W9.setCell ⟨w.heap.size + 1 + 1, 0, none⟩ (.bool true) = W9 := setCell_same k2 rfl
    have c1 : (W9.putObj D0 (.deferred none)).cell? ⟨w.heap.size + 1, 0, none⟩ = some (.int .i64 (k : Int)) := (cell_putObj (show w.heap.size + 1 ≠ D0 by omega)).trans (k1.cell 0)
    have c2 : (W9.putObj D0 (.deferred none)).cell? ⟨w.heap.size + 1 + 1, 0, none⟩ = some (.bool true) := (cell_putObj (show w.heap.size + 1 + 1 ≠ D0 by omega)).trans (k2.cell 0)
    have hB : Below w.heap.size w (W9.putObj D0 (.deferred none)) := HX9.out.below.trans (belowK_b (w := w) (Nat.le_refl _) _ D0 _ _ (by omega) HK.out rfl rfl)
    have HB := Lib.hid hB
    have HC1 := Lib.hid c1
    have HC2 := Lib.hid c2
    clear hB c1 c2 k1 k2
    refine wpIn_ret ?_
    go_wp2
    clear s1 s2 q1 q2 f1 f2
    have c1 := HC1.out
    have c2 := HC2.out
    refine ⟨by simp, .inl ⟨_, _, rfl, run_takeDeferred (show W9.heap[D0]? = some (.deferred (some [])) from HK.out), ?_⟩⟩
    exact ⟨.tuple #[.int .i64 (k : Int), .bool true], by simp [results, Try.results15, go_sem, c1, c2], by rw [E1.out, E2.out], HB.out⟩
set_option maxRecDepth 100000 in
theorem Pending_nil (now : Int) (w : World) : Calls Try.prog 15 #[.pointer none, .int .i64 now] w fun e w' => e = .returned (.tuple #[.int .i64 0, .bool false]) ∧ Below w.heap.size w w' := by
  have H0 := Lib.hid (pd_start w none)
  refine (callsIn_wide (n := 5)).1 ?_
  refine callsIn_of_wp_marks Try.func15 rfl trivial ?_ rfl
  refine wpIn_wide.2 ?_
  simp only [Try.ntmps15, List.size_toArray, List.length_cons, List.length_nil, Nat.reduceAdd, Nat.reduceSub, Array.replicate_succ, Array.replicate_zero, List.push_toArray, List.append_toArray, List.nil_append, List.cons_append]
  go_wp2_with fail
  refine (wanting_any none now _).mono ?_; rintro e W1 ⟨rfl, rfl⟩
  have HX := Lib.hid ((H0.out.alloc #[.pointer none] 25).alloc #[.int .i64 now] 2)
  have hB := HX.out.get (w.heap.size + 1 + 1 + 1) (cs := #[.pointer none]) (ty := 25) (by simp)
  have HX1 : Hid (Bxs w (pdL w.heap.size none 0 false) (((((w.alloc (.cells #[.pointer none] 25)).alloc (.cells #[.int .i64 0] 3)).alloc (.cells #[.bool false] 4)).alloc (.cells #[.pointer none] 25)).alloc (.cells #[.int .i64 now] 2))) := ⟨HX.out.below, fun p hp => HX.out.at_ p (by simp only [List.mem_cons] at hp ⊢; exact .inr (.inr hp))⟩
  clear H0
  go_wp2_with fail
  refine (wpIn_wide (n := 5)).1 (wp_over_f (gf := 49) (lb := #[.pointer (some ⟨w.heap.size + 1 + 1 + 1, 0, none⟩), .pointer (some ⟨w.heap.size + 1 + 1 + 1 + 1, 0, none⟩)]) rfl (enters_of Try.func49 (by kernel_rfl) rfl)
    (wanting1_nil _ _ _ hB (fun k => False))
    (fun k e => e.elim) (fun _ => rfl)
    (fun pre W => ∃ _x : Unit, True ∧ Bxs w (pdL w.heap.size none 0 false) W)
    (fun c pre W => ∃ _x : Unit, False ∧ Bxs w [] W)
    (bxs_own w _ _ (by simp <;> omega)) (fun c => bxs_own w _ _ (by simp <;> omega)) ⟨(), trivial, HX1.out⟩
    (fun tm x => (tm.setIfInBounds 10 (.int .i64 (x : Int))).setIfInBounds 6 (.int .i64 (x : Int)))
    ?assign ?body ?done (fun _ _ _ _ _ _ _ hx _ => by obtain ⟨_, h, _⟩ := hx; exact h.elim))
  case assign =>
    intro ll mm x W1 K hK
    gi_wp2
    simp only [List.setIfInBounds_toArray, List.set_cons_zero, List.set_cons_succ] at hK
    exact hK
  case body =>
    rintro ll mm pre x rest W hf ⟨_, _, hX⟩
    simp at hf
  case done =>
    rintro D0 W9 hD0 ⟨_, _, hX9⟩ hK
    have HX9 := Lib.hid hX9
    have HK := Lib.hid hK
    have E1 : Hid ((0 : Int) = 0) := rfl
    have E2 : Hid (false = false) := rfl
    clear hX9 hK hB HX HX1
    have k1 := HX9.out.get (w.heap.size + 1) (cs := #[.int .i64 0]) (ty := 3) (by simp)
    have k2 := HX9.out.get (w.heap.size + 1 + 1) (cs := #[.bool false]) (ty := 4) (by simp)
    have q1 := k1.cell 0
    have q2 := k2.cell 0
    have f1 := k1.frozen 0
    have f2 := k2.frozen 0
    simp only [List.getElem?_toArray, List.getElem?_cons_zero] at q1 q2
    have hD9 := (Array.getElem?_eq_some_iff.1 HK.out).1
    have hD1 : w.heap.size + 1 + 1 + 1 ≤ D0 := by simp at hD0; omega
    have s1 : W9.setCell ⟨w.heap.size + 1, 0, none⟩ (.int .i64 0) = W9 := setCell_same k1 rfl
    have s2 : W9.setCell ⟨w.heap.size + 1 + 1, 0, none⟩ (.bool false) = W9 := setCell_same k2 rfl
    have c1 : (W9.putObj D0 (.deferred none)).cell? ⟨w.heap.size + 1, 0, none⟩ = some (.int .i64 0) := (cell_putObj (show w.heap.size + 1 ≠ D0 by omega)).trans (k1.cell 0)
    have c2 : (W9.putObj D0 (.deferred none)).cell? ⟨w.heap.size + 1 + 1, 0, none⟩ = some (.bool false) := (cell_putObj (show w.heap.size + 1 + 1 ≠ D0 by omega)).trans (k2.cell 0)
    have hB : Below w.heap.size w (W9.putObj D0 (.deferred none)) := HX9.out.below.trans (belowK_b (w := w) (Nat.le_refl _) _ D0 _ _ (by omega) HK.out rfl rfl)
    have HB := Lib.hid hB
    have HC1 := Lib.hid c1
    have HC2 := Lib.hid c2
    clear hB c1 c2 k1 k2
    go_wp2
    clear s1 s2 q1 q2 f1 f2
    have c1 := HC1.out
    have c2 := HC2.out
    refine ⟨by simp, .inl ⟨_, _, rfl, run_takeDeferred (show W9.heap[D0]? = some (.deferred (some [])) from HK.out), ?_⟩⟩
    exact ⟨.tuple #[.int .i64 0, .bool false], by simp [results, Try.results15, go_sem, c1, c2], rfl, HB.out⟩
end Go.Proofs.Ytmnkggnghflcpaa

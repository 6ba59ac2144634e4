/-
  Layer 3: All of package shadow: the iterator over the bytes that have sets, over the iterator of a copy's private pages: walks.
-/
import Derived.Test.YtepmndadbikijaaCopy
import Derived.WalkMore
import Derived.Test.YtepmndadbikijaaRound
namespace Go.Proofs.Ytepmndadbikijaa
open Go.RowKit Go.Shelf
set_option maxHeartbeats 1000000
set_option linter.unusedSimpArgs false
attribute [local go_sem] Oper.semAt_some

theorem Copy_nil (w : World) : Calls Try.prog 21 #[.pointer none] w fun e w' => e = .returned (.pointer none) ∧ w = w' := by
  go_enter Try.func21, Try.ntmps21
  go_wp2_with (go_at_call 41; refine (none_nil _).mono ?_; rintro e w1 ⟨rfl, rfl⟩)
  go_ret
  exact ⟨rfl, rfl⟩
/-- The iterator's value over the box B. -/
abbrev allV (B : Nat) : Value := .func (.func 37) #[] #[.pointer (some ⟨B, 0, none⟩)]
theorem All_nil (w : World) : Calls Try.prog 14 #[.pointer none] w fun e w' => e = .returned (allV w.heap.size) ∧ w' = w.alloc (.cells #[.pointer none] 22) := by
  have hmf : ∀ (fn : Fn) (first cap : Array Value) (w : World), (Instr.makeFunc fn first cap).run Try.prog w = .ok (.func fn first cap) w := fun _ _ _ _ => rfl
  go_enter Try.func14, Try.ntmps14
  go_wp2_with (go_at_call 21; refine (Copy_nil _).mono ?_; rintro e w' ⟨rfl, rfl⟩)
  go_ret
  exact ⟨rfl, rfl⟩
/-- What All leaves: a box, over a copy. -/
def AllPost (w : World) (P : Nat) (l : List Int) (v : Value) (w' : World) : Prop := ∃ B S' F', v = allV B ∧ w'.heap[B]? = some (.cells #[.pointer (some ⟨S', 0, none⟩)] 22 (0, 0)) ∧ Sh w' S' P l F' ∧ (∀ k, F' k → w.heap.size ≤ k) ∧ w.heap.size ≤ B ∧ Below w.heap.size w w'
theorem All_any {w : World} {S P : Nat} {l : List Int} {F : Nat → Prop} (h : Sh w S P l F) : Calls Try.prog 14 #[.pointer (some ⟨S, 0, none⟩)] w fun e w' => ∃ v, e = .returned v ∧ AllPost w P l v w' := by
  have hmf : ∀ (fn : Fn) (first cap : Array Value) (w : World), (Instr.makeFunc fn first cap).run Try.prog w = .ok (.func fn first cap) w := fun _ _ _ _ => rfl
  obtain ⟨mb, G, D, rfl, h⟩ := h
  have HC := Lib.hid (Copy_any h)
  clear h
  go_enter Try.func14, Try.ntmps14
  go_wp2_with (go_at_call 21; refine HC.out.mono ?_; rintro e w1 ⟨S', F', rfl, hS, hF, hb⟩; have HS := Lib.hid hS; have HF := Lib.hid hF; have HB := Lib.hid hb; clear hS hF hb)
  go_ret
  exact ⟨_, rfl, w1.heap.size, S', F', rfl, heap_alloc_new w1 _, HS.out.alloc _, HF.out, HB.out.size, HB.out.alloc HB.out.size _⟩

/-- A byte and its set. -/
abbrev eEnc (l : List Int) (i : Nat) : Array Value := #[.int .i64 (i : Int), .int .u32 (at0 l i)]
theorem All1_nil (B : Nat) (w : World) (hB : w.heap[B]? = some (.cells #[.pointer none] 22 (0, 0))) (M : Nat → Prop) (l : List Int) : Gives Try.prog 37 #[.pointer (some ⟨B, 0, none⟩)] (eEnc l) M ([] : List Nat) w := fun n ll J Jx W hW hJ hJx hY h0 => by
  refine callsIn_of_wp_marks Try.func37 rfl trivial ?_ rfl
  refine wpIn_wide.2 ?_
  simp only [Try.ntmps37, List.size_toArray, List.length_cons, List.length_nil, Nat.reduceAdd, Nat.reduceSub, Array.replicate_succ, Array.replicate_zero, List.push_toArray, List.append_toArray, List.nil_append, List.cons_append]
  obtain ⟨c1, _⟩ := boxed_cell ((hW.block B (Array.getElem?_eq_some_iff.1 hB).1).trans hB)
  have hBl : B < W.heap.size := Nat.lt_of_lt_of_le (Array.getElem?_eq_some_iff.1 hB).1 hW.size
  go_wp2
  go_step3
  refine wp_seq (wp_label ?_)
  go_wp2_with (go_at_call 38; refine (eachP_any _ _).mono ?_; rintro e w' ⟨rfl, rfl⟩)
  obtain ⟨W2, hW2⟩ : ∃ W2, W2 = (W.alloc (.cells #[.func (.yield ll) #[] #[]] 77)).alloc (.cells #[.pointer none] 22) := ⟨_, rfl⟩
  have hb2 : W2.heap[W.heap.size + 1]? = some (.cells #[.pointer none] 22 (0, 0)) := by
    have := heap_alloc_new (W.alloc (.cells #[.func (.yield ll) #[] #[]] 77)) (.cells #[.pointer none] 22)
    rw [World.size_alloc] at this
    rw [hW2]; exact this
  have hz2 : W2.heap.size = W.heap.size + 2 := by rw [hW2]; simp
  have h02 : J [] W2 := by rw [hW2]; exact hJ.alloc _ (hJ.alloc _ h0)
  rw [← hW2]
  refine (wpIn_wide (n := n)).1 (wp_over (gf := 47) (lb := #[.pointer (some ⟨W.heap.size + 1, 0, none⟩)]) rfl (enters_of Try.func47 (by kernel_rfl) rfl)
    (eachP1_nil (W.heap.size + 1) W2 hb2 (fun _ => False) (fun _ => 0)) (fun _ h => h.elim) (fun _ => rfl)
    (fun _ => J []) (fun _ _ _ => False) (fun _ A B row hs hg hr => hJ [] A B row hs hg (fun r e => ⟨by have := (hr r e).1; omega, (hr r e).2⟩)) (fun _ _ _ _ _ hs _ _ => hs) h02
    (fun p => { tmps := #[.func (.yield ll) #[] #[], .pointer (some ⟨B, 0, none⟩), .pointer (some ⟨W.heap.size, 0, none⟩), .int .i64 (p : Int), .pointer (some ⟨0, 0, none⟩), undef, undef, .pointer none, eachV (W.heap.size + 1), .int .i64 (p : Int), .pointer (some ⟨0, 0, none⟩), undef, undef, undef, undef, undef, undef, undef, undef, undef, undef, undef, undef, undef, undef, undef, undef, undef, undef, undef, undef], defers := [] }) ?assign ?body ?done ?stop)
  case assign =>
    intro l3 mm x W1 K hK
    gi_wp2
    exact hK
  case body =>
    rintro l3 mm pre p rest W1 hf
    simp at hf
  case done =>
    intro D0 W1 hD0 hI hK
    go_wp2
    refine ⟨by simp, .inl ⟨_, _, rfl, run_takeDeferred hK, ?_⟩⟩
    refine ⟨_, results_none rfl _ _ _, ⟨_, rfl⟩, .inl ?_⟩
    exact hJ.putObj _ hI (by omega) hK rfl
  case stop =>
    rintro D0 c pre rest W1 _ _ hx _
    exact hx.elim

/-- The blocks K lie as they lay. -/
def Lies (K : Nat → Prop) (W2 W : World) : Prop := ∀ k, K k → W.heap[k]? = W2.heap[k]?
theorem lies_own {β : Type} {K : Nat → Prop} {W2 : World} {B : Nat} (hK : ∀ k, K k → k < B) (hB : B ≤ W2.heap.size) : OwnFrom B (fun (_ : β) W => Lies K W2 W) := fun _ W W' row hs hg hr k hk => by
  have h1 := hs k hk
  have h2 : k < W.heap.size := by
    have h3 : k < W2.heap.size := by have := hK k hk; omega
    rw [Array.getElem?_eq_getElem h3] at h1
    exact (Array.getElem?_eq_some_iff.1 h1).1
  exact (hg.block k h2 (fun e => by have := (hr k e.symm).1; have := hK k hk; omega)).trans h1
theorem Lies.lt {K : Nat → Prop} {W2 W : World} (h : Lies K W2 W) {k : Nat} (hk : K k) (hl : k < W2.heap.size) : k < W.heap.size := by
  have h1 := h k hk
  rw [Array.getElem?_eq_getElem hl] at h1
  exact (Array.getElem?_eq_some_iff.1 h1).1

set_option maxRecDepth 100000 in
theorem All1_gives {w : World} {S P : Nat} {l : List Int} {F : Nat → Prop} (h : Sh w S P l F) (B : Nat) (hB : w.heap[B]? = some (.cells #[.pointer (some ⟨S, 0, none⟩)] 22 (0, 0))) (M : Nat → Prop) (hMl : ∀ k, M k → k < w.heap.size) (hMF : ∀ k, F k → ¬ M k) :
    Gives Try.prog 37 #[.pointer (some ⟨B, 0, none⟩)] (eEnc l) M (els l (64 * P)) w := fun n ll J Jx W hW hJ hJx hY h0 => by
  have hmo : Try.prog.follows .mixedOrders = true := by kernel_rfl
  obtain ⟨mb, G, D, rfl, h⟩ := h
  have hb := h.bytes
  have hlen := hb.len
  refine callsIn_of_wp_marks Try.func37 rfl trivial ?_ rfl
  refine wpIn_wide.2 ?_
  simp only [Try.ntmps37, List.size_toArray, List.length_cons, List.length_nil, Nat.reduceAdd, Nat.reduceSub, Array.replicate_succ, Array.replicate_zero, List.push_toArray, List.append_toArray, List.nil_append, List.cons_append]
  obtain ⟨c1, _⟩ := boxed_cell ((hW.block B (Array.getElem?_eq_some_iff.1 hB).1).trans hB)
  have hBl : B < W.heap.size := Nat.lt_of_lt_of_le (Array.getElem?_eq_some_iff.1 hB).1 hW.size
  go_wp2
  go_step3
  refine wp_seq (wp_label ?_)
  go_wp2_with (go_at_call 38; refine (eachP_any _ _).mono ?_; rintro e w' ⟨rfl, rfl⟩)
  obtain ⟨W2, hW2⟩ : ∃ W2, W2 = (W.alloc (.cells #[.func (.yield ll) #[] #[]] 77)).alloc (.cells #[.pointer (some ⟨S, 0, none⟩)] 22) := ⟨_, rfl⟩
  have hb2 : W2.heap[W.heap.size + 1]? = some (.cells #[.pointer (some ⟨S, 0, none⟩)] 22 (0, 0)) := by
    have := heap_alloc_new (W.alloc (.cells #[.func (.yield ll) #[] #[]] 77)) (.cells #[.pointer (some ⟨S, 0, none⟩)] 22)
    rw [World.size_alloc] at this
    rw [hW2]; exact this
  have hy2 : W2.heap[W.heap.size]? = some (.cells #[.func (.yield ll) #[] #[]] 77 (0, 0)) := by
    rw [hW2, Below.heap_alloc _ _ _ (by simp)]; exact heap_alloc_new W _
  have hz2 : W2.heap.size = W.heap.size + 2 := by rw [hW2]; simp
  have h02 : J [] W2 := by rw [hW2]; exact hJ.alloc _ (hJ.alloc _ h0)
  have hB2 : Below w.heap.size w W2 := by rw [hW2]; exact (hW.alloc hW.size _).alloc (by simp; have := hW.size; omega) _
  have hS2 : ShIs W2 S mb P l G D := h.kept' fun k hk => hB2.block k (h.lt k hk)
  have hWs := hW.size
  rw [← hW2]
  obtain ⟨M', hM'⟩ : ∃ M' : Nat → Prop, M' = fun k => M k ∨ (w.heap.size ≤ k ∧ k < W.heap.size) := ⟨_, rfl⟩
  obtain ⟨K, hK⟩ : ∃ K : Nat → Prop, K = fun k => shB S mb l G k ∨ k = W.heap.size := ⟨_, rfl⟩
  have hKlt : ∀ k, K k → k < W2.heap.size := by rw [hK]; rintro k (hk | hk); (have := h.lt k hk; omega); omega
  have hKM : ∀ k, K k → ¬ M' k := by
    rw [hK, hM']
    rintro k (hk | hk) (hm | hm)
    · exact hMF k hk hm
    · have := h.lt k hk; omega
    · have := hMl k hm; omega
    · omega
  have hY' : ∀ m pre x rest W1, els l (64 * P) = pre ++ x :: rest → J pre W1 → YieldAt Fence.wide m Try.prog ll (eEnc l x) W1 fun e W' =>
      ((e = .returned (.bool true) ∧ J (pre ++ [x]) W') ∨ (e = .returned (.bool false) ∧ Jx (pre ++ [x]) W')) ∧ KeptBut M' W1 W' := by rw [hM']; exact hY
  clear hY
  refine (wpIn_wide (n := n)).1 (wp_over (gf := 47) (lb := #[.pointer (some ⟨W.heap.size + 1, 0, none⟩)]) rfl (enters_of Try.func47 (by kernel_rfl) rfl)
    (eachP1_gives hS2 (W.heap.size + 1) hb2 M' (by rw [hM']; rintro (hm | hm); (have := hMl _ hm; omega); omega) (fun k hk => hKM k (by rw [hK]; exact .inl hk)))
    (by rw [hM']; rintro k (hm | hm); (have := hMl _ hm; omega); omega) (fun _ => rfl)
    (fun pre W1 => J (flat l pre) W1 ∧ Lies K W2 W1) (fun c pre W1 => c = .exit 0 ∧ ∃ q r, els l (64 * P) = q ++ r ∧ Jx q W1)
    (OwnFrom.and (fun pre A B row hs hg hr => hJ (flat l pre) A B row hs hg (fun r e => ⟨by have := (hr r e).1; omega, (hr r e).2⟩)) (lies_own hKlt (Nat.le_refl _)))
    (fun c pre A B row hs hg hr => by obtain ⟨e, q, r, h1, h2⟩ := hs; exact ⟨e, q, r, h1, hJx q A B row h2 hg (fun r e => ⟨by have := (hr r e).1; omega, (hr r e).2⟩)⟩)
    ⟨h02, fun _ _ => rfl⟩
    (fun p => { tmps := #[.func (.yield ll) #[] #[], .pointer (some ⟨B, 0, none⟩), .pointer (some ⟨W.heap.size, 0, none⟩), .int .i64 (p : Int), .pointer (some ⟨G p, 0, none⟩), undef, undef, .pointer (some ⟨S, 0, none⟩), eachV (W.heap.size + 1), .int .i64 (p : Int), .pointer (some ⟨G p, 0, none⟩), undef, undef, undef, undef, undef, undef, undef, undef, undef, undef, undef, undef, undef, undef, undef, undef, undef, undef, undef, undef], defers := [] }) ?assign ?body ?done ?stop)
  case assign =>
    intro l3 mm x W1 K hK
    gi_wp2
    exact hK
  case body =>
    rintro l3 mm pre p rest W1 hf ⟨hJ1, hL1⟩
    have hpm := mem_privs.1 (mem_mid hf)
    have HS2 := Lib.hid hS2
    have HY2 := Lib.hid hy2
    clear hS2 hb2 hy2 hW2 c1
    gi_wp2
    gi_loopw [12] (fun k wr => ∃ j : Nat, j ≤ 64 ∧ k = .int .i64 j ∧ Hid (J (flat l pre ++ pgEls l p j) wr) ∧ Hid (Lies K W2 wr) ∧ Hid (KeptBut M' W1 wr)) (fun k _ => 64 - (intOf k).toNat)
    case atStart => exact ⟨0, by omega, rfl, by simpa [Hid, pgEls] using hJ1, hL1, KeptBut.refl _ _⟩
    case round =>
      obtain ⟨j, hj, rfl, hJ0, hL0, hK0⟩ := hrel
      by_cases hlt : j < 64
      · have hSr : ShIs wr S mb P l G D := HS2.out.kept' fun k hk => hL0.out k (by rw [hK]; exact .inl hk)
        have hyr : wr.heap[W.heap.size]? = some (.cells #[.func (.yield ll) #[] #[]] 77 (0, 0)) := (hL0.out _ (by rw [hK]; exact .inr rfl)).trans HY2.out
        obtain ⟨cy, _⟩ := boxed_cell hyr
        have cp := (hSr.cellPage hpm.2 hlt).1
        have HSr := Lib.hid hSr
        have j0 : (0 : Int) ≤ j := by omega
        have j1 : (j : Int) < 64 := by omega
        clear hSr hyr
        gi_wp2
        refine wpIn_region_round (S := fun W => W.heap = wr.heap) hmo (by kernel_rfl) (fun _ _ h => h) ?_
        have hS0 : wr.drew.heap = wr.heap := rfl
        have hcp : ∀ W : World, W.heap = wr.heap → W.cell? ⟨G p, j, none⟩ = some (.int .u32 (at0 l (64 * p + j))) := fun W hW => by simpa only [World.cell?, hW] using cp
        refine wpAnyH_take (i := 0) (v := .int .i64 (j : Int)) rfl (by kernel_rfl) (by kernel_rfl) (by kernel_rfl) (fun _ _ _ h => h) (.inl ⟨by rfl, fun W hW => by go_simp⟩) hS0 ?_
        try simp only [Act.put, List.setIfInBounds_toArray, List.set_cons_zero, List.set_cons_succ]
        refine wpAnyH_take (i := 1) (v := .pointer (some ⟨G p, 0, none⟩)) rfl (by kernel_rfl) (by kernel_rfl) (by kernel_rfl) (fun _ _ _ h => h) (.inl ⟨by rfl, fun W hW => by go_simp⟩) hS0 ?_
        try simp only [Act.put, List.setIfInBounds_toArray, List.set_cons_zero, List.set_cons_succ]
        refine wpAnyH_take (i := 2) (v := .pointer (some ⟨G p, j, none⟩)) rfl (by kernel_rfl) (by kernel_rfl) (by kernel_rfl) (fun _ _ _ h => h) (.inl ⟨by rfl, fun W hW => by go_simp⟩) hS0 ?_
        try simp only [Act.put, List.setIfInBounds_toArray, List.set_cons_zero, List.set_cons_succ]
        refine wpAnyH_take (i := 3) (v := .int .u32 (at0 l (64 * p + j))) rfl (by kernel_rfl) (by kernel_rfl) (by kernel_rfl) (fun _ _ _ h => h) (.inl ⟨by rfl, fun W hW => by have := hcp W hW; go_simp⟩) hS0 ?_
        try simp only [Act.put, List.setIfInBounds_toArray, List.set_cons_zero, List.set_cons_succ]
        refine wpAnyH_take (i := 4) (v := .int .i64 (j : Int)) rfl (by kernel_rfl) (by kernel_rfl) (by kernel_rfl) (fun _ _ _ h => h) (.inl ⟨by rfl, fun W hW => by go_simp⟩) hS0 ?_
        try simp only [Act.put, List.setIfInBounds_toArray, List.set_cons_zero, List.set_cons_succ]
        refine wpAnyH_take (i := 5) (v := .int .u32 (at0 l (64 * p + j))) rfl (by kernel_rfl) (by kernel_rfl) (by kernel_rfl) (fun _ _ _ h => h) (.inl ⟨by rfl, fun W hW => by go_simp⟩) hS0 ?_
        try simp only [Act.put, List.setIfInBounds_toArray, List.set_cons_zero, List.set_cons_succ]
        refine wpAnyH_done (by kernel_rfl) ?_ _
        clear hcp cp hS0
        have hbt := hb.at_ (64 * p + j)
        cases hz : nz l (64 * p + j) with
        | true =>
          have hne : (at0 l (64 * p + j) == 0) = false := by simpa [nz] using hz
          obtain ⟨r, hr⟩ := flat_split hf hlt hz
          rw [flat_privs hlen] at hr
          have hYj := hY' 0 _ _ r wr.drew hr (hJ _ wr wr.drew none hJ0.out ⟨rfl, rfl, rfl, Nat.le_refl _, fun _ _ _ => rfl⟩ (fun r e => by cases e))
          have e1 : (((64 * p + j : Nat)) : Int) = (p : Int) * 64 + (j : Int) := by omega
          have HL := Lib.hid (pgEls_yes hz)
          have HR := Lib.hid hr
          have hp0 := hpm.1
          have hP32 := hb.hi
          obtain ⟨f0, t0, a0, b0, hy0, hR0⟩ := hYj
          rw [show eEnc l (64 * p + j) = #[.int .i64 ((p : Int) * 64 + (j : Int)), .int .u32 (at0 l (64 * p + j))] by rw [← e1]] at hy0
          have HRa := Lib.hid (fun m' : Nat => (show RoundIn Fence.wide m' Try.prog ll f0 t0 a0 b0 wr.drew _ from ⟨hR0.1, fun c cs _ => hR0.2 c cs (room_wide _)⟩))
          have hn3 : ¬ at0 l (64 * p + j) = 0 := by simpa [nz] using hz
          have hn2 : (at0 l (64 * p + j) != 0) = true := by simpa [nz] using hz
          clear hR0 hz hr
          generalize at0 l (64 * p + j) = x0 at hne hn2 hn3 hy0 ⊢
          gi_wp2
          refine ⟨fun hd => (by cases hd), (HRa.out _).mono ?_⟩
          rintro e W0 ⟨(⟨rfl, hj0⟩ | ⟨rfl, hx0⟩), hk0⟩
          · have hk1 : KeptBut M' wr W0 := hk0
            gi_wp2
            refine ⟨⟨j + 1, by omega, by go_num, by rw [HL.out, ← List.append_assoc]; exact hj0, fun k hk => (hk1.2 k (hL0.out.lt hk (hKlt k hk)) (hKM k hk)).trans (hL0.out k hk), hK0.out.trans hk1⟩, ?_⟩
            simp [intOf]; omega
          · have hk1 : KeptBut M' wr W0 := hk0
            gi_wp2
            exact ⟨hK0.out.trans hk1, rfl, _, r, by rw [HR.out]; simp, hx0⟩
        | false =>
          have he : (at0 l (64 * p + j) == 0) = true := by simpa [nz] using hz
          have he2 : (at0 l (64 * p + j) != 0) = false := by simpa [nz] using hz
          have he3 : at0 l (64 * p + j) = 0 := by simpa [nz] using hz
          have HL := Lib.hid (pgEls_no hz)
          rw [he3]
          have hJd : Hid (J (flat l pre ++ pgEls l p j) wr.drew) := hJ _ wr wr.drew none hJ0.out ⟨rfl, rfl, rfl, Nat.le_refl _, fun _ _ _ => rfl⟩ (fun r e => by cases e)
          have hLd : Hid (Lies K W2 wr.drew) := hL0.out
          have hKd : Hid (KeptBut M' W1 wr.drew) := hK0.out
          clear he he2 he3 hz
          gi_wp2
          all_goals refine ⟨fun _ h => (by cases h), ?_⟩
          all_goals gi_wp2
          all_goals refine ⟨⟨j + 1, by omega, by go_num, by rw [HL.out]; exact hJd.out, hLd.out, hKd.out⟩, ?_⟩
          all_goals simp [intOf]
          all_goals omega
      · gi_wp2
        obtain rfl : j = 64 := by omega
        exact ⟨hK0.out, by rw [flat_snoc]; exact hJ0.out, hL0.out⟩
  case done =>
    rintro D0 W1 hD0 ⟨hI, hL⟩ hK
    go_wp2
    refine ⟨by simp, .inl ⟨_, _, rfl, run_takeDeferred hK, ?_⟩⟩
    refine ⟨_, results_none rfl _ _ _, ⟨_, rfl⟩, .inl ?_⟩
    rw [← flat_privs hlen]
    exact hJ.putObj _ hI (by omega) hK rfl
  case stop =>
    rintro D0 c pre rest W1 hD0 hf ⟨rfl, q, r, hq, hx⟩ hK
    refine wpIn_wide.2 ?_
    go_wp2
    refine ⟨by simp, .inl ⟨_, _, rfl, run_takeDeferred hK, ?_⟩⟩
    refine ⟨_, results_none rfl _ _ _, ⟨_, rfl⟩, .inr ⟨q, r, hq, hJx.putObj _ hx (by omega) hK rfl⟩⟩
end Go.Proofs.Ytepmndadbikijaa

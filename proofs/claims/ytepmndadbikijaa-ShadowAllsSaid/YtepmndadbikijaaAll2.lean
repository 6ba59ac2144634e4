/-
  Layer 3: as XAll, for rounds whose turned blocks grow: walk.
-/
import Derived.Test.YtepmndadbikijaaAll
import Derived.Test.YtepmndadbikijaaIter2
namespace Go.Proofs.Ytepmndadbikijaa
open Go.RowKit Go.Shelf
set_option maxHeartbeats 1000000
set_option linter.unusedSimpArgs false
attribute [local go_sem] Oper.semAt_some

theorem kept_grow {M N : Nat → Prop} {R : Nat → Prop} {A B C : World} (h : KeptBut (fun k => M k ∨ R k) A B) (k : KeptBut (fun k => N k ∨ R k) B C) (hs : ∀ k, N k → M k ∨ A.heap.size ≤ k) : KeptBut (fun k => M k ∨ R k) A C :=
  ⟨Nat.le_trans h.1 k.1, fun j hj hn => (k.2 j (Nat.lt_of_lt_of_le hj h.1) (fun hm => hm.elim (fun hm => (hs j hm).elim (fun hm => hn (.inl hm)) (fun hge => by omega)) (fun hm => hn (.inr hm)))).trans (h.2 j hj hn)⟩
set_option maxRecDepth 100000 in
theorem All1_gives2 {w : World} {S P : Nat} {l : List Int} {F : Nat → Prop} (h : Sh w S P l F) (B : Nat) (hB : w.heap[B]? = some (.cells #[.pointer (some ⟨S, 0, none⟩)] 22 (0, 0))) :
    Gives2 Try.prog 37 #[.pointer (some ⟨B, 0, none⟩)] (eEnc l) F (els l (64 * P)) w := fun n ll J Jx N0 W hW hJ hJx hNl hY hN0 h0 => by
  have hmo : Try.prog.follows .mixedOrders = true := by kernel_rfl
  obtain ⟨mb, G, D, rfl, h⟩ := h
  have hb := h.bytes
  have hlen := hb.len
  refine callsIn_of_wp_marks Try.func37 rfl trivial ?_ rfl
  refine wpIn_wide.2 ?_
  simp only [Try.ntmps37, List.size_toArray, List.length_cons, List.length_nil, Nat.reduceAdd, Nat.reduceSub, Array.replicate_succ, Array.replicate_zero, List.push_toArray, List.append_toArray, List.nil_append, List.cons_append]
  obtain ⟨c1, _⟩ := boxed_cell ((hW.block B (Array.getElem?_eq_some_iff.1 hB).1).trans hB)
  have hBl : B < W.heap.size := Nat.lt_of_lt_of_le (Array.getElem?_eq_some_iff.1 hB).1 hW.size
  go_wp2
  go_step3
  refine wp_seq (wp_label ?_)
  go_wp2_with (go_at_call 38; refine (eachP_any _ _).mono ?_; rintro e w' ⟨rfl, rfl⟩)
  obtain ⟨W2, hW2⟩ : ∃ W2, W2 = (W.alloc (.cells #[.func (.yield ll) #[] #[]] 77)).alloc (.cells #[.pointer (some ⟨S, 0, none⟩)] 22) := ⟨_, rfl⟩
  have hb2 : W2.heap[W.heap.size + 1]? = some (.cells #[.pointer (some ⟨S, 0, none⟩)] 22 (0, 0)) := by
    have := heap_alloc_new (W.alloc (.cells #[.func (.yield ll) #[] #[]] 77)) (.cells #[.pointer (some ⟨S, 0, none⟩)] 22)
    rw [World.size_alloc] at this
    rw [hW2]; exact this
  have hy2 : W2.heap[W.heap.size]? = some (.cells #[.func (.yield ll) #[] #[]] 77 (0, 0)) := by
    rw [hW2, Below.heap_alloc _ _ _ (by simp)]; exact heap_alloc_new W _
  have hz2 : W2.heap.size = W.heap.size + 2 := by rw [hW2]; simp
  have h02 : J [] N0 W2 := by rw [hW2]; exact (hJ N0).alloc _ ((hJ N0).alloc _ h0)
  have hB2 : Below w.heap.size w W2 := by rw [hW2]; exact (hW.alloc hW.size _).alloc (by simp; have := hW.size; omega) _
  have hS2 : ShIs W2 S mb P l G D := h.kept' fun k hk => hB2.block k (h.lt k hk)
  have hWs := hW.size
  rw [← hW2]
  obtain ⟨K, hK⟩ : ∃ K : Nat → Prop, K = fun k => shB S mb l G k ∨ k = W.heap.size := ⟨_, rfl⟩
  have hKlt : ∀ k, K k → k < W2.heap.size := by rw [hK]; rintro k (hk | hk); (have := h.lt k hk; omega); omega
  have hKr : ∀ k, K k → ¬ (w.heap.size ≤ k ∧ k < W.heap.size) := by
    rw [hK]
    rintro k (hk | hk) hm
    · have := h.lt k hk; omega
    · omega
  have hKN0 : ∀ k, K k → ¬ N0 k := by
    rw [hK]
    rintro k (hk | hk) hm
    · exact (hN0 k hm).2 hk
    · have := (hN0 k hm).1; omega
  have hLW : ∀ A, Lies K W2 A → W.heap.size < A.heap.size := fun A hA => hA.lt (by rw [hK]; exact .inr rfl) (by omega)
  refine (wpIn_wide (n := n)).1 (wp_over2 (gf := 47) (lb := #[.pointer (some ⟨W.heap.size + 1, 0, none⟩)]) rfl (enters_of Try.func47 (by kernel_rfl) rfl)
    (eachP1_gives2 hS2 (W.heap.size + 1) hb2) (fun _ => rfl)
    (fun pre N W1 => ∃ Nj, (N = fun k => Nj k ∨ (w.heap.size ≤ k ∧ k < W.heap.size)) ∧ J (flat l pre) Nj W1 ∧ Lies K W2 W1 ∧ ∀ k, K k → ¬ Nj k)
    (fun c pre N W1 => c = .exit 0 ∧ ∃ q r Nx, els l (64 * P) = q ++ r ∧ Jx q Nx W1)
    (fun N pre A B row hs hg hr => by
      obtain ⟨Nj, e, h1, h2, h3⟩ := hs
      exact ⟨Nj, e, hJ Nj (flat l pre) A B row h1 hg (fun r e => ⟨by have := (hr r e).1; omega, (hr r e).2⟩), OwnL.of (lies_own (β := Unit) hKlt (Nat.le_refl _)) () A B row h2 hg hr, h3⟩)
    (fun c N pre A B row hs hg hr => by obtain ⟨e, q, r, Nx, h1, h2⟩ := hs; exact ⟨e, q, r, Nx, h1, hJx Nx q A B row h2 hg (fun r e => ⟨by have := (hr r e).1; omega, (hr r e).2⟩)⟩)
    (fun pre N A hs k hk => by
      obtain ⟨Nj, rfl, h1, h2, h3⟩ := hs
      rcases hk with hk | hk
      · exact hNl _ _ _ h1 k hk
      · have := hLW A h2; omega)
    (fun k => N0 k ∨ (w.heap.size ≤ k ∧ k < W.heap.size))
    (fun k hk => by
      rcases hk with hk | hk
      · have h1 := (hN0 k hk).1
        exact ⟨by omega, fun hh => by rcases hh with hh | hh; (exact (hN0 k hk).2 hh); omega⟩
      · exact ⟨by omega, fun hh => by rcases hh with hh | hh; (have := h.lt k hh; omega); omega⟩)
    ⟨N0, rfl, h02, fun _ _ => rfl, hKN0⟩
    (fun t p => (((t.setIfInBounds 9 (.int .i64 (p : Int))).setIfInBounds 10 (.pointer (some ⟨G p, 0, none⟩))).setIfInBounds 3 (.int .i64 (p : Int))).setIfInBounds 4 (.pointer (some ⟨G p, 0, none⟩)))
    ?assign ?body ?done ?stop)
  case assign =>
    intro l3 mm x W1 K hK
    gi_wp2
    simp only [List.setIfInBounds_toArray, List.set_cons_zero, List.set_cons_succ] at hK
    exact hK
  case body =>
    rintro l3 mm pre p rest N W1 hf ⟨Nj, rfl, hJ1, hL1, hKj⟩
    simp only [List.setIfInBounds_toArray, List.set_cons_zero, List.set_cons_succ]
    have hpm := mem_privs.1 (mem_mid hf)
    have HS2 := Lib.hid hS2
    have HY2 := Lib.hid hy2
    clear hS2 hb2 hy2 hW2 c1
    gi_wp2
    gi_loopw [12] (fun k wr => ∃ j : Nat, j ≤ 64 ∧ k = .int .i64 j ∧ ∃ Ni, Hid (J (flat l pre ++ pgEls l p j) Ni wr) ∧ Hid (Lies K W2 wr) ∧ Hid (KeptBut (fun k => Nj k ∨ (w.heap.size ≤ k ∧ k < W.heap.size)) W1 wr) ∧ Hid ((∀ k, K k → ¬ Ni k) ∧ ∀ k, Ni k → Nj k ∨ W1.heap.size ≤ k)) (fun k _ => 64 - (intOf k).toNat)
    case atStart => exact ⟨0, by omega, rfl, Nj, by simpa [Hid, pgEls] using hJ1, hL1, KeptBut.refl _ _, hKj, fun k hk => .inl hk⟩
    case round =>
      obtain ⟨j, hj, rfl, Ni, hJ0, hL0, hK0, hN0'⟩ := hrel
      by_cases hlt : j < 64
      · have hSr : ShIs wr S mb P l G D := HS2.out.kept' fun k hk => hL0.out k (by rw [hK]; exact .inl hk)
        have hyr : wr.heap[W.heap.size]? = some (.cells #[.func (.yield ll) #[] #[]] 77 (0, 0)) := (hL0.out _ (by rw [hK]; exact .inr rfl)).trans HY2.out
        obtain ⟨cy, _⟩ := boxed_cell hyr
        have cp := (hSr.cellPage hpm.2 hlt).1
        have HSr := Lib.hid hSr
        have j0 : (0 : Int) ≤ j := by omega
        have j1 : (j : Int) < 64 := by omega
        clear hSr hyr
        gi_wp2
        refine wpIn_region_round (S := fun W => W.heap = wr.heap) hmo (by kernel_rfl) (fun _ _ h => h) ?_
        have hS0 : wr.drew.heap = wr.heap := rfl
        have hcp : ∀ W : World, W.heap = wr.heap → W.cell? ⟨G p, j, none⟩ = some (.int .u32 (at0 l (64 * p + j))) := fun W hW => by simpa only [World.cell?, hW] using cp
        refine wpAnyH_take (i := 0) (v := .int .i64 (j : Int)) rfl (by kernel_rfl) (by kernel_rfl) (by kernel_rfl) (fun _ _ _ h => h) (.inl ⟨by rfl, fun W hW => by go_simp⟩) hS0 ?_
        try simp only [Act.put, List.setIfInBounds_toArray, List.set_cons_zero, List.set_cons_succ]
        refine wpAnyH_take (i := 1) (v := .pointer (some ⟨G p, 0, none⟩)) rfl (by kernel_rfl) (by kernel_rfl) (by kernel_rfl) (fun _ _ _ h => h) (.inl ⟨by rfl, fun W hW => by go_simp⟩) hS0 ?_
        try simp only [Act.put, List.setIfInBounds_toArray, List.set_cons_zero, List.set_cons_succ]
        refine wpAnyH_take (i := 2) (v := .pointer (some ⟨G p, j, none⟩)) rfl (by kernel_rfl) (by kernel_rfl) (by kernel_rfl) (fun _ _ _ h => h) (.inl ⟨by rfl, fun W hW => by go_simp⟩) hS0 ?_
        try simp only [Act.put, List.setIfInBounds_toArray, List.set_cons_zero, List.set_cons_succ]
        refine wpAnyH_take (i := 3) (v := .int .u32 (at0 l (64 * p + j))) rfl (by kernel_rfl) (by kernel_rfl) (by kernel_rfl) (fun _ _ _ h => h) (.inl ⟨by rfl, fun W hW => by have := hcp W hW; go_simp⟩) hS0 ?_
        try simp only [Act.put, List.setIfInBounds_toArray, List.set_cons_zero, List.set_cons_succ]
        refine wpAnyH_take (i := 4) (v := .int .i64 (j : Int)) rfl (by kernel_rfl) (by kernel_rfl) (by kernel_rfl) (fun _ _ _ h => h) (.inl ⟨by rfl, fun W hW => by go_simp⟩) hS0 ?_
        try simp only [Act.put, List.setIfInBounds_toArray, List.set_cons_zero, List.set_cons_succ]
        refine wpAnyH_take (i := 5) (v := .int .u32 (at0 l (64 * p + j))) rfl (by kernel_rfl) (by kernel_rfl) (by kernel_rfl) (fun _ _ _ h => h) (.inl ⟨by rfl, fun W hW => by go_simp⟩) hS0 ?_
        try simp only [Act.put, List.setIfInBounds_toArray, List.set_cons_zero, List.set_cons_succ]
        refine wpAnyH_done (by kernel_rfl) ?_ _
        clear hcp cp hS0
        have hbt := hb.at_ (64 * p + j)
        cases hz : nz l (64 * p + j) with
        | true =>
          have hne : (at0 l (64 * p + j) == 0) = false := by simpa [nz] using hz
          obtain ⟨r, hr⟩ := flat_split hf hlt hz
          rw [flat_privs hlen] at hr
          have hYj := hY 0 _ _ r Ni wr.drew hr (hJ Ni _ wr wr.drew none hJ0.out ⟨rfl, rfl, rfl, Nat.le_refl _, fun _ _ _ => rfl⟩ (fun r e => by cases e))
          have e1 : (((64 * p + j : Nat)) : Int) = (p : Int) * 64 + (j : Int) := by omega
          have HL := Lib.hid (pgEls_yes hz)
          have HR := Lib.hid hr
          have hp0 := hpm.1
          have hP32 := hb.hi
          obtain ⟨f0, t0, a0, b0, hy0, hR0⟩ := hYj
          rw [show eEnc l (64 * p + j) = #[.int .i64 ((p : Int) * 64 + (j : Int)), .int .u32 (at0 l (64 * p + j))] by rw [← e1]] at hy0
          have HRa := Lib.hid (fun m' : Nat => (show RoundIn Fence.wide m' Try.prog ll f0 t0 a0 b0 wr.drew _ from ⟨hR0.1, fun c cs _ => hR0.2 c cs (room_wide _)⟩))
          have hn3 : ¬ at0 l (64 * p + j) = 0 := by simpa [nz] using hz
          have hn2 : (at0 l (64 * p + j) != 0) = true := by simpa [nz] using hz
          clear hR0 hz hr
          generalize at0 l (64 * p + j) = x0 at hne hn2 hn3 hy0 ⊢
          gi_wp2
          refine ⟨fun hd => (by cases hd), (HRa.out _).mono ?_⟩
          rintro e W0 ⟨N', (⟨rfl, hj0⟩ | ⟨rfl, hx0⟩), hk0, hn0⟩
          · have hk1 : KeptBut (fun k => Ni k ∨ (w.heap.size ≤ k ∧ k < W.heap.size)) wr W0 := hk0
            gi_wp2
            refine ⟨⟨j + 1, by omega, by go_num, N', by rw [HL.out, ← List.append_assoc]; exact hj0, fun k hk => (hk1.2 k (hL0.out.lt hk (hKlt k hk)) (by rintro (hm | hm); exact hN0'.out.1 k hk hm; exact hKr k hk hm)).trans (hL0.out k hk), kept_grow hK0.out hk1 hN0'.out.2,
              fun k hk hn => (hn0 k hn).elim (hN0'.out.1 k hk) (fun hge => absurd (hL0.out.lt hk (hKlt k hk)) (Nat.not_lt.2 hge)), fun k hn => (hn0 k hn).elim (hN0'.out.2 k) (fun hge => .inr (Nat.le_trans hK0.out.1 hge))⟩, ?_⟩
            simp [intOf]; omega
          · have hk1 : KeptBut (fun k => Ni k ∨ (w.heap.size ≤ k ∧ k < W.heap.size)) wr W0 := hk0
            gi_wp2
            exact ⟨kept_grow hK0.out hk1 hN0'.out.2, fun _ => False, ⟨rfl, _, r, N', by rw [HR.out]; simp, hx0⟩, fun k hk => hk.elim⟩
        | false =>
          have he : (at0 l (64 * p + j) == 0) = true := by simpa [nz] using hz
          have he2 : (at0 l (64 * p + j) != 0) = false := by simpa [nz] using hz
          have he3 : at0 l (64 * p + j) = 0 := by simpa [nz] using hz
          have HL := Lib.hid (pgEls_no hz)
          rw [he3]
          have hJd : Hid (J (flat l pre ++ pgEls l p j) Ni wr.drew) := hJ Ni _ wr wr.drew none hJ0.out ⟨rfl, rfl, rfl, Nat.le_refl _, fun _ _ _ => rfl⟩ (fun r e => by cases e)
          have hLd : Hid (Lies K W2 wr.drew) := hL0.out
          have hKd : Hid (KeptBut (fun k => Nj k ∨ (w.heap.size ≤ k ∧ k < W.heap.size)) W1 wr.drew) := hK0.out
          clear he he2 he3 hz
          gi_wp2
          all_goals refine ⟨fun _ h => (by cases h), ?_⟩
          all_goals gi_wp2
          all_goals refine ⟨⟨j + 1, by omega, by go_num, Ni, by rw [HL.out]; exact hJd.out, hLd.out, hKd.out, hN0'.out⟩, ?_⟩
          all_goals simp [intOf]
          all_goals omega
      · gi_wp2
        obtain rfl : j = 64 := by omega
        exact ⟨hK0.out, _, ⟨Ni, rfl, by rw [flat_snoc]; exact hJ0.out, hL0.out, hN0'.out.1⟩, fun k hk => hk.elim (fun hi => (hN0'.out.2 k hi).elim (fun h => .inl (.inl h)) .inr) (fun hr => .inl (.inr hr))⟩
  case done =>
    rintro D0 N W1 hD0 ⟨Nj, _, hI, hL, _⟩ hK
    go_wp2
    refine ⟨by simp, .inl ⟨_, _, rfl, run_takeDeferred hK, ?_⟩⟩
    refine ⟨_, results_none rfl _ _ _, ⟨_, rfl⟩, .inl ⟨Nj, ?_⟩⟩
    rw [← flat_privs hlen]
    exact (hJ Nj).putObj _ hI (by omega) hK rfl
  case stop =>
    rintro D0 c pre rest N W1 hD0 hf ⟨rfl, q, r, Nx, hq, hx⟩ hK
    refine wpIn_wide.2 ?_
    go_wp2
    refine ⟨by simp, .inl ⟨_, _, rfl, run_takeDeferred hK, ?_⟩⟩
    refine ⟨_, results_none rfl _ _ _, ⟨_, rfl⟩, .inr ⟨q, r, Nx, hq, (hJx Nx).putObj _ hx (by omega) hK rfl⟩⟩
end Go.Proofs.Ytepmndadbikijaa

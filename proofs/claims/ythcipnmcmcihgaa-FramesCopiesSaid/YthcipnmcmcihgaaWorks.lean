/-
  Layer 5: paged and works of the statements: walks.
-/
import Derived.Test.YthcipnmcmcihgaaRef
namespace Go.Proofs.Ythcipnmcmcihgaa
open Go.RowKit
set_option maxHeartbeats 1000000
set_option linter.unusedVariables false

/-! ### bytes again and again -/
def pgU (b : List Int) (N i : Nat) : List Int := (List.range N).map fun j => if j < i then at0 b (j % b.length) else 0
theorem pgU_length (b : List Int) (N i : Nat) : (pgU b N i).length = N := by simp [pgU]
theorem pgU_zero (b : List Int) (N : Nat) : pgU b N 0 = List.replicate N 0 := by simp [pgU, List.map_const']
theorem at0_pgU (b : List Int) (N i j : Nat) (h : j < N) : at0 (pgU b N i) j = if j < i then at0 b (j % b.length) else 0 := by simp [at0, pgU, h]
theorem pgU_step (b : List Int) (N i : Nat) (h : i < N) : (pgU b N i).set i (at0 b (i % b.length)) = pgU b N (i + 1) := by
  apply list_ext0 (by simp [pgU])
  intro j hj
  rw [List.length_set, pgU_length] at hj
  rw [at0_set _ _ _ _ (by rw [pgU_length]; exact h), at0_pgU _ _ _ _ hj, at0_pgU _ _ _ _ hj]
  by_cases e : j = i
  · subst e; simp
  · by_cases hl : j < i
    · simp [e, hl]; omega
    · simp [e, hl]; omega
theorem pgU_full (b : List Int) (p : Int) : pgU b (64 * pgN p) (64 * pgN p) = pgd b p := by
  apply list_ext0 (by simp [pgU, pgd])
  intro j hj
  rw [pgU_length] at hj
  rw [at0_pgU _ _ _ _ hj, at0_pgd _ _ hj, if_pos hj]
theorem pgd_none (p : Int) : List.replicate (64 * pgN p) 0 = pgd [] p := by
  apply list_ext0 (by simp [pgd])
  intro j hj
  simp only [List.length_replicate] at hj
  rw [at0_pgd _ _ hj]
  simp [at0, hj]
theorem max_min (p : Int) : max 1 (min 32 p) = (pgN p : Int) := by unfold pgN; omega
set_option maxRecDepth 100000 in
theorem paged_any (v : Value) (b : List Int) (p : Int) (w : World) (h : NumsIn .u8 w v b) (hm : b.length ≤ 65536) :
    Calls Try.prog 17 #[v, .int .i64 p] w fun e w' => ∃ u, e = .returned u ∧ Fresh w (pgd b p) u w' := by
  obtain ⟨i0, hi, hz0, hz1, hz2⟩ := info_parts A.infoB
  have hlo := pgN_lo p
  have hhi := pgN_hi p
  have hmm := max_min p
  have HF := Lib.hid (pgU_full b p)
  have HNo := Lib.hid (pgd_none p)
  have HP := Lib.hid (pgd_length b p)
  obtain ⟨N, hN⟩ : ∃ N, N = 64 * pgN p := ⟨_, rfl⟩
  rw [← hN] at HF HNo HP
  have hN0 : 64 ≤ N := by omega
  have hN1 : N ≤ 2048 := by omega
  have hV : 64 * max 1 (min 32 p) = (N : Int) := by omega
  clear hmm hlo hhi hN
  obtain ⟨o, c, rfl, hcb, _, hcell⟩ := h.form
  have HC := Lib.hid hcell
  have HB := Lib.hid h.byt
  have hmk : ∀ (V : Int) (W : World), V = N → (Instr.makeSlice 22 (.int .i64 V) (.int .i64 V)).run Try.prog W = .ok (.slice (some ⟨W.heap.size, 0, none⟩) N N) (W.alloc (.cells (bv (List.replicate N 0)).toArray 5)) := fun V W e => by
    subst e
    have hr := run_make (P := Try.prog) W 22 5 i0 (.int .u8 0) Try.underlying22 hi hz0 .i64 .i64 (N : Int) (N : Int) (by omega) (by omega) (by rw [hz2]; omega) (by omega)
    rw [hr, hz1]
    rw [Int.toNat_natCast, Nat.mul_one, made_zeros, List.append_nil]
  have HK := Lib.hid hmk
  clear h hcell hmk hi hz0 hz1 hz2
  have R0 := Lib.hid (rowAt_new w (List.replicate N 0) [])
  simp only [List.append_nil] at R0
  have B0 := Lib.hid ((Below.refl w.heap.size w).alloc (Nat.le_refl _) (.cells (bv (List.replicate N 0)).toArray 5))
  have h3 : (32 ≤ p ∧ (2048 : Int) = N) ∨ ((¬ 32 ≤ p ∧ p ≤ 1) ∧ (64 : Int) = N) ∨ ((¬ 32 ≤ p ∧ ¬ p ≤ 1) ∧ 64 * p = N) := by omega
  by_cases hb0 : b.length = 0
  · have hb : b = [] := List.eq_nil_of_length_eq_zero hb0
    subst hb
    rcases h3 with ⟨h32, hv⟩ | ⟨⟨h32, h1⟩, hv⟩ | ⟨⟨h32, h1⟩, hv⟩
    all_goals
      have hmk := fun W => HK.out _ W hv
      clear hV hv HK
      go_enter Try.func17, Try.ntmps17
      go_wp2
      refine wp_loop_rounds 1 ?_
      rw [rounds_succ]
      go_wp2
      go_ret
      refine ⟨_, rfl, w.heap.size, N, by rw [HP.out]; rfl, by rw [← HNo.out]; exact R0.out, by rw [HP.out]; exact Nat.le_refl _, Nat.le_refl _, B0.out⟩
  · rcases h3 with ⟨h32, hv⟩ | ⟨⟨h32, h1⟩, hv⟩ | ⟨⟨h32, h1⟩, hv⟩
    all_goals
      have hmk := fun W => HK.out _ W hv
      clear hV hv HK
      go_enter Try.func17, Try.ntmps17
      go_wp2
      go_loopw [6] (fun i wr => ∃ j : Nat, j ≤ N ∧ i = .int .i64 (j : Int) ∧ Hid (RowAt wr w.heap.size (pgU b N j)) ∧ Hid (Below w.heap.size w wr)) (fun i _ => N - (intOf i).toNat)
      case atStart => exact ⟨0, by omega, rfl, by unfold Hid; rw [pgU_zero]; exact R0.out, B0.out⟩
      case round =>
        obtain ⟨j, hj, rfl, hrow, hb⟩ := hrel
        by_cases hlt : j < N
        · have hml : j % b.length < b.length := Nat.mod_lt _ (by omega)
          obtain ⟨a, ha, hx⟩ := HC.out (j % b.length) hml
          subst ha
          have hx1 : wr.cell? (a.add (j % b.length)) = some (.int .u8 (at0 b (j % b.length))) := by
            have hbl := World.block_lt_of_cell? _ _ hx
            unfold World.cell? at hx ⊢
            rw [hb.out.block _ hbl]; exact hx
          have ht : (j : Int).tmod (b.length : Int) = ((j % b.length : Nat) : Int) := by rw [Int.tmod_eq_emod_of_nonneg (by omega)]; simp
          obtain ⟨c0, f0⟩ := hrow.out.cell (i := j) (by rw [pgU_length]; exact hlt)
          have HS := Lib.hid (pgU_step b N j hlt)
          clear hx
          generalize hq : j % b.length = q at hml hx1 ht HS
          have HQ := Lib.hid hq
          clear hq
          go_wp2
          go_roundw
          case rel =>
            obtain ⟨s1, _, s3⟩ := row_step hrow.out (i := j) (by rw [pgU_length]; exact hlt) (at0 b q) rfl
            rw [HS.out] at s1
            exact ⟨j + 1, by omega, by go_num, s1, hb.out.trans (s3.below hb.out.size (fun z hz => by subst hz; exact Nat.le_refl _))⟩
          case measure => simp [intOf]; omega
        · obtain rfl : j = N := by omega
          go_wp2
          go_ret
          have h1 := hrow.out
          rw [HF.out] at h1
          exact ⟨_, rfl, w.heap.size, j, by rw [HP.out]; rfl, h1, by rw [HP.out]; exact Nat.le_refl _, Nat.le_refl _, hb.out⟩

/-! ### works -/
/-- Frames somewhere above what was there, in a world that has kept what lay below. -/
def At (w : World) (S : Nat) (l : List Int) (W : World) : Prop := ∃ F, Fr W S l F ∧ (∀ k, F k → w.heap.size ≤ k) ∧ Below w.heap.size w W
section
variable {w W W' : World} {S : Nat} {l : List Int}
theorem At.kept (h : At w S l W) : Below w.heap.size w W := by obtain ⟨_, _, _, h⟩ := h; exact h
theorem At.len (h : At w S l W) : 64 ≤ l.length ∧ l.length ≤ 2048 ∧ l.length % 64 = 0 := by obtain ⟨_, h, _⟩ := h; exact h.len
theorem At.byt (h : At w S l W) : Byt l := by obtain ⟨_, h, _⟩ := h; exact h.bytes
theorem At.below (h : At w S l W) (hb : Below W.heap.size W W') : At w S l W' := by
  obtain ⟨F, h1, h2, h3⟩ := h
  exact ⟨F, h1.below hb, h2, h3.trans (hb.mono h3.size)⟩
theorem At.write (h : At w S l W) (a wd x : Int) (ha : W32 a) (hwd : (Lit.int .i64 wd).wf = true) (hx : W32 x) :
    Calls Try.prog 21 #[.pointer (some ⟨S, 0, none⟩), .int .u32 a, .int .i64 wd, .int .u32 x] W fun e W' => e = .returned (.int .i64 (refE l.length a wd)) ∧ At w S (wrE l a wd x) W' := by
  obtain ⟨F, h1, h2, h3⟩ := h
  exact (Write_any h1 a wd x ha hwd hx).mono fun e W' ⟨he, hp, ht⟩ => ⟨he, F, hp, h2, h3.trans (ht.below h3.size h2)⟩
theorem At.read (h : At w S l W) (a wd : Int) (ha : W32 a) (hwd : (Lit.int .i64 wd).wf = true) :
    Calls Try.prog 18 #[.pointer (some ⟨S, 0, none⟩), .int .u32 a, .int .i64 wd] W fun e W' => e = .returned (.tuple #[.int .u32 (rdE l a wd), .int .i64 (refE l.length a wd)]) ∧ At w S l W' := by
  have h0 := h
  obtain ⟨F, h1, h2, h3⟩ := h
  exact (Read_any h1 a wd ha hwd).mono fun e W' ⟨he, hb⟩ => ⟨he, h0.below hb⟩
theorem At.size (h : At w S l W) : Calls Try.prog 16 #[.pointer (some ⟨S, 0, none⟩)] W fun e W' => e = .returned (.int .i64 (l.length : Int)) ∧ W = W' := by
  obtain ⟨F, h1, _⟩ := h
  exact Size_any h1
theorem At.bytes (h : At w S l W) : Calls Try.prog 15 #[.pointer (some ⟨S, 0, none⟩)] W fun e W' => ∃ v, e = .returned v ∧ NumsIn .u8 W' v l ∧ Below W.heap.size W W' := by
  obtain ⟨F, h1, _⟩ := h
  exact (Bytes_any h1).mono fun e W' ⟨g, c, he, _, _, _, hn, hb⟩ => ⟨_, he, hn, hb⟩
theorem At.new (P : Nat) (h0 : 1 ≤ P) (h1 : P ≤ 32) (hb : Below w.heap.size w W) : Calls Try.prog 11 #[.int .i64 (P : Int)] W fun e W' =>
    ∃ S, e = .returned (.tuple #[.pointer (some ⟨S, 0, none⟩), .int .i64 0]) ∧ At w S (List.replicate (64 * P) 0) W' ∧ Below W.heap.size W W' := by
  refine (New_any P h0 h1 W).mono fun e W' ⟨S, F, he, hs, hf, hb'⟩ => ⟨_, he, ⟨F, hs, fun k hk => ?_, hb.trans (hb'.mono hb.size)⟩, hb'⟩
  have := hf k hk
  have := hb.size
  omega
theorem At.of (v : Value) (hn : NumsIn .u8 W v l) (h0 : 64 ≤ l.length) (h1 : l.length ≤ 2048) (h2 : l.length % 64 = 0) (hb : Below w.heap.size w W) : Calls Try.prog 12 #[v] W fun e W' =>
    ∃ S, e = .returned (.tuple #[.pointer (some ⟨S, 0, none⟩), .int .i64 0]) ∧ At w S l W' ∧ Below W.heap.size W W' := by
  refine (Of_any v l W hn h0 h1 h2).mono fun e W' ⟨S, F, he, hs, hf, hb'⟩ => ⟨_, he, ⟨F, hs, fun k hk => ?_, hb.trans (hb'.mono hb.size)⟩, hb'⟩
  have := hf k hk
  have := hb.size
  omega
end
def k0 : List Int := List.replicate (64 * 1) 0
def k1 : List Int := wrE k0 4 4 258
theorem k_facts : refE k0.length 4 4 = 0 ∧ rdE k1 4 1 = 2 ∧ refE k1.length 4 1 = 0 ∧ rdE k1 5 1 = 1 ∧ refE k1.length 5 1 = 0 ∧ rdE k1 2 4 = 0 ∧ refE k1.length 2 4 = 150 ∧ (k1.length : Int) = 64 := by decide +kernel
theorem works_any (w : World) : Calls Try.prog 10 #[] w fun e w' => e = .returned (.bool true) ∧ Below w.heap.size w w' := by
  obtain ⟨f1, f2, f3, f4, f5, f6, f7, f8⟩ := k_facts
  have H0 : Hid (Calls Try.prog 11 #[.int .i64 1] w fun e W' => ∃ S, e = .returned (.tuple #[.pointer (some ⟨S, 0, none⟩), .int .i64 0]) ∧ At w S k0 W' ∧ Below w.heap.size w W') := At.new 1 (by omega) (by omega) (Below.refl _ _)
  have H1 : Hid (∀ W S, At w S k0 W → Calls Try.prog 21 #[.pointer (some ⟨S, 0, none⟩), .int .u32 4, .int .i64 4, .int .u32 258] W fun e W' => e = .returned (.int .i64 0) ∧ At w S k1 W') := fun W S h => by rw [← f1]; exact h.write 4 4 258 (by simp [W32]) (wf_i64 (by omega) (by omega)) (by simp [W32])
  have H2 : Hid (∀ W S, At w S k1 W → Calls Try.prog 18 #[.pointer (some ⟨S, 0, none⟩), .int .u32 4, .int .i64 1] W fun e W' => e = .returned (.tuple #[.int .u32 2, .int .i64 0]) ∧ At w S k1 W') := fun W S h => by have := h.read 4 1 (by simp [W32]) (wf_i64 (by omega) (by omega)); rwa [f2, f3] at this
  have H3 : Hid (∀ W S, At w S k1 W → Calls Try.prog 18 #[.pointer (some ⟨S, 0, none⟩), .int .u32 5, .int .i64 1] W fun e W' => e = .returned (.tuple #[.int .u32 1, .int .i64 0]) ∧ At w S k1 W') := fun W S h => by have := h.read 5 1 (by simp [W32]) (wf_i64 (by omega) (by omega)); rwa [f4, f5] at this
  have H4 : Hid (∀ W S, At w S k1 W → Calls Try.prog 18 #[.pointer (some ⟨S, 0, none⟩), .int .u32 2, .int .i64 4] W fun e W' => e = .returned (.tuple #[.int .u32 0, .int .i64 150]) ∧ At w S k1 W') := fun W S h => by have := h.read 2 4 (by simp [W32]) (wf_i64 (by omega) (by omega)); rwa [f6, f7] at this
  have H5 : Hid (∀ W S, At w S k1 W → Calls Try.prog 16 #[.pointer (some ⟨S, 0, none⟩)] W fun e W' => e = .returned (.int .i64 64) ∧ W = W') := fun W S h => by have := h.size; rwa [f8] at this
  clear f1 f2 f3 f4 f5 f6 f7 f8
  go_enter Try.func10, Try.ntmps10
  go_wp2_with fail
  refine H0.out.mono ?_; rintro e w1 ⟨S, rfl, h, _⟩; have A1 := Lib.hid h; clear h
  go_wp2_with fail
  refine (H1.out _ _ A1.out).mono ?_; rintro e w2 ⟨rfl, h⟩; have A2 := Lib.hid h; clear h
  go_wp2_with fail
  refine (H2.out _ _ A2.out).mono ?_; rintro e w3 ⟨rfl, h⟩; have A3 := Lib.hid h; clear h
  go_wp2_with fail
  refine (H3.out _ _ A3.out).mono ?_; rintro e w4 ⟨rfl, h⟩; have A4 := Lib.hid h; clear h
  go_wp2_with fail
  refine (H4.out _ _ A4.out).mono ?_; rintro e w5 ⟨rfl, h⟩; have A5 := Lib.hid h; clear h
  go_wp2_with (first | (go_at_call 13; refine (num_any _ _).mono ?_; rintro e w' ⟨rfl, rfl⟩) | (go_at_call 16; refine (H5.out _ _ A5.out).mono ?_; rintro e w5' ⟨rfl, rfl⟩))
  go_ret
  exact ⟨rfl, A5.out.kept⟩
end Go.Proofs.Ythcipnmcmcihgaa

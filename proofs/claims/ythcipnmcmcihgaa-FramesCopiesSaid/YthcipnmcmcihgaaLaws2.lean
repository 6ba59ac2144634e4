/-
  Layer 5: the walk of FramesAgain: the stage's theorem.
-/
import Derived.Test.YthcipnmcmcihgaaLaws1
namespace Go.Proofs.Ythcipnmcmcihgaa
open Go.RowKit
set_option maxHeartbeats 1000000
set_option linter.unusedVariables false

/-- Two frames somewhere above, apart. -/
def At2 (w : World) (S1 : Nat) (l1 : List Int) (S2 : Nat) (l2 : List Int) (W : World) : Prop := ∃ F1 F2, Fr W S1 l1 F1 ∧ Fr W S2 l2 F2 ∧ (∀ k, F1 k → w.heap.size ≤ k) ∧ (∀ k, F2 k → w.heap.size ≤ k) ∧ (∀ k, F1 k → ¬ F2 k) ∧ Below w.heap.size w W
section
variable {w W W' : World} {S S2 : Nat} {l l2 : List Int}
theorem At2.kept (h : At2 w S l S2 l2 W) : Below w.heap.size w W := by obtain ⟨_, _, _, _, _, _, _, h⟩ := h; exact h
theorem At2.below (h : At2 w S l S2 l2 W) (hb : Below W.heap.size W W') : At2 w S l S2 l2 W' := by
  obtain ⟨F1, F2, h1, h2, h3, h4, h5, h6⟩ := h
  exact ⟨F1, F2, h1.below hb, h2.below hb, h3, h4, h5, h6.trans (hb.mono h6.size)⟩
theorem At2.one (h : At2 w S l S2 l2 W) : At w S l W := by
  obtain ⟨F1, F2, h1, h2, h3, h4, h5, h6⟩ := h
  exact ⟨F1, h1, h3, h6⟩
theorem At2.two (h : At2 w S l S2 l2 W) : At w S2 l2 W := by
  obtain ⟨F1, F2, h1, h2, h3, h4, h5, h6⟩ := h
  exact ⟨F2, h2, h4, h6⟩
theorem At.copy (h : At w S l W) : Calls Try.prog 25 #[.pointer (some ⟨S, 0, none⟩)] W fun e W' => ∃ S2, e = .returned (.pointer (some ⟨S2, 0, none⟩)) ∧ At2 w S l S2 l W' ∧ Below W.heap.size W W' := by
  obtain ⟨F, h1, h2, h3⟩ := h
  refine (Copy_any h1).mono fun e W' ⟨S', F', he, hf, hlo, hb⟩ => ⟨S', he, ⟨F, F', h1.below hb, hf, h2, fun k hk => ?_, fun k hk hk' => ?_, h3.trans (hb.mono h3.size)⟩, hb⟩
  · have := hlo k hk; have := h3.size; omega
  · have := hlo k hk'; have := h1.lt k hk; omega
theorem At2.write (h : At2 w S l S2 l2 W) (a wd x : Int) (ha : W32 a) (hwd : (Lit.int .i64 wd).wf = true) (hx : W32 x) :
    Calls Try.prog 21 #[.pointer (some ⟨S, 0, none⟩), .int .u32 a, .int .i64 wd, .int .u32 x] W fun e W' => e = .returned (.int .i64 (refE l.length a wd)) ∧ At2 w S (wrE l a wd x) S2 l2 W' := by
  obtain ⟨F1, F2, h1, h2, h3, h4, h5, h6⟩ := h
  exact (Write_any h1 a wd x ha hwd hx).mono fun e W' ⟨he, hp, ht⟩ => ⟨he, F1, F2, hp, h2.kept ht (fun k hk hk' => h5 k hk' hk), h3, h4, h5, h6.trans (ht.below h6.size h3)⟩
theorem At2.read1 (h : At2 w S l S2 l2 W) (a wd : Int) (ha : W32 a) (hwd : (Lit.int .i64 wd).wf = true) :
    Calls Try.prog 18 #[.pointer (some ⟨S, 0, none⟩), .int .u32 a, .int .i64 wd] W fun e W' => e = .returned (.tuple #[.int .u32 (rdE l a wd), .int .i64 (refE l.length a wd)]) ∧ At2 w S l S2 l2 W' := by
  have h0 := h
  obtain ⟨F1, F2, h1, h2, h3, h4, h5, h6⟩ := h
  exact (Read_any h1 a wd ha hwd).mono fun e W' ⟨he, hb⟩ => ⟨he, h0.below hb⟩
theorem At2.read2 (h : At2 w S l S2 l2 W) (a wd : Int) (ha : W32 a) (hwd : (Lit.int .i64 wd).wf = true) :
    Calls Try.prog 18 #[.pointer (some ⟨S2, 0, none⟩), .int .u32 a, .int .i64 wd] W fun e W' => e = .returned (.tuple #[.int .u32 (rdE l2 a wd), .int .i64 (refE l2.length a wd)]) ∧ At2 w S l S2 l2 W' := by
  have h0 := h
  obtain ⟨F1, F2, h1, h2, h3, h4, h5, h6⟩ := h
  exact (Read_any h2 a wd ha hwd).mono fun e W' ⟨he, hb⟩ => ⟨he, h0.below hb⟩
theorem At2.same (h : At2 w S l S2 l2 W) : Calls Try.prog 26 #[.pointer (some ⟨S, 0, none⟩), .pointer (some ⟨S2, 0, none⟩)] W fun e W' => e = .returned (.bool (decide (l = l2))) ∧ At2 w S l S2 l2 W' := by
  have h0 := h
  obtain ⟨F1, F2, h1, h2, h3, h4, h5, h6⟩ := h
  exact (Same_any h1 h2).mono fun e W' ⟨he, hb⟩ => ⟨he, h0.below hb⟩
end
/-! ### the plain facts -/
theorem rdE_one {l : List Int} {k : Nat} (h : k < l.length) : rdE l k 1 = at0 l k := by unfold rdE; rw [refE_one (by omega)]; simp [rdV]
/-- What is written is read; all else is as it was. -/
theorem again_facts {l : List Int} (hb : Byt l) (hpg : l.length % 64 = 0) (s : Acc3) (hs : s.Ok) (o : Int) (ho : W32 o) (hz : refE l.length s.a s.d = 0) :
    rdE (wrE l s.a s.d s.x) s.a s.d = (if s.d = 1 then s.x % 256 else s.x) ∧ (o < s.a ∨ s.a + s.d ≤ o → rdE (wrE l s.a s.d s.x) o 1 = rdE l o 1) := by
  obtain ⟨hw, hm, hl⟩ := refE_zero hz
  obtain ⟨k, hk⟩ := Int.eq_ofNat_of_zero_le hs.a.1
  rw [hk] at hz hm hl ⊢
  have hwr : wrE l k s.d s.x = wrV l k s.d s.x := by unfold wrE; rw [hz]; simp
  have hwl : (wrV l k s.d s.x).length = l.length := wrV_length _ _ _ _
  rw [hwr]
  refine ⟨?_, fun hx => ?_⟩
  · unfold rdE
    rw [hwl, hz, if_pos rfl]
    simp only [Int.toNat_natCast]
    exact rd_wr l k s.x hs.x hw (by omega) (fun e => by rw [e] at hm; omega)
  · obtain ⟨j, rfl⟩ := Int.eq_ofNat_of_zero_le ho.1
    by_cases hj : j < l.length
    · rw [rdE_one (by omega), rdE_one hj]
      exact wr_else l k s.x hw (by omega) (fun e => by rw [e] at hm; omega) j (by omega)
    · have e1 : refE l.length j 1 ≠ 0 := by unfold refE; simp; omega
      unfold rdE
      rw [hwl, if_neg e1, if_neg e1]
/-- A word is its four bytes. -/
theorem word_facts {l : List Int} (hpg : l.length % 64 = 0) {a d : Int} (ha : W32 a) (hz : refE l.length a d = 0) :
    ∃ k : Nat, a - a % 4 = k ∧ k + 4 ≤ l.length ∧ refE l.length (k : Int) 4 = 0 ∧ rdE l k 4 = wrd (at0 l k) (at0 l (k + 1)) (at0 l (k + 2)) (at0 l (k + 3)) := by
  obtain ⟨hw, hm, hl⟩ := refE_zero hz
  obtain ⟨a0, a1⟩ := ha
  obtain ⟨k, hk⟩ := Int.eq_ofNat_of_zero_le (show 0 ≤ a - a % 4 by omega)
  have hf := refE_four (n := l.length) (a := k) (by omega) (by omega)
  refine ⟨k, hk, by omega, hf, ?_⟩
  unfold rdE
  rw [hf]
  simp [rdV]

theorem At.byte {w W : World} {S : Nat} {l : List Int} (h : At w S l W) (a : Int) (j : Nat) (ha : a = (j : Int)) (hj : j < l.length) :
    Calls Try.prog 18 #[.pointer (some ⟨S, 0, none⟩), .int .u32 a, .int .i64 1] W fun e W' => e = .returned (.tuple #[.int .u32 (at0 l j), .int .i64 0]) ∧ At w S l W' := by
  subst ha
  have hl := h.len
  have := h.read (j : Int) 1 ⟨by omega, by omega⟩ (wf_i64 (by omega) (by omega))
  rwa [rdE_one hj, refE_one (by omega)] at this
theorem At.word {w W : World} {S : Nat} {l : List Int} (h : At w S l W) {k : Nat} (hk : k + 4 ≤ l.length) (hz : refE l.length (k : Int) 4 = 0) {x : Int} (hx : rdE l k 4 = x) :
    Calls Try.prog 18 #[.pointer (some ⟨S, 0, none⟩), .int .u32 (k : Int), .int .i64 4] W fun e W' => e = .returned (.tuple #[.int .u32 x, .int .i64 0]) ∧ At w S l W' := by
  have hl := h.len
  have := h.read (k : Int) 4 ⟨by omega, by omega⟩ (wf_i64 (by omega) (by omega))
  rwa [hz, hx] at this
/-- The last part of FramesAgain: a word is its four bytes. -/
theorem word_le {b0 b1 b2 b3 : Int} (h0 : 0 ≤ b0 ∧ b0 < 256) (h1 : 0 ≤ b1 ∧ b1 < 256) (h2 : 0 ≤ b2 ∧ b2 < 256) (h3 : 0 ≤ b3 ∧ b3 < 256) : wrd b0 b1 b2 b3 = ((b3 * 256 + b2) * 256 + b1) * 256 + b0 := by unfold wrd; omega
set_option maxRecDepth 100000 in
theorem FramesAgain_walk (v0 : Value) (b : List Int) (p : Int) (hp : (Lit.int .i64 p).wf = true) (s : Acc3) (hs : s.Ok) (o : Int) (ho : W32 o) (w : World) (h : NumsIn .u8 w v0 b) :
    Calls Try.prog 9 #[v0, .int .i64 p, .agg #[.int .u32 s.a, .int .i64 s.d, .int .u32 s.x], .int .u32 o] w fun e w' => e = .returned (.bool true) ∧ Below w.heap.size w w' := by
  have HO := Lib.hid hs
  have HOo := Lib.hid ho
  by_cases hlen : (3000 : Int) < b.length
  · obtain ⟨o, c, rfl, _, hm, _⟩ := h.form
    have HA := Lib.hid ((Below.refl w.heap.size w).alloc (Nat.le_refl _) (.cells #[.int .u32 s.a, .int .i64 s.d, .int .u32 s.x] 36))
    unfold maxLen at hm
    go_enter Try.func9, Try.ntmps9
    go_wp2_with (go_at_call 10; refine (works_any _).mono ?_; rintro e w' ⟨rfl, hb⟩)
    go_ret
    exact ⟨rfl, HA.out.trans (hb.mono HA.out.size)⟩
  · have HP := Lib.hid (paged_was v0 b p w (accO s) h (by omega))
    obtain ⟨o', c, rfl, _, hm, _⟩ := h.form
    unfold maxLen at hm
    generalize pgd b p = l at HP
    clear h
    go_enter Try.func9, Try.ntmps9
    go_wp2_with fail
    refine HP.out.mono ?_
    rintro e w1 ⟨g, c1, rfl, hW⟩
    have W1 := Lib.hid hW
    clear hW
    go_wp2_with fail
    refine (At.of (w := w1) _ W1.out.nums W1.out.len.1 W1.out.len.2.1 W1.out.len.2.2 (Below.refl _ _)).mono ?_
    rintro e w2 ⟨S, rfl, hAt, _⟩
    have A2 := Lib.hid hAt
    clear hAt
    go_wp2_with fail
    refine A2.out.copy.mono ?_
    rintro e w3 ⟨S2, rfl, hAt, _⟩
    have A3 := Lib.hid hAt
    obtain ⟨a0, a1, a2⟩ := acc_cells (W1.out.kept hAt.kept).box
    clear hAt
    go_wp2_with fail
    refine (A3.out.write s.a s.d s.x HO.out.a HO.out.d HO.out.x).mono ?_
    rintro e w4 ⟨rfl, hAt⟩
    have A4 := Lib.hid hAt
    clear a0 a1 a2
    obtain ⟨a0, a1, a2⟩ := acc_cells (W1.out.kept hAt.kept).box
    clear hAt
    go_wp2_with fail
    refine (A4.out.read1 s.a s.d HO.out.a HO.out.d).mono ?_
    rintro e w5 ⟨rfl, hAt⟩
    have A5 := Lib.hid hAt
    clear a0 a1 a2
    have hl5 := wrE_length l s.a s.d s.x
    rw [hl5]
    by_cases hz : refE l.length s.a s.d = 0
    · rw [hz]
      obtain ⟨a0, a1, a2⟩ := acc_cells (W1.out.kept hAt.kept).box
      obtain ⟨f1, f2⟩ := again_facts W1.out.byt W1.out.len.2.2 s HO.out o HOo.out hz
      obtain ⟨k, hk, hk4, hkz, hkv⟩ := word_facts (l := wrE l s.a s.d s.x) (by rw [hl5]; exact W1.out.len.2.2) HO.out.a (show refE (wrE l s.a s.d s.x).length s.a s.d = 0 by rw [hl5]; exact hz)
      have hbyt : Byt (wrE l s.a s.d s.x) := wrE_byt W1.out.byt _ _ _
      obtain ⟨hw, hm4, hlt⟩ := refE_zero hz
      have hll := W1.out.len
      have HW4 := Lib.hid (A5.out.one.read (k : Int) 4 ⟨by omega, by omega⟩ (wf_i64 (by omega) (by omega)))
      obtain ⟨x0, x1⟩ := HO.out.x
      obtain ⟨y0, y1⟩ := HO.out.a
      obtain ⟨o0, o1⟩ := ho
      have HL5 := Lib.hid hl5
      have F1 := Lib.hid f1
      have F2 := Lib.hid f2
      generalize wrE l s.a s.d s.x = L at *
      have v0 := hbyt.at0 k
      have v1 := hbyt.at0 (k + 1)
      have v2 := hbyt.at0 (k + 2)
      have v3 := hbyt.at0 (k + 3)
      have HE := Lib.hid (word_le v0 v1 v2 v3)
      have HKV := Lib.hid hkv
      have HKZ := Lib.hid hkz
      have HK4 := Lib.hid hk4
      have HLL := Lib.hid hll
      obtain ⟨sa, sd, sx⟩ := s
      simp only at *
      have HRO := Lib.hid (A5.out.read1 o 1 HOo.out (wf_i64 (by omega) (by omega)))
      have HRO2 := fun W => Lib.hid (fun h : At2 w1 S L S2 l W => h.read2 o 1 HOo.out (wf_i64 (by omega) (by omega)))
      rw [HL5.out] at HRO
      generalize hr : refE l.length o 1 = r at HRO HRO2
      generalize hxv : rdE L o 1 = xv at HRO F2
      generalize hyv : rdE l o 1 = yv at HRO2 F2
      generalize hnv : rdE L sa sd = nv at F1
      have F3 : Hid ((o < sa ∨ sa + sd ≤ o) → xv = yv) := F2.out
      clear hr hxv hyv hnv f1 f2 F2 hlen hkv HL5 hl5 hkz hbyt hm4 hm hz hs hp
      have hbey : (o < sa ∧ xv = yv) ∨ ((¬ o < sa ∧ sa + sd ≤ o) ∧ xv = yv) ∨ (¬ o < sa ∧ ¬ sa + sd ≤ o) := by
        by_cases h1 : o < sa
        · exact .inl ⟨h1, F3.out (.inl h1)⟩
        · by_cases h2 : sa + sd ≤ o
          · exact .inr (.inl ⟨⟨h1, h2⟩, F3.out (.inr h2)⟩)
          · exact .inr (.inr ⟨h1, h2⟩)
      have HWord := fun W (h : At w1 S L W) => Lib.hid (h.word hk4 HKZ.out (HKV.out.trans HE.out))
      obtain ⟨v00, v01⟩ := v0
      obtain ⟨v10, v11⟩ := v1
      obtain ⟨v20, v21⟩ := v2
      obtain ⟨v30, v31⟩ := v3
      have HkL := Lib.hid hk4
      have HkM : Hid (k + 4 ≤ 2048) := by have := A5.out.one.len; show _ ≤ _; omega
      have hkm : k + 4 ≤ 2048 := HkM.out
      clear F3 hlt hk4 hll HW4 HKV HKZ HE HP
      have hF1 : (sd = 1 ∧ nv = sx % 256) ∨ (sd = 4 ∧ nv = sx) := by
        rcases hw with rfl | rfl
        · exact .inl ⟨rfl, by have := F1.out; rwa [if_pos rfl] at this⟩
        · exact .inr ⟨rfl, by have := F1.out; rwa [if_neg (by decide)] at this⟩
      clear F1 hw
      rcases hF1 with ⟨rfl, rfl⟩ | ⟨rfl, rfl⟩ <;> rcases hbey with ⟨hb1, hxy⟩ | ⟨⟨hb1, hb2⟩, hxy⟩ | ⟨hb1, hb2⟩
      all_goals
        clear a0 a1 a2
        obtain ⟨a0, a1, a2⟩ := acc_cells (W1.out.kept hAt.kept).box
        clear hAt
        go_wp2_with (go_at_call 13; refine (num_any _ _).mono ?_; rintro e w' ⟨rfl, rfl⟩)
        refine HRO.out.mono ?_
        rintro e w6 ⟨rfl, hA6⟩
        have A6 := Lib.hid hA6
        clear a0 a1 a2
        obtain ⟨a0, a1, a2⟩ := acc_cells (W1.out.kept hA6.kept).box
        clear hA6
        go_wp2_with fail
        refine ((HRO2 w6).out A6.out).mono ?_
        rintro e w7 ⟨rfl, hA7⟩
        have A7 := Lib.hid hA7.one
        clear a0 a1 a2
        obtain ⟨a0, a1, a2⟩ := acc_cells (W1.out.kept hA7.kept).box
        clear hA7
        go_wp2_with (go_at_call 13; refine (num_any _ _).mono ?_; rintro e w' ⟨rfl, rfl⟩)
        clear a0 a1 a2
        refine wp_loop_rounds 5 ?_
        rw [rounds_succ]
        go_wp2_with fail
        refine (A7.out.byte _ (k + 3) (by omega) (by have := HkL.out; omega)).mono ?_
        rintro e w8 ⟨rfl, hA⟩
        have A8 := Lib.hid hA
        clear hA
        go_wp2_with (go_at_call 13; refine (num_any _ _).mono ?_; rintro e w' ⟨rfl, rfl⟩)
        rw [rounds_succ]
        go_wp2_with fail
        refine (A8.out.byte _ (k + 2) (by omega) (by have := HkL.out; omega)).mono ?_
        rintro e w9 ⟨rfl, hA⟩
        have A9 := Lib.hid hA
        clear hA
        go_wp2_with (go_at_call 13; refine (num_any _ _).mono ?_; rintro e w' ⟨rfl, rfl⟩)
        rw [rounds_succ]
        go_wp2_with fail
        refine (A9.out.byte _ (k + 1) (by omega) (by have := HkL.out; omega)).mono ?_
        rintro e w10 ⟨rfl, hA⟩
        have A10 := Lib.hid hA
        clear hA
        go_wp2_with (go_at_call 13; refine (num_any _ _).mono ?_; rintro e w' ⟨rfl, rfl⟩)
        rw [rounds_succ]
        go_wp2_with fail
        refine (A10.out.byte _ k (by omega) (by have := HkL.out; omega)).mono ?_
        rintro e w11 ⟨rfl, hA⟩
        have A11 := Lib.hid hA
        clear hA
        go_wp2_with (go_at_call 13; refine (num_any _ _).mono ?_; rintro e w' ⟨rfl, rfl⟩)
        rw [rounds_succ]
        go_wp2_with fail
        refine (HWord w11 A11.out).out.mono ?_
        rintro e w12 ⟨rfl, hA⟩
        have A12 := Lib.hid hA
        clear hA
        go_wp2_with (first | (go_at_call 13; refine (num_any _ _).mono ?_; rintro e w' ⟨rfl, rfl⟩) | (go_at_call 10; refine (works_any _).mono ?_; rintro e w' ⟨rfl, hb⟩))
        go_ret
        have hbw := W1.out.below.trans (A12.out.kept.mono W1.out.below.size)
        exact ⟨rfl, hbw.trans (hb.mono hbw.size)⟩
    · have hz1 : (refE l.length s.a s.d != 0) = true := by simpa using hz
      have hw : wrE l s.a s.d s.x = l := by unfold wrE; rw [if_neg hz]
      have HS := Lib.hid A5.out.same
      rw [hw, decide_eq_true rfl] at HS
      have Hw := Lib.hid hw
      clear hlen hl5 hAt hw
      generalize refE l.length s.a s.d = r at hz hz1 ⊢
      generalize rdE (wrE l s.a s.d s.x) s.a s.d = q
      go_wp2_with (first | (go_at_call 13; refine (num_any _ _).mono ?_; rintro e w' ⟨rfl, rfl⟩) | (go_at_call 26; refine HS.out.mono ?_; rintro e w6 ⟨rfl, hA6⟩; have A6 := Lib.hid hA6; clear hA6) | (go_at_call 10; refine (works_any _).mono ?_; rintro e w' ⟨rfl, hb⟩))
      go_ret
      have hbw := W1.out.below.trans (A6.out.kept.mono W1.out.below.size)
      exact ⟨rfl, hbw.trans (hb.mono hbw.size)⟩
end Go.Proofs.Ythcipnmcmcihgaa

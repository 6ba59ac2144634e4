/-
  Layer 5: what the document's own answers (package pomanderref05) give: walks.
-/
import Derived.Test.YthcipnmcmcihgaaSame
namespace Go.Proofs.Ythcipnmcmcihgaa
open Go.RowKit
set_option maxHeartbeats 1000000
set_option linter.unusedVariables false
set_option linter.unusedSimpArgs false

theorem Refused_any (o : Option Addr) (n c : Nat) (hn : n ≤ 65536) (a wd : Int) (ha : W32 a) (w : World) :
    Calls Try.prog 19 #[.slice o n c, .int .u32 a, .int .i64 wd] w fun e w' => e = .returned (.int .i64 (refE n a wd)) ∧ w = w' := by
  obtain ⟨a0, a1⟩ := ha
  unfold refE
  by_cases h1 : wd = 1
  · subst h1
    by_cases h : (n : Int) ≤ a
    · go_enter Try.func19, Try.ntmps19
      go_wp2
      go_ret
      exact ⟨by simp [h], rfl⟩
    · go_enter Try.func19, Try.ntmps19
      go_wp2
      go_ret
      exact ⟨by simp <;> omega, rfl⟩
  · by_cases h4 : wd = 4
    · subst h4
      have ht : a.tmod 4 = a % 4 := Int.tmod_eq_emod_of_nonneg (by omega)
      by_cases hm : a % 4 = 0
      · by_cases h : (n : Int) ≤ a
        · go_enter Try.func19, Try.ntmps19
          go_wp2
          go_ret
          exact ⟨by simp [h, hm], rfl⟩
        · go_enter Try.func19, Try.ntmps19
          go_wp2
          go_ret
          exact ⟨by simp [hm] <;> omega, rfl⟩
      · go_enter Try.func19, Try.ntmps19
        go_wp2
        go_ret
        exact ⟨by simp [hm], rfl⟩
    · have t1 : (wd != 1) = true := by simp [h1]
      have t4 : (wd != 4) = true := by simp [h4]
      go_enter Try.func19, Try.ntmps19
      go_wp2
      go_ret
      exact ⟨by simp [h1, h4], rfl⟩

theorem RRead_any {w : World} {g c : Nat} {l : List Int} (hr : RowAt w g l) (hb : Byt l) (hc : l.length ≤ c) (hm : l.length ≤ 65536) (k : Nat) (wd : Int) (hw : wd = 1 ∨ wd = 4) (hk : (k : Int) + wd ≤ l.length) :
    Calls Try.prog 20 #[.slice (some ⟨g, 0, none⟩) l.length c, .int .u32 (k : Int), .int .i64 wd] w fun e w' => e = .returned (.int .u32 (rdV l k wd)) ∧ w = w' := by
  rcases hw with rfl | rfl
  · have c0 := (hr.cell (i := k) (by omega)).1
    have v0 := hb.at0 k
    have HE : Hid (rdV l k 1 = at0 l k) := by simp [Hid, rdV]
    generalize at0 l k = x0 at *
    obtain ⟨v00, v01⟩ := v0
    clear hr hb
    go_enter Try.func20, Try.ntmps20
    go_wp2
    refine wp_loop_rounds 2 ?_
    iterate 2
      rw [rounds_succ]
      go_wp2
    go_ret
    rw [HE.out]
    exact ⟨by simp, rfl⟩
  · have c0 := (hr.cell (i := k) (by omega)).1
    have c1 := (hr.cell (i := k + 1) (by omega)).1
    have c2 := (hr.cell (i := k + 2) (by omega)).1
    have c3 := (hr.cell (i := k + 3) (by omega)).1
    have v0 := hb.at0 k
    have v1 := hb.at0 (k + 1)
    have v2 := hb.at0 (k + 2)
    have v3 := hb.at0 (k + 3)
    have HE : Hid (rdV l k 4 = wrd (at0 l k) (at0 l (k + 1)) (at0 l (k + 2)) (at0 l (k + 3))) := by simp [Hid, rdV]
    generalize at0 l k = x0 at *
    generalize at0 l (k + 1) = x1 at *
    generalize at0 l (k + 2) = x2 at *
    generalize at0 l (k + 3) = x3 at *
    obtain ⟨v00, v01⟩ := v0
    obtain ⟨v10, v11⟩ := v1
    obtain ⟨v20, v21⟩ := v2
    obtain ⟨v30, v31⟩ := v3
    clear hr hb
    go_enter Try.func20, Try.ntmps20
    go_wp2
    refine wp_loop_rounds 5 ?_
    iterate 5
      rw [rounds_succ]
      go_wp2
    go_ret
    rw [HE.out]
    refine ⟨?_, rfl⟩
    simp [wrd]
    omega

/-! ### Write -/
/-- A slice of these bytes, in memory that was not there ahead. -/
def Fresh (w : World) (l : List Int) (v : Value) (w' : World) : Prop := ∃ g c, v = .slice (some ⟨g, 0, none⟩) l.length c ∧ RowAt w' g l ∧ l.length ≤ c ∧ w.heap.size ≤ g ∧ Below w.heap.size w w'
theorem Fresh.nums {w w' : World} {l : List Int} {v : Value} (h : Fresh w l v w') (hb : Byt l) (hm : l.length ≤ 65536) : NumsIn .u8 w' v l := by
  obtain ⟨g, c, rfl, h1, h2, h3, h4⟩ := h
  exact h1.nums hb h2 (by unfold maxLen; omega)
set_option maxRecDepth 100000 in
theorem RWrite_any {w : World} {g c : Nat} {l : List Int} (hr : RowAt w g l) (hb : Byt l) (hc : l.length ≤ c) (hm : l.length ≤ 65536) (k : Nat) (wd x : Int) (hx : W32 x) (hw : wd = 1 ∨ wd = 4) (hk : (k : Int) + wd ≤ l.length) :
    Calls Try.prog 22 #[.slice (some ⟨g, 0, none⟩) l.length c, .int .u32 (k : Int), .int .i64 wd, .int .u32 x] w fun e w' => ∃ v, e = .returned v ∧ Fresh w (wrV l k wd x) v w' := by
  obtain ⟨i0, hi, hz0, hz1, hz2⟩ := info_parts A.infoB
  have hbl := bv_length l
  have A0 : Hid (∀ j u, (bv l)[j]? = some u → w.cell? ((⟨g, 0, none⟩ : Addr).add j) = some u) := by
    intro j u hj
    have hlt : j < l.length := by have := (List.getElem?_eq_some_iff.1 hj).1; rwa [bv_length] at this
    rw [bv_at, at0_lt hlt] at hj
    cases hj
    rw [add_lit, Nat.zero_add]
    exact (hr.cell hlt).1
  have HG := Lib.hid hr.lt
  have HB := Lib.hid hb
  have HX := Lib.hid hx
  obtain ⟨hx0, hx1⟩ := hx
  have h0 : 0 < l.length := by rcases hw with rfl | rfl <;> omega
  clear hr hb
  go_enter Try.func22, Try.ntmps22
  go_wp2_with (at_builtin; refine wpList_append_own_at _ rfl _ _ 22 rfl w.heap.size 5 i0 (.int .u8 0) 1 1 Try.underlying22 hi hz0 hz1 hz2 rfl (by decide) _ _ _ rfl (World.ownsRow_made w #[] 0 (Nat.le_refl _) (Nat.zero_le _) (by simp)) ⟨g, 0, none⟩ l.length c (bv l) rfl (by simp [hbl]) ?qc1 (bv_one l) (by unfold maxLen; omega) (by omega) (by simp) ?_)
  case qc1 =>
    intro j u hj
    have h1 := A0.out j u hj
    rw [World.cell?_alloc_lt _ _ _ (World.block_lt_of_cell? _ _ h1)]
    exact h1
  intro v' w1 hown hgrow hnil _
  obtain ⟨g', c', rfl⟩ : ∃ g' c', v' = .slice (some ⟨g', 0, none⟩) l.length c' := by
    rcases hown.2 with ⟨h0, _⟩ | ⟨g', cap, cur, hv, _⟩
    · exact absurd h0 hnil
    · exact ⟨g', cap, by simpa using hv⟩
  have hown' : w1.ownsRow w.heap.size 5 1 (.slice (some ⟨g', 0, none⟩) l.length c') l.length (bv l) := by simpa using hown
  obtain ⟨r1, r2, r3, _, r5⟩ := rowAt_of_own hown'
  have HB1 := Lib.hid (((Below.refl w.heap.size w).alloc (Nat.le_refl _) (.cells #[] 5)).grown hgrow (by simp) (by intro k hk; simp [Value.ownBlock] at hk; omega))
  have HR := Lib.hid r1
  have HR2 := Lib.hid r2
  have HR3 := Lib.hid r3
  clear hown hown' hgrow hnil r2 r3 r5
  rcases hw with rfl | rfl
  · obtain ⟨c0, f0⟩ := r1.cell (i := k) (by omega)
    clear r1
    go_wp2
    refine wp_loop_rounds 2 ?_
    rw [rounds_succ]
    go_wp2
    rw [rounds_succ]
    go_wp2
    go_ret
    obtain ⟨h1, _, h3⟩ := row_step HR.out (i := k) (by omega) (x % 256) rfl
    refine ⟨_, rfl, g', c', by rw [wrV_length]; rfl, by simpa [wrV] using h1, by rw [wrV_length]; exact HR3.out, HR2.out, HB1.out.trans (h3.below HB1.out.size (fun j hj => by subst hj; exact HR2.out))⟩
  · obtain ⟨c0, f0⟩ := r1.cell (i := k) (by omega)
    clear r1
    go_wp2
    refine wp_loop_rounds 5 ?_
    rw [rounds_succ]
    go_wp2
    obtain ⟨W1, hW1⟩ : ∃ W1, W1 = w1.setCell ⟨g', k, none⟩ (.int .u8 (x % 256)) := ⟨_, rfl⟩
    rw [← hW1]
    obtain ⟨r1, q1, t1⟩ := row_step HR.out (i := k) (by omega) _ hW1
    obtain ⟨c1, f1⟩ := r1.cell (i := k + 1) (by simp; omega)
    have HR1 := Lib.hid r1
    have T1 := Lib.hid t1
    clear c0 f0 r1 t1 q1 hW1
    rw [rounds_succ]
    go_wp2
    obtain ⟨W2, hW2⟩ : ∃ W2, W2 = W1.setCell ⟨g', k + 1, none⟩ (.int .u8 (x / 256 % 256)) := ⟨_, rfl⟩
    rw [← hW2]
    obtain ⟨r2, q2, t2⟩ := row_step HR1.out (i := k + 1) (by simp; omega) _ hW2
    obtain ⟨c2, f2⟩ := r2.cell (i := k + 2) (by simp; omega)
    have HR2' := Lib.hid r2
    have T2 := Lib.hid t2
    clear c1 f1 r2 t2 q2 hW2
    rw [rounds_succ]
    go_wp2
    obtain ⟨W3, hW3⟩ : ∃ W3, W3 = W2.setCell ⟨g', k + 2, none⟩ (.int .u8 (x / 256 / 256 % 256)) := ⟨_, rfl⟩
    rw [← hW3]
    obtain ⟨r3, q3, t3⟩ := row_step HR2'.out (i := k + 2) (by simp; omega) _ hW3
    obtain ⟨c3, f3⟩ := r3.cell (i := k + 3) (by simp; omega)
    have HR3' := Lib.hid r3
    have T3 := Lib.hid t3
    clear c2 f2 r3 t3 q3 hW3
    rw [rounds_succ]
    go_wp2
    obtain ⟨W4, hW4⟩ : ∃ W4, W4 = W3.setCell ⟨g', k + 3, none⟩ (.int .u8 (x / 256 / 256 / 256 % 256)) := ⟨_, rfl⟩
    rw [← hW4]
    obtain ⟨r4, q4, t4⟩ := row_step HR3'.out (i := k + 3) (by simp; omega) _ hW4
    have HR4 := Lib.hid r4
    have T4 := Lib.hid (((T1.out.trans T2.out (fun _ h => .inl h)).trans T3.out (fun _ h => .inl h)).trans t4 (fun _ h => .inl h))
    clear c3 f3 r4 t4 q4 hW4
    rw [rounds_succ]
    go_wp2
    go_ret
    refine ⟨_, rfl, g', c', by rw [wrV_length]; rfl, by simpa [wrV] using HR4.out, by rw [wrV_length]; exact HR3.out, HR2.out, HB1.out.trans (T4.out.below HB1.out.size (fun j hj => by subst hj; exact HR2.out))⟩

/-! ### Load -/
theorem ldV_step (l : List Int) (k : Nat) (xs : List Int) (j : Nat) (hj : j < xs.length) (hk : k + xs.length ≤ l.length) : (ldV l k (xs.take j)).set (k + j) (at0 xs j) = ldV l k (xs.take (j + 1)) := by
  have hx : xs.take (j + 1) = xs.take j ++ [at0 xs j] := by rw [List.take_add_one, at0_lt hj]; rfl
  unfold ldV
  rw [hx]
  have e1 : (l.take k).length = k := by simp; omega
  have e2 : (xs.take j).length = j := by simp; omega
  rw [List.set_append_right _ _ (by omega), e1, show k + j - k = j by omega, List.set_append_right _ _ (by omega), e2, Nat.sub_self]
  have e3 : l.drop (k + j) = at0 l (k + j) :: l.drop (k + j + 1) := by
    rw [List.drop_eq_getElem_cons (by omega)]
    congr 1
    have := at0_lt (l := l) (i := k + j) (by omega)
    rw [List.getElem?_eq_getElem (by omega)] at this
    simpa using this
  rw [e3]
  simp [e2, Nat.add_assoc]
theorem ldV_nil (l : List Int) (k : Nat) : ldV l k [] = l := by simp [ldV]
theorem fresh_of {w w1 : World} {l : List Int} {g' c' : Nat} (hb : Below w.heap.size w w1) (hr : RowAt w1 g' l) (hc : l.length ≤ c') (hg : w.heap.size ≤ g') : Fresh w l (.slice (some ⟨g', 0, none⟩) l.length c') w1 := ⟨g', c', rfl, hr, hc, hg, hb⟩
theorem RLoad_no (o1 o2 : Option Addr) (n1 c1 n2 c2 : Nat) (h1 : n1 ≤ 65536) (h2 : n2 ≤ 65536) (a : Int) (ha : W32 a) (hno : ldR n1 a n2 ≠ 0) (w : World) :
    Calls Try.prog 24 #[.slice o1 n1 c1, .int .u32 a, .slice o2 n2 c2] w fun e w' => e = .returned (.tuple #[.slice o1 n1 c1, .int .i64 4]) ∧ w = w' := by
  obtain ⟨a0, a1⟩ := ha
  have h : (n1 : Int) < a + n2 := by unfold ldR at hno; split at hno <;> omega
  clear hno
  go_enter Try.func24, Try.ntmps24
  go_wp2
  go_ret2
  exact ⟨rfl, rfl⟩
set_option maxRecDepth 100000 in
theorem RLoad_any {w : World} {g c : Nat} {l : List Int} (hr : RowAt w g l) (hb : Byt l) (hc : l.length ≤ c) (hm : l.length ≤ 65536) (h0 : 0 < l.length) (k : Nat) (v : Value) (xs : List Int) (hv : NumsIn .u8 w v xs) (hk : k + xs.length ≤ l.length) :
    Calls Try.prog 24 #[.slice (some ⟨g, 0, none⟩) l.length c, .int .u32 (k : Int), v] w fun e w' => ∃ v', e = .returned (.tuple #[v', .int .i64 0]) ∧ Fresh w (ldV l k xs) v' w' := by
  obtain ⟨i0, hi, hz0, hz1, hz2⟩ := info_parts A.infoB
  have hbl := bv_length l
  have A0 : Hid (∀ j u, (bv l)[j]? = some u → w.cell? ((⟨g, 0, none⟩ : Addr).add j) = some u) := by
    intro j u hj
    have hlt : j < l.length := by have := (List.getElem?_eq_some_iff.1 hj).1; rwa [bv_length] at this
    rw [bv_at, at0_lt hlt] at hj
    cases hj
    rw [add_lit, Nat.zero_add]
    exact (hr.cell hlt).1
  have HG := Lib.hid hr.lt
  have HB := Lib.hid hb
  have HV := Lib.hid hv
  obtain ⟨o, c2, rfl, hxc, _, hcell⟩ := hv.form
  have HC := Lib.hid hcell
  clear hr hb hv hcell
  go_enter Try.func24, Try.ntmps24
  go_wp2_with (at_builtin; refine wpList_append_own_at _ rfl _ _ 22 rfl w.heap.size 5 i0 (.int .u8 0) 1 1 Try.underlying22 hi hz0 hz1 hz2 rfl (by decide) _ _ _ rfl (World.ownsRow_made w #[] 0 (Nat.le_refl _) (Nat.zero_le _) (by simp)) ⟨g, 0, none⟩ l.length c (bv l) rfl (by simp [hbl]) ?qc1 (bv_one l) (by unfold maxLen; omega) (by omega) (by simp) ?_)
  case qc1 =>
    intro j u hj
    have h1 := A0.out j u hj
    rw [World.cell?_alloc_lt _ _ _ (World.block_lt_of_cell? _ _ h1)]
    exact h1
  intro v' w1 hown hgrow hnil _
  obtain ⟨g', c', rfl⟩ : ∃ g' c', v' = .slice (some ⟨g', 0, none⟩) l.length c' := by
    rcases hown.2 with ⟨h0, _⟩ | ⟨g', cap, cur, hv, _⟩
    · exact absurd h0 hnil
    · exact ⟨g', cap, by simpa using hv⟩
  have hown' : w1.ownsRow w.heap.size 5 1 (.slice (some ⟨g', 0, none⟩) l.length c') l.length (bv l) := by simpa using hown
  obtain ⟨r1, r2, r3, _, r5⟩ := rowAt_of_own hown'
  have HB1 := Lib.hid (((Below.refl w.heap.size w).alloc (Nat.le_refl _) (.cells #[] 5)).grown hgrow (by simp) (by intro k hk; simp [Value.ownBlock] at hk; omega))
  have HR := Lib.hid r1
  have HR2 := Lib.hid r2
  have HR3 := Lib.hid r3
  clear hown hown' hgrow hnil r2 r3 r5 r1
  go_wp2
  go_loopw [9] (fun i wr => ∃ j : Nat, j ≤ xs.length ∧ i = .int .i64 (j : Int) ∧ Hid (RowAt wr g' (ldV l k (xs.take j))) ∧ Hid (Below w.heap.size w wr)) (fun i _ => xs.length - (intOf i).toNat)
  case atStart => exact ⟨0, by omega, rfl, by unfold Hid; rw [List.take_zero, ldV_nil]; exact HR.out, HB1.out⟩
  case round =>
    obtain ⟨j, hj, rfl, hrow, hb⟩ := hrel
    by_cases hlt : j < xs.length
    · obtain ⟨a, ha, hx⟩ := HC.out j hlt
      subst ha
      have hx1 : wr.cell? (a.add j) = some (.int .u8 (at0 xs j)) := by
        have hbl := World.block_lt_of_cell? _ _ hx
        unfold World.cell? at hx ⊢
        rw [hb.out.block _ hbl]; exact hx
      have hle : (ldV l k (xs.take j)).length = l.length := ldV_length (by simp; omega)
      obtain ⟨c0, f0⟩ := hrow.out.cell (i := k + j) (by omega)
      have HS := Lib.hid (ldV_step l k xs j hlt hk)
      have HLE := Lib.hid hle
      clear hx hle
      go_wp2
      go_roundw
      case rel =>
        obtain ⟨s1, _, s3⟩ := row_step hrow.out (i := k + j) (by have := HLE.out; omega) (at0 xs j) rfl
        rw [HS.out] at s1
        exact ⟨j + 1, by omega, by go_num, s1, hb.out.trans (s3.below hb.out.size (fun q hq => by subst hq; exact HR2.out))⟩
      case measure => simp [intOf]; omega
    · obtain rfl : j = xs.length := by omega
      go_wp2
      go_ret2
      have h1 := hrow.out
      rw [List.take_of_length_le (Nat.le_refl _)] at h1
      have hle : (ldV l k xs).length = l.length := ldV_length hk
      exact ⟨_, rfl, g', c', by rw [hle]; rfl, h1, by rw [hle]; exact HR3.out, HR2.out, hb.out⟩
end Go.Proofs.Ythcipnmcmcihgaa

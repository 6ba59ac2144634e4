/-
  Layer 5: plain numbers: bytes, words out of bytes, what an access is refused for, what is read, what is written. No program.
-/
import Derived.WalkKit
import Derived.Laws.BytesArg
namespace Go.Proofs.Ythcipnmcmcihgaa
open Go.RowKit

/-- An integer is a word. -/
def W32 (a : Int) : Prop := 0 ≤ a ∧ a < 4294967296
theorem w32_of_wf {a : Int} (h : (Lit.int .u32 a).wf = true) : W32 a := by
  simp [Lit.wf, IntKind.min, IntKind.max, IntKind.signed, IntKind.bits] at h
  unfold W32; omega
theorem u8_of_wf {a : Int} (h : (Lit.int .u8 a).wf = true) : 0 ≤ a ∧ a < 256 := by
  simp [Lit.wf, IntKind.min, IntKind.max, IntKind.signed, IntKind.bits] at h
  omega
theorem wf_of_u8 {a : Int} (h : 0 ≤ a ∧ a < 256) : (Lit.int .u8 a).wf = true := by
  simp [Lit.wf, IntKind.min, IntKind.max, IntKind.signed, IntKind.bits]; omega
theorem wf_i64 {x : Int} (h0 : -9223372036854775808 ≤ x) (h1 : x ≤ 9223372036854775807) : (Lit.int .i64 x).wf = true := by
  simp [Lit.wf, IntKind.min, IntKind.max, IntKind.signed, IntKind.bits]; omega
theorem i64_of_wf {a : Int} (h : (Lit.int .i64 a).wf = true) : -9223372036854775808 ≤ a ∧ a ≤ 9223372036854775807 := by
  simp [Lit.wf, IntKind.min, IntKind.max, IntKind.signed, IntKind.bits] at h; omega

/-- All are bytes. -/
def Byt (l : List Int) : Prop := ∀ x ∈ l, 0 ≤ x ∧ x < 256
def at0 (l : List Int) (i : Nat) : Int := l[i]?.getD 0
theorem at0_lt {l : List Int} {i : Nat} (h : i < l.length) : l[i]? = some (at0 l i) := by simp [at0, List.getElem?_eq_getElem h]
theorem at0_ge {l : List Int} {i : Nat} (h : l.length ≤ i) : at0 l i = 0 := by simp [at0, List.getElem?_eq_none h]
theorem Byt.at0 {l : List Int} (h : Byt l) (i : Nat) : 0 ≤ at0 l i ∧ at0 l i < 256 := by
  by_cases hi : i < l.length
  · exact h _ (List.mem_of_getElem? (at0_lt hi))
  · rw [at0_ge (by omega)]; omega
theorem Byt.set {l : List Int} (h : Byt l) (k : Nat) {x : Int} (hx : 0 ≤ x ∧ x < 256) : Byt (l.set k x) := by
  intro y hy
  rcases List.mem_or_eq_of_mem_set hy with h1 | rfl
  · exact h y h1
  · exact hx
theorem at0_set (l : List Int) (k i : Nat) (x : Int) (hk : k < l.length) : at0 (l.set k x) i = if i = k then x else at0 l i := by
  unfold at0
  rw [List.getElem?_set]
  by_cases e : k = i
  · subst e; simp [hk]
  · simp [e, Ne.symm e]
theorem list_ext0 {a b : List Int} (hl : a.length = b.length) (h : ∀ i, i < a.length → at0 a i = at0 b i) : a = b := by
  apply List.ext_getElem? 
  intro i
  by_cases hi : i < a.length
  · rw [at0_lt hi, at0_lt (by omega), h i hi]
  · rw [List.getElem?_eq_none (by omega), List.getElem?_eq_none (by omega)]
theorem Byt.append {a b : List Int} (ha : Byt a) (hb : Byt b) : Byt (a ++ b) := fun x hx => by
  rcases List.mem_append.1 hx with h | h
  · exact ha x h
  · exact hb x h
theorem Byt.take {a : List Int} (ha : Byt a) (n : Nat) : Byt (a.take n) := fun x hx => ha x (List.mem_of_mem_take hx)
theorem Byt.drop {a : List Int} (ha : Byt a) (n : Nat) : Byt (a.drop n) := fun x hx => ha x (List.mem_of_mem_drop hx)
theorem byt_zeros (n : Nat) : Byt (List.replicate n 0) := fun x hx => by rw [List.mem_replicate] at hx; omega

/-! ### strings -/
theorem toList_strOf (xs : List Int) : (strOfNums xs).toList = xs.map fun n => UInt8.ofNat n.toNat := by
  rw [ByteArray.toList_eq]; rfl
theorem u8_inj {x y : Int} (hx : 0 ≤ x ∧ x < 256) (hy : 0 ≤ y ∧ y < 256) (h : UInt8.ofNat x.toNat = UInt8.ofNat y.toNat) : x = y := by
  have := congrArg UInt8.toNat h
  simp at this
  omega
theorem strOf_inj : ∀ {xs ys : List Int}, Byt xs → Byt ys → (xs.map fun n => UInt8.ofNat n.toNat) = (ys.map fun n => UInt8.ofNat n.toNat) → xs = ys
  | [], [], _, _, _ => rfl
  | [], _ :: _, _, _, h => by simp at h
  | _ :: _, [], _, _, h => by simp at h
  | x :: xs, y :: ys, hx, hy, h => by
    simp only [List.map_cons, List.cons.injEq] at h
    rw [u8_inj (hx x (by simp)) (hy y (by simp)) h.1, strOf_inj (fun z hz => hx z (by simp [hz])) (fun z hz => hy z (by simp [hz])) h.2]
theorem str_eq {xs ys : List Int} (hx : Byt xs) (hy : Byt ys) : ((strOfNums xs).toList == (strOfNums ys).toList) = decide (xs = ys) := by
  rw [toList_strOf, toList_strOf]
  by_cases h : xs = ys
  · subst h; simp
  · simp [h]
    intro e
    exact h (strOf_inj hx hy (by simpa using e))

/-! ### words out of bytes -/
def wrd (b0 b1 b2 b3 : Int) : Int := b0 + b1 * 256 + b2 * 65536 + b3 * 16777216
theorem wraps_u32 (n : Int) (h₀ : 0 ≤ n) (h₁ : n < 2 ^ 32) : IntKind.u32.wrap n = n := by rw [IntKind.wrap_u32]; omega
/-- 'or' of a low part and what lies above it is their sum. -/
theorem or_low_high (i : Nat) (x y : Int) (hx0 : 0 ≤ x) (hx1 : x < 2 ^ i) (hx2 : x < 4294967296) (hy0 : 0 ≤ y) (hy1 : y % 2 ^ i = 0) (hy2 : y < 4294967296) : bits .or .u32 x y = x + y := by
  obtain ⟨a, rfl⟩ := Int.eq_ofNat_of_zero_le hx0
  obtain ⟨b, rfl⟩ := Int.eq_ofNat_of_zero_le hy0
  have h1 := (bits_nat .u32 32 (by decide) wraps_u32 a b (by omega) (by omega)).2
  have h2 := (bits_nat .u32 32 (by decide) wraps_u32 b a (by omega) (by omega)).2
  rw [h1, Nat.or_comm, ← h2, bits_join .u32 32 (by decide) wraps_u32 i b a hy0 hy1 (by omega) hx0 hx1 (by omega), Int.add_comm]
theorem or1 (b0 : Int) (h0 : 0 ≤ b0 ∧ b0 < 256) : bits .or .u32 0 b0 = b0 := by rw [or_low_high 0 0 b0 (by omega) (by omega) (by omega) (by omega) (by omega) (by omega)]; omega
theorem or2 (b0 b1 : Int) (h0 : 0 ≤ b0 ∧ b0 < 256) (h1 : 0 ≤ b1 ∧ b1 < 256) : bits .or .u32 b0 (b1 * 256) = b0 + b1 * 256 := by
  rw [or_low_high 8 b0 (b1 * 256) (by omega) (by omega) (by omega) (by omega) (by omega) (by omega)]
theorem or3 (b0 b1 b2 : Int) (h0 : 0 ≤ b0 ∧ b0 < 256) (h1 : 0 ≤ b1 ∧ b1 < 256) (h2 : 0 ≤ b2 ∧ b2 < 256) : bits .or .u32 (b0 + b1 * 256) (b2 * 65536) = b0 + b1 * 256 + b2 * 65536 := by
  rw [or_low_high 16 (b0 + b1 * 256) (b2 * 65536) (by omega) (by omega) (by omega) (by omega) (by omega) (by omega)]
theorem or4 (b0 b1 b2 b3 : Int) (h0 : 0 ≤ b0 ∧ b0 < 256) (h1 : 0 ≤ b1 ∧ b1 < 256) (h2 : 0 ≤ b2 ∧ b2 < 256) (h3 : 0 ≤ b3 ∧ b3 < 256) : bits .or .u32 (b0 + b1 * 256 + b2 * 65536) (b3 * 16777216) = wrd b0 b1 b2 b3 := by
  rw [or_low_high 24 (b0 + b1 * 256 + b2 * 65536) (b3 * 16777216) (by omega) (by omega) (by omega) (by omega) (by omega) (by omega)]
  unfold wrd; omega

/-! ### accesses -/
/-- What is wrong with an access (n bytes, address, width). -/
def refE (n a wd : Int) : Int := if wd ≠ 1 ∧ wd ≠ 4 then 2 else if a % wd ≠ 0 then 150 else if n ≤ a then 4 else 0
theorem refE_zero {n a wd : Int} (h : refE n a wd = 0) : (wd = 1 ∨ wd = 4) ∧ a % wd = 0 ∧ a < n := by
  unfold refE at h
  split at h
  · omega
  · split at h
    · omega
    · split at h
      · omega
      · rename_i h1 h2 h3
        exact ⟨by omega, by omega, by omega⟩
theorem refE_one {n a : Int} (ha : a < n) : refE n a 1 = 0 := by unfold refE; simp; omega
theorem refE_four {n a : Int} (ha : a < n) (h4 : a % 4 = 0) : refE n a 4 = 0 := by unfold refE; simp; omega
/-- What is read. -/
def rdV (l : List Int) (k : Nat) (wd : Int) : Int := if wd = 1 then at0 l k else wrd (at0 l k) (at0 l (k + 1)) (at0 l (k + 2)) (at0 l (k + 3))
def rdE (l : List Int) (a wd : Int) : Int := if refE l.length a wd = 0 then rdV l a.toNat wd else 0
/-- What is written. -/
def wrV (l : List Int) (k : Nat) (wd x : Int) : List Int :=
  if wd = 1 then l.set k (x % 256) else (((l.set k (x % 256)).set (k + 1) (x / 256 % 256)).set (k + 2) (x / 256 / 256 % 256)).set (k + 3) (x / 256 / 256 / 256 % 256)
def wrE (l : List Int) (a wd x : Int) : List Int := if refE l.length a wd = 0 then wrV l a.toNat wd x else l
theorem wrV_length (l : List Int) (k : Nat) (wd x : Int) : (wrV l k wd x).length = l.length := by unfold wrV; split <;> simp
theorem wrE_length (l : List Int) (a wd x : Int) : (wrE l a wd x).length = l.length := by unfold wrE; split; exact wrV_length _ _ _ _; rfl
theorem wrV_byt {l : List Int} (h : Byt l) (k : Nat) (wd x : Int) : Byt (wrV l k wd x) := by
  have m : ∀ y : Int, 0 ≤ y % 256 ∧ y % 256 < 256 := fun y => by omega
  unfold wrV; split
  · exact h.set _ (m _)
  · exact (((h.set _ (m _)).set _ (m _)).set _ (m _)).set _ (m _)
theorem wrE_byt {l : List Int} (h : Byt l) (a wd x : Int) : Byt (wrE l a wd x) := by unfold wrE; split; exact wrV_byt h _ _ _; exact h
/-- What is laid. -/
def ldR (n a m : Int) : Int := if n < a + m then 4 else 0
def ldV (l : List Int) (k : Nat) (xs : List Int) : List Int := l.take k ++ (xs ++ l.drop (k + xs.length))
def ldE (l : List Int) (a : Int) (xs : List Int) : List Int := if ldR l.length a xs.length = 0 then ldV l a.toNat xs else l
theorem ldV_length {l : List Int} {k : Nat} {xs : List Int} (h : k + xs.length ≤ l.length) : (ldV l k xs).length = l.length := by simp [ldV]; omega
theorem ldR_zero {n a m : Int} (h : ldR n a m = 0) : a + m ≤ n := by unfold ldR at h; split at h <;> omega
theorem ldE_length {l : List Int} {a : Int} (ha : 0 ≤ a) {xs : List Int} : (ldE l a xs).length = l.length := by
  unfold ldE; split
  · rename_i h; have := ldR_zero h; exact ldV_length (by omega)
  · rfl
theorem ldV_byt {l xs : List Int} (hl : Byt l) (hx : Byt xs) (k : Nat) : Byt (ldV l k xs) := (hl.take _).append (hx.append (hl.drop _))
theorem ldE_byt {l xs : List Int} (hl : Byt l) (hx : Byt xs) (a : Int) : Byt (ldE l a xs) := by unfold ldE; split; exact ldV_byt hl hx _; exact hl

/-! ### pages again and again -/
def pgN (p : Int) : Nat := (max 1 (min 32 p)).toNat
theorem pgN_lo (p : Int) : 1 ≤ pgN p := by unfold pgN; omega
theorem pgN_hi (p : Int) : pgN p ≤ 32 := by unfold pgN; omega
def pgd (b : List Int) (p : Int) : List Int := (List.range (64 * pgN p)).map fun i => at0 b (i % b.length)
theorem pgd_length (b : List Int) (p : Int) : (pgd b p).length = 64 * pgN p := by simp [pgd]
theorem pgd_byt {b : List Int} (h : Byt b) (p : Int) : Byt (pgd b p) := fun x hx => by
  obtain ⟨i, _, rfl⟩ := List.mem_map.1 hx
  exact h.at0 _
theorem at0_pgd (b : List Int) (p : Int) {i : Nat} (h : i < 64 * pgN p) : at0 (pgd b p) i = at0 b (i % b.length) := by
  simp [at0, pgd, h]

/-! ### the stage's theorem, of lists -/
theorem Byt.wrd32 {l : List Int} (h : Byt l) (i j k m : Nat) : W32 (wrd (Go.Proofs.Ythcipnmcmcihgaa.at0 l i) (Go.Proofs.Ythcipnmcmcihgaa.at0 l j) (Go.Proofs.Ythcipnmcmcihgaa.at0 l k) (Go.Proofs.Ythcipnmcmcihgaa.at0 l m)) := by
  have := h.at0 i; have := h.at0 j; have := h.at0 k; have := h.at0 m
  unfold wrd W32; omega
theorem rdV_w32 {l : List Int} (h : Byt l) (k : Nat) (wd : Int) : W32 (rdV l k wd) := by
  unfold rdV; split
  · have := h.at0 k; unfold W32; omega
  · exact h.wrd32 _ _ _ _
theorem rd_wr (l : List Int) (k : Nat) (x : Int) (hx : W32 x) {wd : Int} (hw : wd = 1 ∨ wd = 4) (hk : k + 1 ≤ l.length) (h4 : wd = 4 → k + 4 ≤ l.length) : rdV (wrV l k wd x) k wd = if wd = 1 then x % 256 else x := by
  unfold W32 at hx
  rcases hw with rfl | rfl
  · unfold rdV wrV; simp only [if_true]
    rw [at0_set _ _ _ _ (by omega)]; simp
  · have := h4 rfl
    unfold rdV wrV; simp only [show ¬ ((4 : Int) = 1) by decide, if_false]
    simp only [at0_set, List.length_set, show k < l.length by omega, show k + 1 < l.length by omega, show k + 2 < l.length by omega, show k + 3 < l.length by omega]
    simp (config := { decide := true }) [wrd]
    omega
theorem wr_else (l : List Int) (k : Nat) (x : Int) {wd : Int} (hw : wd = 1 ∨ wd = 4) (hk : k + 1 ≤ l.length) (h4 : wd = 4 → k + 4 ≤ l.length) (i : Nat) (hi : (i : Int) < k ∨ (k : Int) + wd ≤ i) : at0 (wrV l k wd x) i = at0 l i := by
  rcases hw with rfl | rfl
  · unfold wrV; simp only [if_true]
    rw [at0_set _ _ _ _ (by omega), if_neg (by omega)]
  · have := h4 rfl
    unfold wrV; simp only [show ¬ ((4 : Int) = 1) by decide, if_false]
    rw [at0_set _ _ _ _ (by simp; omega), if_neg (by omega), at0_set _ _ _ _ (by simp; omega), if_neg (by omega), at0_set _ _ _ _ (by simp; omega), if_neg (by omega), at0_set _ _ _ _ (by omega), if_neg (by omega)]
end Go.Proofs.Ythcipnmcmcihgaa

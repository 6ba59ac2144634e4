/-
  Layer 8: plain numbers and lists: bytes, a disk's bytes, its sectors, which are used, what a write makes of them. No program.
-/
import Derived.WalkKit
import Derived.Laws.BytesArg
namespace Go.Proofs.Ytbinpapgfddafaa
open Go.RowKit

/-- An integer is a word. -/
def W32 (a : Int) : Prop := 0 ≤ a ∧ a < 4294967296
theorem w32_of_wf {a : Int} (h : (Lit.int .u32 a).wf = true) : W32 a := by
  simp [Lit.wf, IntKind.min, IntKind.max, IntKind.signed, IntKind.bits] at h
  unfold W32; omega
theorem u8_of_wf {a : Int} (h : (Lit.int .u8 a).wf = true) : 0 ≤ a ∧ a < 256 := by
  simp [Lit.wf, IntKind.min, IntKind.max, IntKind.signed, IntKind.bits] at h
  omega
theorem wf_of_u8 {a : Int} (h : 0 ≤ a ∧ a < 256) : (Lit.int .u8 a).wf = true := by
  simp [Lit.wf, IntKind.min, IntKind.max, IntKind.signed, IntKind.bits]; omega
theorem wf_i64 {x : Int} (h0 : -9223372036854775808 ≤ x) (h1 : x ≤ 9223372036854775807) : (Lit.int .i64 x).wf = true := by
  simp [Lit.wf, IntKind.min, IntKind.max, IntKind.signed, IntKind.bits]; omega
theorem i64_of_wf {a : Int} (h : (Lit.int .i64 a).wf = true) : -9223372036854775808 ≤ a ∧ a ≤ 9223372036854775807 := by
  simp [Lit.wf, IntKind.min, IntKind.max, IntKind.signed, IntKind.bits] at h; omega

/-- All are bytes. -/
def Byt (l : List Int) : Prop := ∀ x ∈ l, 0 ≤ x ∧ x < 256
def at0 (l : List Int) (i : Nat) : Int := l[i]?.getD 0
theorem at0_lt {l : List Int} {i : Nat} (h : i < l.length) : l[i]? = some (at0 l i) := by simp [at0, List.getElem?_eq_getElem h]
theorem at0_ge {l : List Int} {i : Nat} (h : l.length ≤ i) : at0 l i = 0 := by simp [at0, List.getElem?_eq_none h]
theorem Byt.at0 {l : List Int} (h : Byt l) (i : Nat) : 0 ≤ at0 l i ∧ at0 l i < 256 := by
  by_cases hi : i < l.length
  · exact h _ (List.mem_of_getElem? (at0_lt hi))
  · rw [at0_ge (by omega)]; omega
theorem Byt.set {l : List Int} (h : Byt l) (k : Nat) {x : Int} (hx : 0 ≤ x ∧ x < 256) : Byt (l.set k x) := by
  intro y hy
  rcases List.mem_or_eq_of_mem_set hy with h1 | rfl
  · exact h y h1
  · exact hx
theorem at0_set (l : List Int) (k i : Nat) (x : Int) (hk : k < l.length) : at0 (l.set k x) i = if i = k then x else at0 l i := by
  unfold at0
  rw [List.getElem?_set]
  by_cases e : k = i
  · subst e; simp [hk]
  · simp [e, Ne.symm e]
theorem list_ext0 {a b : List Int} (hl : a.length = b.length) (h : ∀ i, i < a.length → at0 a i = at0 b i) : a = b := by
  apply List.ext_getElem? 
  intro i
  by_cases hi : i < a.length
  · rw [at0_lt hi, at0_lt (by omega), h i hi]
  · rw [List.getElem?_eq_none (by omega), List.getElem?_eq_none (by omega)]
theorem Byt.append {a b : List Int} (ha : Byt a) (hb : Byt b) : Byt (a ++ b) := fun x hx => by
  rcases List.mem_append.1 hx with h | h
  · exact ha x h
  · exact hb x h
theorem Byt.take {a : List Int} (ha : Byt a) (n : Nat) : Byt (a.take n) := fun x hx => ha x (List.mem_of_mem_take hx)
theorem Byt.drop {a : List Int} (ha : Byt a) (n : Nat) : Byt (a.drop n) := fun x hx => ha x (List.mem_of_mem_drop hx)
theorem byt_zeros (n : Nat) : Byt (List.replicate n 0) := fun x hx => by rw [List.mem_replicate] at hx; omega

/-! ### strings -/
theorem toList_strOf (xs : List Int) : (strOfNums xs).toList = xs.map fun n => UInt8.ofNat n.toNat := by
  rw [ByteArray.toList_eq]; rfl
theorem u8_inj {x y : Int} (hx : 0 ≤ x ∧ x < 256) (hy : 0 ≤ y ∧ y < 256) (h : UInt8.ofNat x.toNat = UInt8.ofNat y.toNat) : x = y := by
  have := congrArg UInt8.toNat h
  simp at this
  omega
theorem strOf_inj : ∀ {xs ys : List Int}, Byt xs → Byt ys → (xs.map fun n => UInt8.ofNat n.toNat) = (ys.map fun n => UInt8.ofNat n.toNat) → xs = ys
  | [], [], _, _, _ => rfl
  | [], _ :: _, _, _, h => by simp at h
  | _ :: _, [], _, _, h => by simp at h
  | x :: xs, y :: ys, hx, hy, h => by
    simp only [List.map_cons, List.cons.injEq] at h
    rw [u8_inj (hx x (by simp)) (hy y (by simp)) h.1, strOf_inj (fun z hz => hx z (by simp [hz])) (fun z hz => hy z (by simp [hz])) h.2]
theorem str_eq {xs ys : List Int} (hx : Byt xs) (hy : Byt ys) : ((strOfNums xs).toList == (strOfNums ys).toList) = decide (xs = ys) := by
  rw [toList_strOf, toList_strOf]
  by_cases h : xs = ys
  · subst h; simp
  · simp [h]
    intro e
    exact h (strOf_inj hx hy (by simpa using e))

/-! ### sectors -/
def nou : List Int := List.replicate 64 0
/-- The bytes of sector p. -/
def sec (b : List Int) (p : Nat) : List Int := (b.drop (64 * p)).take 64
/-- Is it not all noughts? -/
def usd (b : List Int) (p : Nat) : Bool := decide (sec b p ≠ nou)
def uses (b : List Int) (m : Nat) : List Nat := (List.range m).filter (usd b)
def useds (b : List Int) : List Nat := uses b (b.length / 64)
/-- Sector n is written. -/
def wr (b : List Int) (n : Nat) (x : List Int) : List Int := b.take (64 * n) ++ (x ++ b.drop (64 * n + 64))
/-- .. by any number: nothing, where there is none. -/
def wrE (b : List Int) (n : Int) (x : List Int) : List Int := if 0 ≤ n ∧ n.toNat < b.length / 64 then wr b n.toNat x else b
def wrR (b : List Int) (n : Int) : Int := if 0 ≤ n ∧ n.toNat < b.length / 64 then 0 else 4
def rdE (b : List Int) (n : Int) : List Int := if 0 ≤ n ∧ n.toNat < b.length / 64 then sec b n.toNat else nou
theorem nou_len : nou.length = 64 := rfl
theorem byt_nou : Byt nou := byt_zeros 64
/-- A disk's bytes. -/
structure Dsk (P : Nat) (b : List Int) : Prop where
  lo : 1 ≤ P
  hi : P ≤ 32
  len : b.length = 64 * P
  byt : Byt b
theorem Dsk.div {P : Nat} {b : List Int} (h : Dsk P b) : b.length / 64 = P := by rw [h.len]; omega
theorem sec_len {P : Nat} {b : List Int} (h : b.length = 64 * P) {p : Nat} (hp : p < P) : (sec b p).length = 64 := by
  unfold sec; rw [List.length_take, List.length_drop]; omega
theorem Byt.sec {b : List Int} (h : Byt b) (p : Nat) : Byt (sec b p) := (h.drop _).take _
theorem at0_sec {b : List Int} {p k : Nat} (hk : k < 64) : at0 (sec b p) k = at0 b (64 * p + k) := by
  unfold at0 sec
  rw [List.getElem?_take, if_pos hk, List.getElem?_drop]
theorem wr_len {P : Nat} {b x : List Int} (h : b.length = 64 * P) (hx : x.length = 64) {n : Nat} (hn : n < P) : (wr b n x).length = 64 * P := by
  unfold wr; simp; omega
theorem Byt.wr {b x : List Int} (h : Byt b) (hx : Byt x) (n : Nat) : Byt (wr b n x) := (h.take _).append (hx.append (h.drop _))
theorem Dsk.wr {P : Nat} {b x : List Int} (h : Dsk P b) (hx : x.length = 64) (hb : Byt x) {n : Nat} (hn : n < P) : Dsk P (wr b n x) := ⟨h.lo, h.hi, wr_len h.len hx hn, h.byt.wr hb n⟩
theorem sec_wr_same {P : Nat} {b x : List Int} (h : b.length = 64 * P) (hx : x.length = 64) {n : Nat} (hn : n < P) : sec (wr b n x) n = x := by
  unfold sec wr
  rw [List.drop_append_of_le_length (by simp; omega)]
  have : List.drop (64 * n) (List.take (64 * n) b) = [] := by rw [List.drop_take]; simp
  rw [this, List.nil_append, List.take_append_of_le_length (by omega), List.take_of_length_le (by omega)]
theorem at0_append (a b : List Int) (i : Nat) : at0 (a ++ b) i = if i < a.length then at0 a i else at0 b (i - a.length) := by
  unfold at0; rw [List.getElem?_append]; split <;> rfl
theorem at0_take (a : List Int) (n i : Nat) : at0 (a.take n) i = if i < n then at0 a i else 0 := by
  unfold at0; rw [List.getElem?_take]; split <;> rfl
theorem at0_drop (a : List Int) (n i : Nat) : at0 (a.drop n) i = at0 a (n + i) := by
  unfold at0; rw [List.getElem?_drop]
theorem at0_wr {P : Nat} {b x : List Int} (h : b.length = 64 * P) (hx : x.length = 64) {n : Nat} (hn : n < P) (i : Nat) : at0 (wr b n x) i = if 64 * n ≤ i ∧ i < 64 * n + 64 then at0 x (i - 64 * n) else at0 b i := by
  unfold wr
  have hl : (List.take (64 * n) b).length = 64 * n := by simp; omega
  rw [at0_append, at0_append, at0_take, at0_drop, hl, hx]
  by_cases h1 : i < 64 * n
  · rw [if_pos h1, if_pos h1, if_neg (by omega)]
  · rw [if_neg h1]
    by_cases h2 : i - 64 * n < 64
    · rw [if_pos h2, if_pos (by omega)]
    · rw [if_neg h2, if_neg (by omega)]
      congr 1; omega
theorem sec_wr_other {P : Nat} {b x : List Int} (h : b.length = 64 * P) (hx : x.length = 64) {n : Nat} (hn : n < P) {m : Nat} (hm : m < P) (e : m ≠ n) : sec (wr b n x) m = sec b m := by
  refine list_ext0 (by rw [sec_len (wr_len h hx hn) hm, sec_len h hm]) fun i hi => ?_
  rw [sec_len (wr_len h hx hn) hm] at hi
  rw [at0_sec hi, at0_sec hi, at0_wr h hx hn, if_neg (by omega)]
theorem ext_sec {P : Nat} {b c : List Int} (h : b.length = 64 * P) (h2 : c.length = 64 * P) (e : ∀ p, p < P → sec b p = sec c p) : b = c := by
  refine list_ext0 (by omega) fun i hi => ?_
  have := congrArg (fun l => at0 l (i % 64)) (e (i / 64) (by omega))
  simp only [at0_sec (show i % 64 < 64 by omega)] at this
  rw [show 64 * (i / 64) + i % 64 = i by omega] at this
  exact this
theorem wr_sec {P : Nat} {b : List Int} (h : b.length = 64 * P) {n : Nat} (hn : n < P) : wr b n (sec b n) = b := by
  refine ext_sec (wr_len h (sec_len h hn) hn) h fun p hp => ?_
  by_cases e : p = n
  · subst e; exact sec_wr_same h (sec_len h hp) hp
  · exact sec_wr_other h (sec_len h hn) hn hp e
theorem wrE_in {b : List Int} {n : Int} (h : 0 ≤ n ∧ n.toNat < b.length / 64) (x : List Int) : wrE b n x = wr b n.toNat x := if_pos h
theorem wrE_out {b : List Int} {n : Int} (h : ¬ (0 ≤ n ∧ n.toNat < b.length / 64)) (x : List Int) : wrE b n x = b := if_neg h
theorem Dsk.wrE {P : Nat} {b x : List Int} (h : Dsk P b) (hx : x.length = 64) (hb : Byt x) (n : Int) : Dsk P (wrE b n x) := by
  unfold Go.Proofs.Ytbinpapgfddafaa.wrE
  split
  · rename_i hn; rw [h.div] at hn; exact h.wr hx hb hn.2
  · exact h
theorem wrE_len {b x : List Int} (hx : x.length = 64) (n : Int) : (wrE b n x).length = b.length := by
  unfold wrE
  split
  · unfold wr; simp; omega
  · rfl
/-- A new disk's bytes. -/
def nw (P : Nat) : List Int := List.replicate (64 * P) 0
theorem dsk_nw {P : Nat} (h0 : 1 ≤ P) (h1 : P ≤ 32) : Dsk P (nw P) := ⟨h0, h1, by simp [nw], byt_zeros _⟩
theorem sec_nw {P p : Nat} (hp : p < P) : sec (nw P) p = nou := by
  unfold sec nw nou
  rw [List.drop_replicate, List.take_replicate]
  congr 1; omega
theorem usd_nw {P p : Nat} (hp : p < P) : usd (nw P) p = false := by simp [usd, sec_nw hp]
/-- The first n sectors are laid. -/
def pre (b : List Int) (P n : Nat) : List Int := b.take (64 * n) ++ List.replicate (64 * (P - n)) 0
theorem pre_zero (b : List Int) (P : Nat) : pre b P 0 = nw P := by simp [pre, nw]
theorem pre_all {b : List Int} {P : Nat} (h : b.length = 64 * P) : pre b P P = b := by simp [pre, List.take_of_length_le, h]
theorem dsk_pre {b : List Int} {P : Nat} (h : Dsk P b) {n : Nat} (hn : n ≤ P) : Dsk P (pre b P n) :=
  ⟨h.lo, h.hi, by have := h.len; simp [pre]; omega, (h.byt.take _).append (byt_zeros _)⟩
theorem at0_pre {b : List Int} {P : Nat} (h : b.length = 64 * P) {n : Nat} (hn : n ≤ P) (i : Nat) : at0 (pre b P n) i = if i < 64 * n then at0 b i else 0 := by
  unfold pre
  have hl : (List.take (64 * n) b).length = 64 * n := by simp; omega
  rw [at0_append, at0_take, hl]
  by_cases h1 : i < 64 * n
  · simp [h1]
  · rw [if_neg h1, if_neg h1]
    unfold at0
    rw [List.getElem?_replicate]
    split <;> rfl
theorem pre_succ {b : List Int} {P : Nat} (h : b.length = 64 * P) {n : Nat} (hn : n < P) : wr (pre b P n) n (sec b n) = pre b P (n + 1) := by
  have hl : ∀ m, m ≤ P → (pre b P m).length = 64 * P := fun m hm => by simp [pre]; omega
  refine list_ext0 (by rw [wr_len (hl n (by omega)) (sec_len h hn) hn, hl (n + 1) (by omega)]) fun i hi => ?_
  rw [at0_wr (hl n (by omega)) (sec_len h hn) hn, at0_pre h (by omega), at0_pre h (by omega)]
  by_cases h1 : 64 * n ≤ i ∧ i < 64 * n + 64
  · rw [if_pos h1, if_pos (by omega), at0_sec (by omega)]
    congr 1; omega
  · rw [if_neg h1]
    by_cases h2 : i < 64 * n
    · rw [if_pos h2, if_pos (by omega)]
    · rw [if_neg h2, if_neg (by omega)]
/-! ### which sectors are used -/
theorem mem_uses {b : List Int} {m p : Nat} : p ∈ uses b m ↔ p < m ∧ usd b p = true := by simp [uses]
theorem uses_succ (b : List Int) (m : Nat) : uses b (m + 1) = uses b m ++ (if usd b m = true then [m] else []) := by
  unfold uses
  rw [List.range_succ, List.filter_append]
  by_cases h : usd b m = true <;> simp [h]
theorem uses_yes {b : List Int} {m : Nat} (h : usd b m = true) : uses b (m + 1) = uses b m ++ [m] := by rw [uses_succ, if_pos h]
theorem uses_no {b : List Int} {m : Nat} (h : usd b m = false) : uses b (m + 1) = uses b m := by rw [uses_succ, if_neg (by simp [h])]; simp
theorem uses_le (b : List Int) (m : Nat) : (uses b m).length ≤ m := by
  unfold uses
  have := List.length_filter_le (usd b) (List.range m)
  simpa using this
def nat2int (l : List Nat) : List Int := l.map fun (n : Nat) => (n : Int)
theorem nat2int_len (l : List Nat) : (nat2int l).length = l.length := by simp [nat2int]
theorem uses_sorted (b : List Int) (m : Nat) : (nat2int (uses b m)).Pairwise (fun x y => x < y) := by
  unfold nat2int uses
  rw [List.pairwise_map]
  exact (List.pairwise_lt_range.filter _).imp (fun h => by omega)
theorem uses_nodup (b : List Int) (m : Nat) : (nat2int (uses b m)).Nodup := (uses_sorted b m).imp (fun h => by omega)
theorem mem_nat2int {l : List Nat} {x : Int} : x ∈ nat2int l ↔ 0 ≤ x ∧ x.toNat ∈ l := by
  unfold nat2int
  rw [List.mem_map]
  constructor
  · rintro ⟨n, hn, rfl⟩; exact ⟨by omega, by simpa using hn⟩
  · rintro ⟨h0, h1⟩; exact ⟨x.toNat, h1, by omega⟩
theorem uses_nw (P : Nat) : ∀ m, m ≤ P → uses (nw P) m = []
  | 0, _ => rfl
  | m + 1, h => by rw [uses_no (usd_nw (by omega)), uses_nw P m (by omega)]
end Go.Proofs.Ytbinpapgfddafaa

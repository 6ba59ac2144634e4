/-
  Plain numbers and lists of layer 2: sets of labels as words, a table as the list of its sets. No program.
-/
import Derived.WalkKit
import Derived.Laws.BitsAllLaws
namespace Go.Proofs.YtafnclkkncokpaaDoor
open Go.RowKit

/-- An integer is a word; a set: below 65536. -/
def W32 (a : Int) : Prop := 0 ≤ a ∧ a < 4294967296
def S16 (a : Int) : Prop := 0 ≤ a ∧ a < 65536
theorem S16.w32 {a : Int} (h : S16 a) : W32 a := by unfold S16 at h; unfold W32; omega
theorem w32_of_wf {a : Int} (h : (Lit.int .u32 a).wf = true) : W32 a := by
  simp [Lit.wf, IntKind.min, IntKind.max, IntKind.signed, IntKind.bits] at h
  unfold W32; omega
theorem wf_of_w32 {a : Int} (h : W32 a) : (Lit.int .u32 a).wf = true := by
  unfold W32 at h
  simp [Lit.wf, IntKind.min, IntKind.max, IntKind.signed, IntKind.bits]; omega
theorem wf_i64 {a : Int} (h0 : -9223372036854775808 ≤ a) (h1 : a ≤ 9223372036854775807) : (Lit.int .i64 a).wf = true := by
  simp [Lit.wf, IntKind.min, IntKind.max, IntKind.signed, IntKind.bits]; omega
theorem i64_of_wf {a : Int} (h : (Lit.int .i64 a).wf = true) : -9223372036854775808 ≤ a ∧ a ≤ 9223372036854775807 := by
  simp [Lit.wf, IntKind.min, IntKind.max, IntKind.signed, IntKind.bits] at h
  omega

/-! ### what either has, bit by bit -/
def orI (a b : Int) : Int := ((a.toNat ||| b.toNat : Nat) : Int)
theorem orI_bits (a b : Int) (ha : W32 a) (hb : W32 b) : bits .or .u32 a b = orI a b := u32_or a b ha.1 ha.2 hb.1 hb.2
theorem orI_s16 {a b : Int} (ha : S16 a) (hb : S16 b) : S16 (orI a b) := by
  unfold S16 at *; unfold orI
  have h : a.toNat ||| b.toNat < 2 ^ 16 := Nat.or_lt_two_pow (by omega) (by omega)
  omega
theorem orI_comm (a b : Int) : orI a b = orI b a := by unfold orI; rw [Nat.or_comm]

/-- Has a set a label? -/
def bitI (a : Int) (n : Nat) : Bool := a.toNat.testBit n
theorem bitI_div {a : Int} (h : 0 ≤ a) (n : Nat) : (a / 2 ^ n % 2 == 1) = bitI a n := by
  obtain ⟨m, rfl⟩ := Int.eq_ofNat_of_zero_le h
  unfold bitI
  rw [Int.toNat_natCast, Nat.testBit_eq_decide_div_mod_eq]
  rw [Bool.eq_iff_iff]
  simp only [beq_iff_eq, decide_eq_true_eq]
  constructor
  · intro e; exact_mod_cast e
  · intro e; exact_mod_cast e
theorem bitI_high {a : Int} (h : S16 a) (n : Nat) (hn : 16 ≤ n) : bitI a n = false := by
  unfold S16 at h
  unfold bitI
  exact Nat.testBit_lt_two_pow (Nat.lt_of_lt_of_le (show a.toNat < 2 ^ 16 by omega) (Nat.pow_le_pow_right (by decide) hn))
theorem bitI_or (a b : Int) (n : Nat) : bitI (orI a b) n = (bitI a n || bitI b n) := by
  unfold bitI orI; rw [Int.toNat_natCast, Nat.testBit_or]

/-- The first k bits of what either has. -/
def orS (a b : Int) (k : Nat) : Int := (((orI a b).toNat % 2 ^ k : Nat) : Int)
theorem orS_zero (a b : Int) : orS a b 0 = 0 := by unfold orS; simp [Nat.mod_one]
theorem mod_succ (x k : Nat) : x % 2 ^ (k + 1) = x % 2 ^ k + 2 ^ k * (x / 2 ^ k % 2) := by
  rw [Nat.pow_succ, Nat.mod_mul]
theorem orS_succ (a b : Int) (k : Nat) : orS a b (k + 1) = orS a b k + (if (bitI a k || bitI b k) = true then 2 ^ k else 0) := by
  rw [← bitI_or]
  unfold orS bitI
  rw [mod_succ, Nat.testBit_eq_decide_div_mod_eq]
  by_cases h : (orI a b).toNat / 2 ^ k % 2 = 1
  · simp [h]
  · have h0 : (orI a b).toNat / 2 ^ k % 2 = 0 := by omega
    simp [h0]
theorem orS_yes (a b : Int) (k : Nat) (h : (bitI a k || bitI b k) = true) : orS a b (k + 1) = orS a b k + 2 ^ k := by rw [orS_succ, if_pos h]
theorem orS_no (a b : Int) (k : Nat) (h : (bitI a k || bitI b k) = false) : orS a b (k + 1) = orS a b k := by rw [orS_succ, if_neg (by simp [h])]; omega
theorem orS_end {a b : Int} (ha : S16 a) (hb : S16 b) : orS a b 16 = orI a b := by
  have h := orI_s16 ha hb
  unfold S16 at h
  unfold orS
  rw [Nat.mod_eq_of_lt (by omega)]
  omega
theorem orS_le (a b : Int) (k : Nat) (hk : k ≤ 16) : 0 ≤ orS a b k ∧ orS a b k < 65536 := by
  unfold orS
  have h1 := Nat.mod_lt (orI a b).toNat (Nat.two_pow_pos k)
  have h2 : 2 ^ k ≤ 2 ^ 16 := Nat.pow_le_pow_right (by decide) hk
  have h3 : (2 : Nat) ^ 16 = 65536 := rfl
  omega

/-! ### the place of a set -/
def pos : List Int → Int → Nat
  | [], _ => 0
  | y :: r, x => if y = x then 0 else pos r x + 1
theorem pos_le : ∀ (ss : List Int) (x : Int), pos ss x ≤ ss.length
  | [], _ => Nat.le_refl _
  | y :: r, x => by
    unfold pos
    have := pos_le r x
    split <;> simp <;> omega
theorem pos_lt : ∀ {ss : List Int} {x : Int}, x ∈ ss → pos ss x < ss.length
  | y :: r, x, h => by
    unfold pos
    split
    · simp
    · rename_i hne
      have := pos_lt (ss := r) (x := x) (by
        rcases List.mem_cons.1 h with e | h'
        · exact absurd e.symm hne
        · exact h')
      simp; omega
theorem pos_get : ∀ {ss : List Int} {x : Int}, x ∈ ss → ss[pos ss x]? = some x
  | y :: r, x, h => by
    unfold pos
    split
    · rename_i e; simp [e]
    · rename_i hne
      have := pos_get (ss := r) (x := x) (by
        rcases List.mem_cons.1 h with e | h'
        · exact absurd e.symm hne
        · exact h')
      simpa using this
theorem pos_first : ∀ {ss : List Int} {x : Int} {j : Nat}, j < pos ss x → ss[j]? ≠ some x
  | [], x, j, h => by simp
  | y :: r, x, j, h => by
    unfold pos at h
    split at h
    · omega
    · rename_i hne
      cases j with
      | zero => simpa using hne
      | succ j => simpa using pos_first (ss := r) (x := x) (j := j) (by omega)
/-- Of sets that differ each one's place is the place. -/
theorem pos_of_get {ss : List Int} (hn : ss.Nodup) {x : Int} {i : Nat} (h : ss[i]? = some x) : pos ss x = i := by
  have hm : x ∈ ss := List.mem_of_getElem? h
  have h1 := pos_get hm
  have hl := pos_lt hm
  have hi : i < ss.length := (List.getElem?_eq_some_iff.1 h).1
  have e1 := (List.getElem?_eq_some_iff.1 h1).2
  have e2 := (List.getElem?_eq_some_iff.1 h).2
  exact (List.getElem_inj (h₀ := hl) (h₁ := hi) hn).1 (by rw [e1, e2])
theorem pos_snoc_old {ss : List Int} {x y : Int} (h : x ∈ ss) : pos (ss ++ [y]) x = pos ss x := by
  induction ss with
  | nil => cases h
  | cons z r ih =>
    simp only [List.cons_append, pos]
    split
    · rfl
    · rename_i hne
      rw [ih (by
        rcases List.mem_cons.1 h with e | h'
        · exact absurd e.symm hne
        · exact h')]
theorem pos_snoc_new {ss : List Int} {x : Int} (h : x ∉ ss) : pos (ss ++ [x]) x = ss.length := by
  induction ss with
  | nil => simp [pos]
  | cons z r ih =>
    simp only [List.mem_cons, not_or] at h
    simp only [List.cons_append, pos]
    rw [if_neg (fun e => h.1 e.symm), ih h.2]
    simp

/-! ### a table's sets -/
structure Sets (most : Int) (ss : List Int) : Prop where
  pos : 0 < ss.length
  len : (ss.length : Int) ≤ most
  most : most ≤ 65536
  head : ss[0]? = some 0
  apart : ss.Nodup
  s16 : ∀ x ∈ ss, S16 x
theorem sets_new {most : Int} (h0 : 1 ≤ most) (h1 : most ≤ 65536) : Sets most [0] :=
  ⟨by simp, by simpa using h0, h1, rfl, by simp, by simp [S16]⟩
theorem Sets.at_ {most : Int} {ss : List Int} (h : Sets most ss) {k : Nat} (hk : k < ss.length) : S16 (ss[k]?.getD 0) := by
  rw [List.getElem?_eq_getElem hk]
  exact h.s16 _ (List.getElem_mem hk)
theorem Sets.snoc {most : Int} {ss : List Int} (h : Sets most ss) {x : Int} (hx : S16 x) (hn : x ∉ ss) (hl : (ss.length : Int) < most) : Sets most (ss ++ [x]) := by
  refine ⟨by simp, by simp; omega, h.most, ?_, ?_, ?_⟩
  · rw [List.getElem?_append_left h.pos]; exact h.head
  · rw [List.nodup_append]
    exact ⟨h.apart, by simp, fun a ha b hb e => by simp at hb; subst e; subst hb; exact hn ha⟩
  · intro y hy
    rcases List.mem_append.1 hy with h' | h'
    · exact h.s16 y h'
    · simp at h'; subst h'; exact hx

/-- What Keep gives: the sets behind it, the number, the error. -/
def keepR (most : Int) (ss : List Int) (x : Int) : List Int × Int × Int :=
  if 65536 ≤ x then (ss, 0, 2) else if x ∈ ss then (ss, (pos ss x : Int), 0) else if most ≤ (ss.length : Int) then (ss, 0, 120) else (ss ++ [x], (ss.length : Int), 0)
theorem keepR_big {most : Int} {ss : List Int} {x : Int} (h : 65536 ≤ x) : keepR most ss x = (ss, 0, 2) := by unfold keepR; rw [if_pos h]
theorem keepR_old {most : Int} {ss : List Int} {x : Int} (h : x < 65536) (hm : x ∈ ss) : keepR most ss x = (ss, (pos ss x : Int), 0) := by unfold keepR; rw [if_neg (by omega), if_pos hm]
theorem keepR_full {most : Int} {ss : List Int} {x : Int} (h : x < 65536) (hm : x ∉ ss) (hf : most ≤ (ss.length : Int)) : keepR most ss x = (ss, 0, 120) := by unfold keepR; rw [if_neg (by omega), if_neg hm, if_pos hf]
theorem keepR_new {most : Int} {ss : List Int} {x : Int} (h : x < 65536) (hm : x ∉ ss) (hf : (ss.length : Int) < most) : keepR most ss x = (ss ++ [x], (ss.length : Int), 0) := by unfold keepR; rw [if_neg (by omega), if_neg hm, if_neg (by omega)]
theorem Sets.keep {most : Int} {ss : List Int} (h : Sets most ss) {x : Int} (hx : 0 ≤ x) : Sets most (keepR most ss x).1 := by
  unfold keepR
  split
  · exact h
  · split
    · exact h
    · split
      · exact h
      · exact h.snoc ⟨hx, by omega⟩ ‹_› (by omega)
/-- Where Keep is no error: the set has that number, the others theirs. -/
theorem keepR_ok {most : Int} {ss : List Int} (h : Sets most ss) {x : Int} (hx : S16 x) (he : (keepR most ss x).2.2 = 0) :
    ∃ n : Nat, (keepR most ss x).2.1 = (n : Int) ∧ n < (keepR most ss x).1.length ∧ (keepR most ss x).1[n]? = some x ∧ ss.length ≤ (keepR most ss x).1.length ∧ ∀ i, i < ss.length → (keepR most ss x).1[i]? = ss[i]? := by
  by_cases hm : x ∈ ss
  · rw [keepR_old hx.2 hm]
    exact ⟨pos ss x, rfl, pos_lt hm, pos_get hm, Nat.le_refl _, fun _ _ => rfl⟩
  · by_cases hf : most ≤ (ss.length : Int)
    · rw [keepR_full hx.2 hm hf] at he; simp at he
    · rw [keepR_new hx.2 hm (by omega)]
      exact ⟨ss.length, rfl, by simp, by simp, by simp, fun i hi => by simp [List.getElem?_append_left hi]⟩
theorem keepR_err {most : Int} {ss : List Int} {x : Int} (hx : S16 x) (he : (keepR most ss x).2.2 ≠ 0) : keepR most ss x = (ss, 0, 120) := by
  by_cases hm : x ∈ ss
  · rw [keepR_old hx.2 hm] at he; simp at he
  · by_cases hf : most ≤ (ss.length : Int)
    · exact keepR_full hx.2 hm hf
    · rw [keepR_new hx.2 hm (by omega)] at he; simp at he
/-- What Join gives. -/
def joinR (most : Int) (ss : List Int) (a b : Int) : List Int × Int × Int :=
  if a < 0 ∨ (ss.length : Int) ≤ a ∨ b < 0 ∨ (ss.length : Int) ≤ b then (ss, 0, 5) else keepR most ss (orI (ss[a.toNat]?.getD 0) (ss[b.toNat]?.getD 0))
theorem joinR_none {most : Int} {ss : List Int} {a b : Int} (h : a < 0 ∨ (ss.length : Int) ≤ a ∨ b < 0 ∨ (ss.length : Int) ≤ b) : joinR most ss a b = (ss, 0, 5) := by unfold joinR; rw [if_pos h]
theorem joinR_some {most : Int} {ss : List Int} {i j : Nat} (hi : i < ss.length) (hj : j < ss.length) : joinR most ss (i : Int) (j : Int) = keepR most ss (orI (ss[i]?.getD 0) (ss[j]?.getD 0)) := by
  unfold joinR
  rw [if_neg (by omega)]
  simp
theorem joinR_comm (most : Int) (ss : List Int) (a b : Int) : joinR most ss a b = joinR most ss b a := by
  by_cases h : a < 0 ∨ (ss.length : Int) ≤ a ∨ b < 0 ∨ (ss.length : Int) ≤ b
  · rw [joinR_none h, joinR_none (by omega)]
  · unfold joinR
    rw [if_neg h, if_neg (by omega), orI_comm]
theorem Sets.join {most : Int} {ss : List Int} (h : Sets most ss) (a b : Int) : Sets most (joinR most ss a b).1 := by
  unfold joinR
  split
  · exact h
  · rename_i hc
    refine h.keep ?_
    exact (orI_s16 (h.at_ (by omega)) (h.at_ (by omega))).1
end Go.Proofs.YtafnclkkncokpaaDoor

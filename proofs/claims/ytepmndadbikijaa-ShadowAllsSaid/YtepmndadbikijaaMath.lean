/-
  Plain numbers and lists of layer 3: a shadow as the list of its bytes' sets; its pages; how many of a page's bytes have sets. No program.
-/
import Derived.WalkKit
import Derived.Laws.BitsAllLaws
namespace Go.Proofs.Ytepmndadbikijaa
open Go.RowKit

def W32 (a : Int) : Prop := 0 ≤ a ∧ a < 4294967296
def S16 (a : Int) : Prop := 0 ≤ a ∧ a < 65536
theorem S16.w32 {a : Int} (h : S16 a) : W32 a := by unfold S16 at h; unfold W32; omega
theorem w32_of_wf {a : Int} (h : (Lit.int .u32 a).wf = true) : W32 a := by
  simp [Lit.wf, IntKind.min, IntKind.max, IntKind.signed, IntKind.bits] at h
  unfold W32; omega
theorem wf_of_w32 {a : Int} (h : W32 a) : (Lit.int .u32 a).wf = true := by
  unfold W32 at h
  simp [Lit.wf, IntKind.min, IntKind.max, IntKind.signed, IntKind.bits]; omega
/-- An int. -/
def I64 (a : Int) : Prop := -9223372036854775808 ≤ a ∧ a ≤ 9223372036854775807
theorem wf_i64 {a : Int} (h0 : -9223372036854775808 ≤ a) (h1 : a ≤ 9223372036854775807) : (Lit.int .i64 a).wf = true := by
  simp [Lit.wf, IntKind.min, IntKind.max, IntKind.signed, IntKind.bits]; omega
theorem i64_of_wf {a : Int} (h : (Lit.int .i64 a).wf = true) : I64 a := by
  simp [Lit.wf, IntKind.min, IntKind.max, IntKind.signed, IntKind.bits] at h
  unfold I64; omega

/-! ### what either has -/
def orI (a b : Int) : Int := ((a.toNat ||| b.toNat : Nat) : Int)
theorem orI_bits (a b : Int) (ha : W32 a) (hb : W32 b) : bits .or .u32 a b = orI a b := u32_or a b ha.1 ha.2 hb.1 hb.2
theorem orI_s16 {a b : Int} (ha : S16 a) (hb : S16 b) : S16 (orI a b) := by
  unfold S16 at *; unfold orI
  have h : a.toNat ||| b.toNat < 2 ^ 16 := Nat.or_lt_two_pow (by omega) (by omega)
  omega
def bitI (a : Int) (n : Nat) : Bool := a.toNat.testBit n
theorem bitI_div {a : Int} (h : 0 ≤ a) (n : Nat) : (a / 2 ^ n % 2 == 1) = bitI a n := by
  obtain ⟨m, rfl⟩ := Int.eq_ofNat_of_zero_le h
  unfold bitI
  rw [Int.toNat_natCast, Nat.testBit_eq_decide_div_mod_eq, Bool.eq_iff_iff]
  simp only [beq_iff_eq, decide_eq_true_eq]
  constructor
  · intro e; exact_mod_cast e
  · intro e; exact_mod_cast e
theorem bitI_or (a b : Int) (n : Nat) : bitI (orI a b) n = (bitI a n || bitI b n) := by
  unfold bitI orI; rw [Int.toNat_natCast, Nat.testBit_or]
def orS (a b : Int) (k : Nat) : Int := (((orI a b).toNat % 2 ^ k : Nat) : Int)
theorem orS_zero (a b : Int) : orS a b 0 = 0 := by unfold orS; simp [Nat.mod_one]
theorem mod_succ (x k : Nat) : x % 2 ^ (k + 1) = x % 2 ^ k + 2 ^ k * (x / 2 ^ k % 2) := by
  rw [Nat.pow_succ, Nat.mod_mul]
theorem orS_succ (a b : Int) (k : Nat) : orS a b (k + 1) = orS a b k + (if (bitI a k || bitI b k) = true then 2 ^ k else 0) := by
  rw [← bitI_or]
  unfold orS bitI
  rw [mod_succ, Nat.testBit_eq_decide_div_mod_eq]
  by_cases h : (orI a b).toNat / 2 ^ k % 2 = 1
  · simp [h]
  · have h0 : (orI a b).toNat / 2 ^ k % 2 = 0 := by omega
    simp [h0]
theorem orS_yes (a b : Int) (k : Nat) (h : (bitI a k || bitI b k) = true) : orS a b (k + 1) = orS a b k + 2 ^ k := by rw [orS_succ, if_pos h]
theorem orS_no (a b : Int) (k : Nat) (h : (bitI a k || bitI b k) = false) : orS a b (k + 1) = orS a b k := by rw [orS_succ, if_neg (by simp [h])]; omega
theorem orS_end {a b : Int} (ha : S16 a) (hb : S16 b) : orS a b 16 = orI a b := by
  have h := orI_s16 ha hb
  unfold S16 at h
  unfold orS
  rw [Nat.mod_eq_of_lt (by omega)]
  omega
theorem orS_le (a b : Int) (k : Nat) (hk : k ≤ 16) : 0 ≤ orS a b k ∧ orS a b k < 65536 := by
  unfold orS
  have h1 := Nat.mod_lt (orI a b).toNat (Nat.two_pow_pos k)
  have h2 : 2 ^ k ≤ 2 ^ 16 := Nat.pow_le_pow_right (by decide) hk
  have h3 : (2 : Nat) ^ 16 = 65536 := rfl
  omega

/-! ### the sets of the bytes -/
/-- A byte's set. -/
def at0 (l : List Int) (i : Nat) : Int := l[i]?.getD 0
def nz (l : List Int) (i : Nat) : Bool := at0 l i != 0
def pg (l : List Int) (p : Nat) : List Int := (l.drop (64 * p)).take 64
def cnt (l : List Int) (p : Nat) : Nat := (pg l p).countP (fun x => x != 0)
def priv (l : List Int) (p : Nat) : Bool := cnt l p != 0
/-- The private pages below m, and the bytes below m that have sets. -/
def privs (l : List Int) (m : Nat) : List Nat := (List.range m).filter (priv l)
def els (l : List Int) (m : Nat) : List Nat := (List.range m).filter (nz l)
structure Bytes (P : Nat) (l : List Int) : Prop where
  lo : 1 ≤ P
  hi : P ≤ 32
  len : l.length = 64 * P
  s16 : ∀ x ∈ l, S16 x

theorem pg_get (l : List Int) (p k : Nat) (hk : k < 64) : (pg l p)[k]? = l[64 * p + k]? := by
  unfold pg
  rw [List.getElem?_take_of_lt hk, List.getElem?_drop]
theorem pg_len {P : Nat} {l : List Int} (h : l.length = 64 * P) {p : Nat} (hp : p < P) : (pg l p).length = 64 := by
  unfold pg; simp [h]; omega
theorem at_pg {P : Nat} {l : List Int} (h : l.length = 64 * P) {p k : Nat} (hp : p < P) (hk : k < 64) : (pg l p)[k]? = some (at0 l (64 * p + k)) := by
  rw [pg_get l p k hk]
  unfold at0
  rw [List.getElem?_eq_getElem (by omega)]; simp
theorem Bytes.at_ {P : Nat} {l : List Int} (h : Bytes P l) (i : Nat) : S16 (at0 l i) := by
  unfold at0
  by_cases hi : i < l.length
  · rw [List.getElem?_eq_getElem hi]; exact h.s16 _ (List.getElem_mem hi)
  · rw [List.getElem?_eq_none (by omega)]; simp [S16]
theorem cnt_le (l : List Int) (p : Nat) : cnt l p ≤ 64 := by
  unfold cnt
  refine Nat.le_trans List.countP_le_length ?_
  unfold pg; simp; omega
theorem cnt_none {P : Nat} {l : List Int} (h : l.length = 64 * P) {p : Nat} (hp : P ≤ p) : cnt l p = 0 := by
  unfold cnt pg
  rw [List.drop_eq_nil_of_le (by omega)]; rfl
theorem priv_lt {P : Nat} {l : List Int} (h : l.length = 64 * P) {p : Nat} (hp : priv l p = true) : p < P := by
  rcases Nat.lt_or_ge p P with h1 | h1
  · exact h1
  · simp [priv, cnt_none h h1] at hp
theorem not_priv {P : Nat} {l : List Int} (h : l.length = 64 * P) {p : Nat} (hp : priv l p = false) {k : Nat} (hk : k < 64) : at0 l (64 * p + k) = 0 := by
  by_cases hP : p < P
  · have h0 : cnt l p = 0 := by simpa [priv] using hp
    unfold cnt at h0
    rw [List.countP_eq_zero] at h0
    have hm : at0 l (64 * p + k) ∈ pg l p := List.mem_of_getElem? (at_pg h hP hk)
    simpa using h0 _ hm
  · unfold at0; rw [List.getElem?_eq_none (by omega)]; rfl
theorem is_priv {P : Nat} {l : List Int} (h : l.length = 64 * P) {p k : Nat} (hk : k < 64) (hz : nz l (64 * p + k) = true) : priv l p = true := by
  cases hp : priv l p with
  | true => rfl
  | false => simp [nz, not_priv h hp hk] at hz
theorem priv_has {P : Nat} {l : List Int} (h : l.length = 64 * P) {p : Nat} (hp : priv l p = true) : ∃ k, k < 64 ∧ nz l (64 * p + k) = true := by
  have hP := priv_lt h hp
  have h0 : cnt l p ≠ 0 := by simpa [priv] using hp
  have h1 : 0 < cnt l p := by omega
  unfold cnt at h1
  rw [List.countP_pos_iff] at h1
  obtain ⟨x, hx, hz⟩ := h1
  obtain ⟨k, hk, e⟩ := List.getElem_of_mem hx
  rw [pg_len h hP] at hk
  have h2 := at_pg h hP hk
  rw [List.getElem?_eq_getElem (by rw [pg_len h hP]; exact hk), e] at h2
  refine ⟨k, hk, ?_⟩
  simp at h2
  simpa [nz, ← h2] using hz

/-! ### one byte's set -/
theorem at_set {l : List Int} {i : Nat} (hi : i < l.length) (x : Int) (j : Nat) : at0 (l.set i x) j = if j = i then x else at0 l j := by
  unfold at0
  by_cases h : j = i
  · subst h; simp [hi]
  · rw [if_neg h, List.getElem?_set_ne (by omega)]
theorem pg_set_same {P : Nat} {l : List Int} (h : l.length = 64 * P) {p k : Nat} (hp : p < P) (hk : k < 64) (x : Int) : pg (l.set (64 * p + k) x) p = (pg l p).set k x := by
  have h2 : (l.set (64 * p + k) x).length = 64 * P := by simpa using h
  refine List.ext_getElem? fun j => ?_
  by_cases hj : j < 64
  · rw [at_pg h2 hp hj, at_set (by omega), List.getElem?_set]
    by_cases e : k = j
    · subst e
      simp [pg_len h hp, hk]
    · rw [if_neg (by omega), if_neg e, at_pg h hp hj]
  · rw [List.getElem?_eq_none (by rw [pg_len h2 hp]; omega), List.getElem?_eq_none (by simp [pg_len h hp]; omega)]
theorem pg_set_other {P : Nat} {l : List Int} (h : l.length = 64 * P) {p q k : Nat} (hp : p < P) (hk : k < 64) (hq : q ≠ p) (x : Int) : pg (l.set (64 * p + k) x) q = pg l q := by
  by_cases hQ : q < P
  · have h2 : (l.set (64 * p + k) x).length = 64 * P := by simpa using h
    refine List.ext_getElem? fun j => ?_
    by_cases hj : j < 64
    · rw [at_pg h2 hQ hj, at_pg h hQ hj, at_set (by omega), if_neg (by omega)]
    · rw [List.getElem?_eq_none (by rw [pg_len h2 hQ]; omega), List.getElem?_eq_none (by rw [pg_len h hQ]; omega)]
  · unfold pg
    rw [List.drop_eq_nil_of_le (by simp; omega), List.drop_eq_nil_of_le (by omega)]
theorem cnt_set_same {P : Nat} {l : List Int} (h : l.length = 64 * P) {p k : Nat} (hp : p < P) (hk : k < 64) (x : Int) :
    cnt (l.set (64 * p + k) x) p + (if at0 l (64 * p + k) ≠ 0 then 1 else 0) = cnt l p + (if x ≠ 0 then 1 else 0) := by
  unfold cnt
  rw [pg_set_same h hp hk]
  have hl := pg_len h hp
  have hg := at_pg h hp hk
  rw [List.getElem?_eq_getElem (by omega)] at hg
  simp at hg
  rw [List.countP_set (by omega), hg]
  have : (if at0 l (64 * p + k) ≠ 0 then 1 else 0) ≤ (pg l p).countP (fun x => x != 0) := by
    split
    · rename_i hz
      have : 0 < (pg l p).countP (fun x => x != 0) := List.countP_pos_iff.2 ⟨_, List.mem_of_getElem? (at_pg h hp hk), by simpa using hz⟩
      omega
    · omega
  generalize (pg l p).countP (fun x => x != 0) = c at this ⊢
  by_cases ha : at0 l (64 * p + k) = 0 <;> by_cases hx : x = 0 <;> simp [ha, hx] at this ⊢ <;> omega
theorem cnt_set_other {P : Nat} {l : List Int} (h : l.length = 64 * P) {p q k : Nat} (hp : p < P) (hk : k < 64) (hq : q ≠ p) (x : Int) : cnt (l.set (64 * p + k) x) q = cnt l q := by
  unfold cnt; rw [pg_set_other h hp hk hq]
theorem Bytes.set {P : Nat} {l : List Int} (h : Bytes P l) (i : Nat) {x : Int} (hx : S16 x) : Bytes P (l.set i x) :=
  ⟨h.lo, h.hi, by simpa using h.len, fun y hy => by
    rcases List.mem_or_eq_of_mem_set hy with h1 | h1
    · exact h.s16 y h1
    · rw [h1]; exact hx⟩

/-- How many pages are private, where one page turned. -/
theorem filter_turn (f g : Nat → Bool) (p : Nat) (h : ∀ q, q ≠ p → f q = g q) : ∀ m, ((List.range m).filter f).length + (if p < m ∧ g p = true then 1 else 0) = ((List.range m).filter g).length + (if p < m ∧ f p = true then 1 else 0)
  | 0 => by simp
  | m + 1 => by
    have ih := filter_turn f g p h m
    rw [List.range_succ, List.filter_append, List.filter_append, List.length_append, List.length_append]
    by_cases e : p = m
    · subst e
      cases hf : f p <;> cases hg : g p <;> simp [hf, hg] at ih ⊢ <;> omega
    · have e2 := h m (fun q => e q.symm)
      have e3 : (p < m + 1) ↔ (p < m) := by omega
      cases hf : g m <;> simp [e2, hf, e3] at ih ⊢ <;> omega
theorem privs_set {P : Nat} {l : List Int} (h : l.length = 64 * P) {p k : Nat} (hp : p < P) (hk : k < 64) (x : Int) :
    (privs (l.set (64 * p + k) x) P).length + (if priv l p = true then 1 else 0) = (privs l P).length + (if priv (l.set (64 * p + k) x) p = true then 1 else 0) := by
  have := filter_turn (priv (l.set (64 * p + k) x)) (priv l) p (fun q hq => by unfold priv; rw [cnt_set_other h hp hk hq]) P
  simpa [privs, hp] using this

/-! ### n bytes -/
def fillL (l : List Int) (a : Nat) (x : Int) : Nat → List Int
  | 0 => l
  | k + 1 => (fillL l a x k).set (a + k) x
theorem fill_len (l : List Int) (a : Nat) (x : Int) : ∀ k, (fillL l a x k).length = l.length
  | 0 => rfl
  | k + 1 => by simp [fillL, fill_len l a x k]
theorem Bytes.fill {P : Nat} {l : List Int} (h : Bytes P l) (a : Nat) {x : Int} (hx : S16 x) : ∀ k, Bytes P (fillL l a x k)
  | 0 => h
  | k + 1 => (Bytes.fill h a hx k).set _ hx
theorem at_fill (l : List Int) (a : Nat) (x : Int) (j : Nat) : ∀ k, a + k ≤ l.length → at0 (fillL l a x k) j = if a ≤ j ∧ j < a + k then x else at0 l j
  | 0, _ => by simp [fillL]; omega
  | k + 1, h => by
    rw [fillL, at_set (by rw [fill_len]; omega), at_fill l a x j k (by omega)]
    by_cases e : j = a + k
    · rw [if_pos e, if_pos (by omega)]
    · rw [if_neg e]
      by_cases e2 : a ≤ j ∧ j < a + k
      · rw [if_pos e2, if_pos (by omega)]
      · rw [if_neg e2, if_neg (by omega)]
def unionL (l : List Int) (a : Nat) : Nat → Int
  | 0 => 0
  | k + 1 => orI (unionL l a k) (at0 l (a + k))
theorem union_s16 {P : Nat} {l : List Int} (h : Bytes P l) (a : Nat) : ∀ k, S16 (unionL l a k)
  | 0 => by simp [unionL, S16]
  | k + 1 => orI_s16 (union_s16 h a k) (h.at_ _)
theorem ext_at {P : Nat} {l m : List Int} (h : l.length = 64 * P) (h2 : m.length = 64 * P) (e : ∀ i, i < 64 * P → at0 l i = at0 m i) : l = m := by
  refine List.ext_getElem? fun i => ?_
  by_cases hi : i < 64 * P
  · have := e i hi
    unfold at0 at this
    rw [List.getElem?_eq_getElem (by omega), List.getElem?_eq_getElem (by omega)] at this ⊢
    simpa using this
  · rw [List.getElem?_eq_none (by omega), List.getElem?_eq_none (by omega)]

/-! ### All: page by page -/
def pgEls (l : List Int) (p : Nat) : Nat → List Nat
  | 0 => []
  | k + 1 => if nz l (64 * p + k) = true then pgEls l p k ++ [64 * p + k] else pgEls l p k
theorem pgEls_yes {l : List Int} {p k : Nat} (h : nz l (64 * p + k) = true) : pgEls l p (k + 1) = pgEls l p k ++ [64 * p + k] := by simp [pgEls, h]
theorem pgEls_no {l : List Int} {p k : Nat} (h : nz l (64 * p + k) = false) : pgEls l p (k + 1) = pgEls l p k := by simp [pgEls, h]
theorem els_succ (l : List Int) (m : Nat) : els l (m + 1) = els l m ++ (if nz l m = true then [m] else []) := by
  unfold els
  rw [List.range_succ, List.filter_append]
  cases h : nz l m <;> simp [h]
theorem els_page (l : List Int) (p : Nat) : ∀ k, els l (64 * p + k) = els l (64 * p) ++ pgEls l p k
  | 0 => by simp [pgEls]
  | k + 1 => by
    rw [show 64 * p + (k + 1) = (64 * p + k) + 1 by omega, els_succ, els_page l p k]
    cases h : nz l (64 * p + k) <;> simp [pgEls, h]
theorem pgEls_none {P : Nat} {l : List Int} (h : l.length = 64 * P) {p : Nat} (hp : priv l p = false) : ∀ k, k ≤ 64 → pgEls l p k = []
  | 0, _ => rfl
  | k + 1, hk => by
    rw [pgEls_no (by simp [nz, not_priv h hp (show k < 64 by omega)]), pgEls_none h hp k (by omega)]
def flat (l : List Int) (ps : List Nat) : List Nat := ps.flatMap fun p => pgEls l p 64
theorem privs_succ (l : List Int) (m : Nat) : privs l (m + 1) = privs l m ++ (if priv l m = true then [m] else []) := by
  unfold privs
  rw [List.range_succ, List.filter_append]
  cases h : priv l m <;> simp [h]
theorem flat_privs {P : Nat} {l : List Int} (h : l.length = 64 * P) : ∀ m, flat l (privs l m) = els l (64 * m)
  | 0 => rfl
  | m + 1 => by
    rw [show 64 * (m + 1) = 64 * m + 64 by omega, els_page, privs_succ, ← flat_privs h m]
    unfold flat
    rw [List.flatMap_append]
    cases hp : priv l m with
    | true => simp
    | false => simp [pgEls_none h hp 64 (Nat.le_refl _)]
theorem pgEls_split (l : List Int) (p k : Nat) : ∀ d, ∃ r, pgEls l p (k + d) = pgEls l p k ++ r
  | 0 => ⟨[], by simp⟩
  | d + 1 => by
    obtain ⟨r, hr⟩ := pgEls_split l p k d
    rw [show k + (d + 1) = (k + d) + 1 by omega]
    cases h : nz l (64 * p + (k + d)) with
    | true => exact ⟨r ++ [64 * p + (k + d)], by rw [pgEls_yes h, hr, List.append_assoc]⟩
    | false => exact ⟨r, by rw [pgEls_no h, hr]⟩
/-- A byte of a page that All comes to. -/
theorem flat_split {l : List Int} {full pre rest : List Nat} {p k : Nat} (hf : full = pre ++ p :: rest) (hk : k < 64) (hz : nz l (64 * p + k) = true) : ∃ r, flat l full = (flat l pre ++ pgEls l p k) ++ (64 * p + k) :: r := by
  obtain ⟨r, hr⟩ := pgEls_split l p (k + 1) (63 - k)
  rw [show k + 1 + (63 - k) = 64 by omega, pgEls_yes hz] at hr
  refine ⟨r ++ flat l rest, ?_⟩
  rw [hf]
  unfold flat
  simp [List.flatMap_append, hr]
theorem flat_part {l : List Int} {full pre rest : List Nat} {p k : Nat} (hf : full = pre ++ p :: rest) (hk : k ≤ 64) : ∃ r, flat l full = (flat l pre ++ pgEls l p k) ++ r := by
  obtain ⟨r, hr⟩ := pgEls_split l p k (64 - k)
  rw [show k + (64 - k) = 64 by omega] at hr
  refine ⟨r ++ flat l rest, ?_⟩
  rw [hf]
  unfold flat
  simp [List.flatMap_append, hr]
theorem flat_snoc (l : List Int) (pre : List Nat) (p : Nat) : flat l (pre ++ [p]) = flat l pre ++ pgEls l p 64 := by unfold flat; simp [List.flatMap_append]
theorem mem_privs {l : List Int} {m p : Nat} : p ∈ privs l m ↔ p < m ∧ priv l p = true := by simp [privs]
theorem mem_els {l : List Int} {m i : Nat} : i ∈ els l m ↔ i < m ∧ nz l i = true := by simp [els]
theorem mem_mid {full pre rest : List Nat} {x : Nat} (h : full = pre ++ x :: rest) : x ∈ full := by rw [h]; simp
end Go.Proofs.Ytepmndadbikijaa

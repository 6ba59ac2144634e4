/-
  Plain numbers and lists of layer 3: a shadow as the list of its bytes' sets; its pages; how many of a page's bytes have sets. No program. Layer 3: what a world holds where a shadow lies: its block, its map of private pages, the pages' blocks; which blocks are a shadow's own. Layer 3: the small functions of package shadow: none, Size, has, refusal, page, Pages, Private, New: walks. Layer 3: what some bytes have together: Union and Get of package shadow, over the closure that each hands bytes to: walks. Layer 3: the iterator of the private pages of package shadow: the list that it gives. Layer 3: count of package shadow: how many bytes of a page have sets: walks. Layer 3: put of package shadow: a byte's set, its page made private or shared again: what the world holds behind it, and the walks. Layer 3: put of package shadow: walks.
-/
import Derived.WalkKit
import Derived.Laws.BitsAllLaws
import Derived.Test.YtiohlmccnllklaaGreatDoorRows
import Derived.Below
import Derived.Maps.Ext
import Derived.Maps.OwnSet
import Derived.Maps.RangeWalk
import Derived.Laws.NewBlocks
import Derived.Deep.Draws
import Derived.WalkSpells
import Derived.WalkLawsBesides
import Derived.Lib.Hide
import Derived.StillTailTactics
import Derived.RegionTactic
import Derived.RangeFuncNested
import Derived.RangeFuncBound
import Derived.RangeFuncCalls
import Derived.RangeFuncLeaves
import Derived.RangeFuncBox
import Derived.Shelf.Abstract
import Derived.Shelf.RegionOpen
import Derived.OwnWalkIn
import Derived.TacticsInMore
import Derived.LoopNIn
import Derived.LoopIn
import Derived.Test.YtiohlmccnllklaaGreatDoorH02
import Derived.ChangeAlike
set_option linter.unusedVariables false
set_option linter.unusedSimpArgs false
namespace Go.Proofs.YtiohlmccnllklaaGreatDoor.L3
open Go.RowKit
set_option maxRecDepth 100000

def W32 (a : Int) : Prop := 0 ≤ a ∧ a < 4294967296
def S16 (a : Int) : Prop := 0 ≤ a ∧ a < 65536
theorem S16.w32 {a : Int} (h : S16 a) : W32 a := by unfold S16 at h; unfold W32; omega
theorem w32_of_wf {a : Int} (h : (Lit.int .u32 a).wf = true) : W32 a := by
  simp [Lit.wf, IntKind.min, IntKind.max, IntKind.signed, IntKind.bits] at h
  unfold W32; omega
theorem wf_of_w32 {a : Int} (h : W32 a) : (Lit.int .u32 a).wf = true := by
  unfold W32 at h
  simp [Lit.wf, IntKind.min, IntKind.max, IntKind.signed, IntKind.bits]; omega
/-- An int. -/
def I64 (a : Int) : Prop := -9223372036854775808 ≤ a ∧ a ≤ 9223372036854775807
theorem wf_i64 {a : Int} (h0 : -9223372036854775808 ≤ a) (h1 : a ≤ 9223372036854775807) : (Lit.int .i64 a).wf = true := by
  simp [Lit.wf, IntKind.min, IntKind.max, IntKind.signed, IntKind.bits]; omega
theorem i64_of_wf {a : Int} (h : (Lit.int .i64 a).wf = true) : I64 a := by
  simp [Lit.wf, IntKind.min, IntKind.max, IntKind.signed, IntKind.bits] at h
  unfold I64; omega

/-! ### what either has -/
def orI (a b : Int) : Int := ((a.toNat ||| b.toNat : Nat) : Int)
theorem orI_bits (a b : Int) (ha : W32 a) (hb : W32 b) : bits .or .u32 a b = orI a b := u32_or a b ha.1 ha.2 hb.1 hb.2
theorem orI_s16 {a b : Int} (ha : S16 a) (hb : S16 b) : S16 (orI a b) := by
  unfold S16 at *; unfold orI
  have h : a.toNat ||| b.toNat < 2 ^ 16 := Nat.or_lt_two_pow (by omega) (by omega)
  omega
def bitI (a : Int) (n : Nat) : Bool := a.toNat.testBit n
theorem bitI_div {a : Int} (h : 0 ≤ a) (n : Nat) : (a / 2 ^ n % 2 == 1) = bitI a n := by
  obtain ⟨m, rfl⟩ := Int.eq_ofNat_of_zero_le h
  unfold bitI
  rw [Int.toNat_natCast, Nat.testBit_eq_decide_div_mod_eq, Bool.eq_iff_iff]
  simp only [beq_iff_eq, decide_eq_true_eq]
  constructor
  · intro e; exact_mod_cast e
  · intro e; exact_mod_cast e
theorem bitI_or (a b : Int) (n : Nat) : bitI (orI a b) n = (bitI a n || bitI b n) := by
  unfold bitI orI; rw [Int.toNat_natCast, Nat.testBit_or]
def orS (a b : Int) (k : Nat) : Int := (((orI a b).toNat % 2 ^ k : Nat) : Int)
theorem orS_zero (a b : Int) : orS a b 0 = 0 := by unfold orS; simp [Nat.mod_one]
theorem mod_succ (x k : Nat) : x % 2 ^ (k + 1) = x % 2 ^ k + 2 ^ k * (x / 2 ^ k % 2) := by
  rw [Nat.pow_succ, Nat.mod_mul]
theorem orS_succ (a b : Int) (k : Nat) : orS a b (k + 1) = orS a b k + (if (bitI a k || bitI b k) = true then 2 ^ k else 0) := by
  rw [← bitI_or]
  unfold orS bitI
  rw [mod_succ, Nat.testBit_eq_decide_div_mod_eq]
  by_cases h : (orI a b).toNat / 2 ^ k % 2 = 1
  · simp [h]
  · have h0 : (orI a b).toNat / 2 ^ k % 2 = 0 := by omega
    simp [h0]
theorem orS_yes (a b : Int) (k : Nat) (h : (bitI a k || bitI b k) = true) : orS a b (k + 1) = orS a b k + 2 ^ k := by rw [orS_succ, if_pos h]
theorem orS_no (a b : Int) (k : Nat) (h : (bitI a k || bitI b k) = false) : orS a b (k + 1) = orS a b k := by rw [orS_succ, if_neg (by simp [h])]; omega
theorem orS_end {a b : Int} (ha : S16 a) (hb : S16 b) : orS a b 16 = orI a b := by
  have h := orI_s16 ha hb
  unfold S16 at h
  unfold orS
  rw [Nat.mod_eq_of_lt (by omega)]
  omega
theorem orS_le (a b : Int) (k : Nat) (hk : k ≤ 16) : 0 ≤ orS a b k ∧ orS a b k < 65536 := by
  unfold orS
  have h1 := Nat.mod_lt (orI a b).toNat (Nat.two_pow_pos k)
  have h2 : 2 ^ k ≤ 2 ^ 16 := Nat.pow_le_pow_right (by decide) hk
  have h3 : (2 : Nat) ^ 16 = 65536 := rfl
  omega

/-! ### the sets of the bytes -/
/-- A byte's set. -/
def at0 (l : List Int) (i : Nat) : Int := l[i]?.getD 0
def nz (l : List Int) (i : Nat) : Bool := at0 l i != 0
def pg (l : List Int) (p : Nat) : List Int := (l.drop (64 * p)).take 64
def cnt (l : List Int) (p : Nat) : Nat := (pg l p).countP (fun x => x != 0)
def priv (l : List Int) (p : Nat) : Bool := cnt l p != 0
/-- The private pages below m, and the bytes below m that have sets. -/
def privs (l : List Int) (m : Nat) : List Nat := (List.range m).filter (priv l)
def els (l : List Int) (m : Nat) : List Nat := (List.range m).filter (nz l)
structure Bytes (P : Nat) (l : List Int) : Prop where
  lo : 1 ≤ P
  hi : P ≤ 32
  len : l.length = 64 * P
  s16 : ∀ x ∈ l, S16 x

theorem pg_get (l : List Int) (p k : Nat) (hk : k < 64) : (pg l p)[k]? = l[64 * p + k]? := by
  unfold pg
  rw [List.getElem?_take_of_lt hk, List.getElem?_drop]
theorem pg_len {P : Nat} {l : List Int} (h : l.length = 64 * P) {p : Nat} (hp : p < P) : (pg l p).length = 64 := by
  unfold pg; simp [h]; omega
theorem at_pg {P : Nat} {l : List Int} (h : l.length = 64 * P) {p k : Nat} (hp : p < P) (hk : k < 64) : (pg l p)[k]? = some (at0 l (64 * p + k)) := by
  rw [pg_get l p k hk]
  unfold at0
  rw [List.getElem?_eq_getElem (by omega)]; simp
theorem Bytes.at_ {P : Nat} {l : List Int} (h : Bytes P l) (i : Nat) : S16 (at0 l i) := by
  unfold at0
  by_cases hi : i < l.length
  · rw [List.getElem?_eq_getElem hi]; exact h.s16 _ (List.getElem_mem hi)
  · rw [List.getElem?_eq_none (by omega)]; simp [S16]
theorem cnt_le (l : List Int) (p : Nat) : cnt l p ≤ 64 := by
  unfold cnt
  refine Nat.le_trans List.countP_le_length ?_
  unfold pg; simp; omega
theorem cnt_none {P : Nat} {l : List Int} (h : l.length = 64 * P) {p : Nat} (hp : P ≤ p) : cnt l p = 0 := by
  unfold cnt pg
  rw [List.drop_eq_nil_of_le (by omega)]; rfl
theorem priv_lt {P : Nat} {l : List Int} (h : l.length = 64 * P) {p : Nat} (hp : priv l p = true) : p < P := by
  rcases Nat.lt_or_ge p P with h1 | h1
  · exact h1
  · simp [priv, cnt_none h h1] at hp
theorem not_priv {P : Nat} {l : List Int} (h : l.length = 64 * P) {p : Nat} (hp : priv l p = false) {k : Nat} (hk : k < 64) : at0 l (64 * p + k) = 0 := by
  by_cases hP : p < P
  · have h0 : cnt l p = 0 := by simpa [priv] using hp
    unfold cnt at h0
    rw [List.countP_eq_zero] at h0
    have hm : at0 l (64 * p + k) ∈ pg l p := List.mem_of_getElem? (at_pg h hP hk)
    simpa using h0 _ hm
  · unfold at0; rw [List.getElem?_eq_none (by omega)]; rfl
theorem is_priv {P : Nat} {l : List Int} (h : l.length = 64 * P) {p k : Nat} (hk : k < 64) (hz : nz l (64 * p + k) = true) : priv l p = true := by
  cases hp : priv l p with
  | true => rfl
  | false => simp [nz, not_priv h hp hk] at hz
theorem priv_has {P : Nat} {l : List Int} (h : l.length = 64 * P) {p : Nat} (hp : priv l p = true) : ∃ k, k < 64 ∧ nz l (64 * p + k) = true := by
  have hP := priv_lt h hp
  have h0 : cnt l p ≠ 0 := by simpa [priv] using hp
  have h1 : 0 < cnt l p := by omega
  unfold cnt at h1
  rw [List.countP_pos_iff] at h1
  obtain ⟨x, hx, hz⟩ := h1
  obtain ⟨k, hk, e⟩ := List.getElem_of_mem hx
  rw [pg_len h hP] at hk
  have h2 := at_pg h hP hk
  rw [List.getElem?_eq_getElem (by rw [pg_len h hP]; exact hk), e] at h2
  refine ⟨k, hk, ?_⟩
  simp at h2
  simpa [nz, ← h2] using hz

/-! ### one byte's set -/
theorem at_set {l : List Int} {i : Nat} (hi : i < l.length) (x : Int) (j : Nat) : at0 (l.set i x) j = if j = i then x else at0 l j := by
  unfold at0
  by_cases h : j = i
  · subst h; simp [hi]
  · rw [if_neg h, List.getElem?_set_ne (by omega)]
theorem pg_set_same {P : Nat} {l : List Int} (h : l.length = 64 * P) {p k : Nat} (hp : p < P) (hk : k < 64) (x : Int) : pg (l.set (64 * p + k) x) p = (pg l p).set k x := by
  have h2 : (l.set (64 * p + k) x).length = 64 * P := by simpa using h
  refine List.ext_getElem? fun j => ?_
  by_cases hj : j < 64
  · rw [at_pg h2 hp hj, at_set (by omega), List.getElem?_set]
    by_cases e : k = j
    · subst e
      simp [pg_len h hp, hk]
    · rw [if_neg (by omega), if_neg e, at_pg h hp hj]
  · rw [List.getElem?_eq_none (by rw [pg_len h2 hp]; omega), List.getElem?_eq_none (by simp [pg_len h hp]; omega)]
theorem pg_set_other {P : Nat} {l : List Int} (h : l.length = 64 * P) {p q k : Nat} (hp : p < P) (hk : k < 64) (hq : q ≠ p) (x : Int) : pg (l.set (64 * p + k) x) q = pg l q := by
  by_cases hQ : q < P
  · have h2 : (l.set (64 * p + k) x).length = 64 * P := by simpa using h
    refine List.ext_getElem? fun j => ?_
    by_cases hj : j < 64
    · rw [at_pg h2 hQ hj, at_pg h hQ hj, at_set (by omega), if_neg (by omega)]
    · rw [List.getElem?_eq_none (by rw [pg_len h2 hQ]; omega), List.getElem?_eq_none (by rw [pg_len h hQ]; omega)]
  · unfold pg
    rw [List.drop_eq_nil_of_le (by simp; omega), List.drop_eq_nil_of_le (by omega)]
theorem cnt_set_same {P : Nat} {l : List Int} (h : l.length = 64 * P) {p k : Nat} (hp : p < P) (hk : k < 64) (x : Int) :
    cnt (l.set (64 * p + k) x) p + (if at0 l (64 * p + k) ≠ 0 then 1 else 0) = cnt l p + (if x ≠ 0 then 1 else 0) := by
  unfold cnt
  rw [pg_set_same h hp hk]
  have hl := pg_len h hp
  have hg := at_pg h hp hk
  rw [List.getElem?_eq_getElem (by omega)] at hg
  simp at hg
  rw [List.countP_set (by omega), hg]
  have : (if at0 l (64 * p + k) ≠ 0 then 1 else 0) ≤ (pg l p).countP (fun x => x != 0) := by
    split
    · rename_i hz
      have : 0 < (pg l p).countP (fun x => x != 0) := List.countP_pos_iff.2 ⟨_, List.mem_of_getElem? (at_pg h hp hk), by simpa using hz⟩
      omega
    · omega
  generalize (pg l p).countP (fun x => x != 0) = c at this ⊢
  by_cases ha : at0 l (64 * p + k) = 0 <;> by_cases hx : x = 0 <;> simp [ha, hx] at this ⊢ <;> omega
theorem cnt_set_other {P : Nat} {l : List Int} (h : l.length = 64 * P) {p q k : Nat} (hp : p < P) (hk : k < 64) (hq : q ≠ p) (x : Int) : cnt (l.set (64 * p + k) x) q = cnt l q := by
  unfold cnt; rw [pg_set_other h hp hk hq]
theorem Bytes.set {P : Nat} {l : List Int} (h : Bytes P l) (i : Nat) {x : Int} (hx : S16 x) : Bytes P (l.set i x) :=
  ⟨h.lo, h.hi, by simpa using h.len, fun y hy => by
    rcases List.mem_or_eq_of_mem_set hy with h1 | h1
    · exact h.s16 y h1
    · rw [h1]; exact hx⟩

/-- How many pages are private, where one page turned. -/
theorem filter_turn (f g : Nat → Bool) (p : Nat) (h : ∀ q, q ≠ p → f q = g q) : ∀ m, ((List.range m).filter f).length + (if p < m ∧ g p = true then 1 else 0) = ((List.range m).filter g).length + (if p < m ∧ f p = true then 1 else 0)
  | 0 => by simp
  | m + 1 => by
    have ih := filter_turn f g p h m
    rw [List.range_succ, List.filter_append, List.filter_append, List.length_append, List.length_append]
    by_cases e : p = m
    · subst e
      cases hf : f p <;> cases hg : g p <;> simp [hf, hg] at ih ⊢ <;> omega
    · have e2 := h m (fun q => e q.symm)
      have e3 : (p < m + 1) ↔ (p < m) := by omega
      cases hf : g m <;> simp [e2, hf, e3] at ih ⊢ <;> omega
theorem privs_set {P : Nat} {l : List Int} (h : l.length = 64 * P) {p k : Nat} (hp : p < P) (hk : k < 64) (x : Int) :
    (privs (l.set (64 * p + k) x) P).length + (if priv l p = true then 1 else 0) = (privs l P).length + (if priv (l.set (64 * p + k) x) p = true then 1 else 0) := by
  have := filter_turn (priv (l.set (64 * p + k) x)) (priv l) p (fun q hq => by unfold priv; rw [cnt_set_other h hp hk hq]) P
  simpa [privs, hp] using this

/-! ### n bytes -/
def fillL (l : List Int) (a : Nat) (x : Int) : Nat → List Int
  | 0 => l
  | k + 1 => (fillL l a x k).set (a + k) x
theorem fill_len (l : List Int) (a : Nat) (x : Int) : ∀ k, (fillL l a x k).length = l.length
  | 0 => rfl
  | k + 1 => by simp [fillL, fill_len l a x k]
theorem Bytes.fill {P : Nat} {l : List Int} (h : Bytes P l) (a : Nat) {x : Int} (hx : S16 x) : ∀ k, Bytes P (fillL l a x k)
  | 0 => h
  | k + 1 => (Bytes.fill h a hx k).set _ hx
theorem at_fill (l : List Int) (a : Nat) (x : Int) (j : Nat) : ∀ k, a + k ≤ l.length → at0 (fillL l a x k) j = if a ≤ j ∧ j < a + k then x else at0 l j
  | 0, _ => by simp [fillL]; omega
  | k + 1, h => by
    rw [fillL, at_set (by rw [fill_len]; omega), at_fill l a x j k (by omega)]
    by_cases e : j = a + k
    · rw [if_pos e, if_pos (by omega)]
    · rw [if_neg e]
      by_cases e2 : a ≤ j ∧ j < a + k
      · rw [if_pos e2, if_pos (by omega)]
      · rw [if_neg e2, if_neg (by omega)]
def unionL (l : List Int) (a : Nat) : Nat → Int
  | 0 => 0
  | k + 1 => orI (unionL l a k) (at0 l (a + k))
theorem union_s16 {P : Nat} {l : List Int} (h : Bytes P l) (a : Nat) : ∀ k, S16 (unionL l a k)
  | 0 => by simp [unionL, S16]
  | k + 1 => orI_s16 (union_s16 h a k) (h.at_ _)
theorem ext_at {P : Nat} {l m : List Int} (h : l.length = 64 * P) (h2 : m.length = 64 * P) (e : ∀ i, i < 64 * P → at0 l i = at0 m i) : l = m := by
  refine List.ext_getElem? fun i => ?_
  by_cases hi : i < 64 * P
  · have := e i hi
    unfold at0 at this
    rw [List.getElem?_eq_getElem (by omega), List.getElem?_eq_getElem (by omega)] at this ⊢
    simpa using this
  · rw [List.getElem?_eq_none (by omega), List.getElem?_eq_none (by omega)]

/-! ### All: page by page -/
def pgEls (l : List Int) (p : Nat) : Nat → List Nat
  | 0 => []
  | k + 1 => if nz l (64 * p + k) = true then pgEls l p k ++ [64 * p + k] else pgEls l p k
theorem pgEls_yes {l : List Int} {p k : Nat} (h : nz l (64 * p + k) = true) : pgEls l p (k + 1) = pgEls l p k ++ [64 * p + k] := by simp [pgEls, h]
theorem pgEls_no {l : List Int} {p k : Nat} (h : nz l (64 * p + k) = false) : pgEls l p (k + 1) = pgEls l p k := by simp [pgEls, h]
theorem els_succ (l : List Int) (m : Nat) : els l (m + 1) = els l m ++ (if nz l m = true then [m] else []) := by
  unfold els
  rw [List.range_succ, List.filter_append]
  cases h : nz l m <;> simp [h]
theorem els_page (l : List Int) (p : Nat) : ∀ k, els l (64 * p + k) = els l (64 * p) ++ pgEls l p k
  | 0 => by simp [pgEls]
  | k + 1 => by
    rw [show 64 * p + (k + 1) = (64 * p + k) + 1 by omega, els_succ, els_page l p k]
    cases h : nz l (64 * p + k) <;> simp [pgEls, h]
theorem pgEls_none {P : Nat} {l : List Int} (h : l.length = 64 * P) {p : Nat} (hp : priv l p = false) : ∀ k, k ≤ 64 → pgEls l p k = []
  | 0, _ => rfl
  | k + 1, hk => by
    rw [pgEls_no (by simp [nz, not_priv h hp (show k < 64 by omega)]), pgEls_none h hp k (by omega)]
def flat (l : List Int) (ps : List Nat) : List Nat := ps.flatMap fun p => pgEls l p 64
theorem privs_succ (l : List Int) (m : Nat) : privs l (m + 1) = privs l m ++ (if priv l m = true then [m] else []) := by
  unfold privs
  rw [List.range_succ, List.filter_append]
  cases h : priv l m <;> simp [h]
theorem flat_privs {P : Nat} {l : List Int} (h : l.length = 64 * P) : ∀ m, flat l (privs l m) = els l (64 * m)
  | 0 => rfl
  | m + 1 => by
    rw [show 64 * (m + 1) = 64 * m + 64 by omega, els_page, privs_succ, ← flat_privs h m]
    unfold flat
    rw [List.flatMap_append]
    cases hp : priv l m with
    | true => simp
    | false => simp [pgEls_none h hp 64 (Nat.le_refl _)]
theorem pgEls_split (l : List Int) (p k : Nat) : ∀ d, ∃ r, pgEls l p (k + d) = pgEls l p k ++ r
  | 0 => ⟨[], by simp⟩
  | d + 1 => by
    obtain ⟨r, hr⟩ := pgEls_split l p k d
    rw [show k + (d + 1) = (k + d) + 1 by omega]
    cases h : nz l (64 * p + (k + d)) with
    | true => exact ⟨r ++ [64 * p + (k + d)], by rw [pgEls_yes h, hr, List.append_assoc]⟩
    | false => exact ⟨r, by rw [pgEls_no h, hr]⟩
/-- A byte of a page that All comes to. -/
theorem flat_split {l : List Int} {full pre rest : List Nat} {p k : Nat} (hf : full = pre ++ p :: rest) (hk : k < 64) (hz : nz l (64 * p + k) = true) : ∃ r, flat l full = (flat l pre ++ pgEls l p k) ++ (64 * p + k) :: r := by
  obtain ⟨r, hr⟩ := pgEls_split l p (k + 1) (63 - k)
  rw [show k + 1 + (63 - k) = 64 by omega, pgEls_yes hz] at hr
  refine ⟨r ++ flat l rest, ?_⟩
  rw [hf]
  unfold flat
  simp [List.flatMap_append, hr]
theorem flat_part {l : List Int} {full pre rest : List Nat} {p k : Nat} (hf : full = pre ++ p :: rest) (hk : k ≤ 64) : ∃ r, flat l full = (flat l pre ++ pgEls l p k) ++ r := by
  obtain ⟨r, hr⟩ := pgEls_split l p k (64 - k)
  rw [show k + (64 - k) = 64 by omega] at hr
  refine ⟨r ++ flat l rest, ?_⟩
  rw [hf]
  unfold flat
  simp [List.flatMap_append, hr]
theorem flat_snoc (l : List Int) (pre : List Nat) (p : Nat) : flat l (pre ++ [p]) = flat l pre ++ pgEls l p 64 := by unfold flat; simp [List.flatMap_append]
theorem mem_privs {l : List Int} {m p : Nat} : p ∈ privs l m ↔ p < m ∧ priv l p = true := by simp [privs]
theorem mem_els {l : List Int} {m i : Nat} : i ∈ els l m ↔ i < m ∧ nz l i = true := by simp [els]
theorem mem_mid {full pre rest : List Nat} {x : Nat} (h : full = pre ++ x :: rest) : x ∈ full := by rw [h]; simp
end Go.Proofs.YtiohlmccnllklaaGreatDoor.L3
namespace Go.Proofs.YtiohlmccnllklaaGreatDoor.L3
open Go.RowKit
set_option maxRecDepth 100000

/-! ### worlds that turn in some blocks alone -/
structure Turned (F : Nat → Prop) (w w' : World) : Prop where
  os : w'.os = w.os
  tape : w'.tape = w.tape
  output : w'.output = w.output
  size : w.heap.size ≤ w'.heap.size
  block : ∀ k, k < w.heap.size → ¬ F k → w'.heap[k]? = w.heap[k]?

theorem Turned.refl (F : Nat → Prop) (w : World) : Turned F w w := ⟨rfl, rfl, rfl, Nat.le_refl _, fun _ _ _ => rfl⟩
theorem Turned.trans {F G : Nat → Prop} {a b c : World} (h : Turned F a b) (k : Turned G b c) (hG : ∀ x, G x → F x ∨ a.heap.size ≤ x) : Turned F a c :=
  ⟨k.os.trans h.os, k.tape.trans h.tape, k.output.trans h.output, Nat.le_trans h.size k.size, fun i hi hn =>
    (k.block i (Nat.lt_of_lt_of_le hi h.size) (fun hm => by rcases hG i hm with h' | h'; exact hn h'; omega)).trans (h.block i hi hn)⟩
theorem Turned.mono {F G : Nat → Prop} {a b : World} (h : Turned F a b) (hG : ∀ x, F x → G x) : Turned G a b :=
  ⟨h.os, h.tape, h.output, h.size, fun k hk hn => h.block k hk (fun hm => hn (hG k hm))⟩
theorem Turned.of_below {w w' : World} (h : Below w.heap.size w w') (F : Nat → Prop) : Turned F w w' := ⟨h.os, h.tape, h.output, h.size, fun k hk _ => h.block k hk⟩
theorem Turned.of_grown {w w' : World} {row : Option Nat} (h : w.grownBy w' row) {F : Nat → Prop} (hr : ∀ k, row = some k → F k) : Turned F w w' :=
  ⟨h.os, h.tape, h.output, h.size, fun k hk hn => h.block k hk (fun e => hn (hr k e.symm))⟩
theorem Turned.alloc {F : Nat → Prop} {a w : World} (h : Turned F a w) (o : Obj) : Turned F a (w.alloc o) :=
  h.trans (G := fun _ => False) ⟨rfl, rfl, rfl, by simp, fun k hk _ => Below.heap_alloc _ _ _ hk⟩ (fun x hx => hx.elim)
theorem Turned.drew {F : Nat → Prop} {a w : World} (h : Turned F a w) : Turned F a w.drew := ⟨h.os, h.tape, h.output, h.size, h.block⟩
theorem Turned.setCell {F : Nat → Prop} {a w : World} (h : Turned F a w) {p : Addr} (hp : F p.block ∨ a.heap.size ≤ p.block) (u : Value) : Turned F a (w.setCell p u) :=
  h.trans (G := fun k => k = p.block) ⟨rfl, rfl, rfl, by simp [World.setCell], fun k _ hn => Below.heap_setCell _ _ _ _ hn⟩ (fun x hx => by subst hx; exact hp)
theorem Turned.below {F : Nat → Prop} {w w' : World} (h : Turned F w w') {B : Nat} (hB : B ≤ w.heap.size) (hF : ∀ k, F k → B ≤ k) : Below B w w' :=
  ⟨h.os, h.tape, h.output, h.size, fun k hk => h.block k (by omega) (fun hm => by have := hF k hm; omega)⟩
theorem below_drewN (B : Nat) (w : World) (n : Nat) : Below B w (w.drewN n) := ⟨rfl, rfl, rfl, Nat.le_refl _, fun _ _ => rfl⟩
/-- A block known whole stays where it is not turned. -/
theorem Turned.keep {F : Nat → Prop} {w w' : World} (h : Turned F w w') {k : Nat} {o : Obj} (hk : w.heap[k]? = some o) (hn : ¬ F k) : w'.heap[k]? = some o :=
  (h.block k (Array.getElem?_eq_some_iff.1 hk).1 hn).trans hk
theorem Turned.row {F : Nat → Prop} {w w' : World} (h : Turned F w w') {base : Nat} {e : TypeId} {size n : Nat} {v : Value} {xs : List Value} (ho : w.ownsRow base e size v n xs) (hn : ∀ g, v.ownBlock = some g → ¬ F g) : w'.ownsRow base e size v n xs := by
  refine ⟨ho.1, ?_⟩
  rcases ho.2 with hnil | ⟨g, cap, cur, rfl, hb, hgg, rest⟩
  · exact .inl hnil
  · exact .inr ⟨g, cap, cur, rfl, hb, h.keep hgg (hn g rfl), rest⟩
theorem Turned.map {F : Nat → Prop} {w w' : World} {H : Type} {P : Program} {k : TypeId} {R : Value → Option (DataW H × List MemPlace)} {b n : Nat} {D : DataW H} (h : Turned F w w') (ho : w.ownsMap P k R b n D) (hn : ¬ F b) : w'.ownsMap P k R b n D := by
  obtain ⟨es, clock, hb, r⟩ := ho
  exact ⟨es, clock, h.keep hb hn, r⟩

/-! ### the cells of a shadow's block -/
def shCells (c : Nat → Nat) (P : Int) (m : Option Nat) : Array Value :=
  ((((List.range 32).map fun p => Value.int .i64 (c p : Int)) ++ ([Value.int .i64 P, Value.map m] : List Value) ++ List.replicate 64 (Value.int .u32 0)) : List Value).toArray
theorem shCells_size (c : Nat → Nat) (P : Int) (m : Option Nat) : (shCells c P m).size = 98 := by simp [shCells]
theorem shCells_cnt (c : Nat → Nat) (P : Int) (m : Option Nat) {p : Nat} (hp : p < 32) : (shCells c P m)[p]? = some (.int .i64 (c p : Int)) := by
  simp [shCells, List.getElem?_append, hp]
theorem shCells_pages (c : Nat → Nat) (P : Int) (m : Option Nat) : (shCells c P m)[32]? = some (.int .i64 P) := by simp [shCells]
theorem shCells_map (c : Nat → Nat) (P : Int) (m : Option Nat) : (shCells c P m)[33]? = some (.map m) := by simp [shCells]
theorem shCells_nought (c : Nat → Nat) (P : Int) (m : Option Nat) {k : Nat} (hk : k < 64) : (shCells c P m)[34 + k]? = some (.int .u32 0) := by
  unfold shCells
  rw [List.getElem?_toArray, List.getElem?_append_right (by simp), List.getElem?_replicate, if_pos (by simp; omega)]
theorem shCells_ext {c : Nat → Nat} {P : Int} {m : Option Nat} {a : Array Value} (hs : a.size = 98) (h1 : ∀ p, p < 32 → a[p]? = some (.int .i64 (c p : Int))) (h2 : a[32]? = some (.int .i64 P)) (h3 : a[33]? = some (.map m))
    (h4 : ∀ k, k < 64 → a[34 + k]? = some (.int .u32 0)) : a = shCells c P m := by
  refine Array.ext_getElem? fun j => ?_
  rcases Nat.lt_or_ge j 32 with h | h
  · rw [h1 j h, shCells_cnt c P m h]
  · rcases Nat.lt_or_ge j 98 with h' | h'
    · by_cases e : j = 32
      · subst e; rw [h2, shCells_pages]
      · by_cases e' : j = 33
        · subst e'; rw [h3, shCells_map]
        · obtain ⟨k, rfl⟩ : ∃ k, j = 34 + k := ⟨j - 34, by omega⟩
          rw [h4 k (by omega), shCells_nought c P m (by omega)]
    · rw [Array.getElem?_eq_none (by omega), Array.getElem?_eq_none (by rw [shCells_size]; omega)]
theorem shCells_new (c : Nat → Nat) (P P' : Int) (m m' : Option Nat) : ((shCells c P m).setIfInBounds 32 (.int .i64 P')).setIfInBounds 33 (.map m') = shCells c P' m' := by
  refine shCells_ext (by simp [shCells_size]) (fun p hp => ?_) ?_ ?_ (fun k hk => ?_)
  · rw [Array.getElem?_setIfInBounds_ne (by omega), Array.getElem?_setIfInBounds_ne (by omega), shCells_cnt _ _ _ hp]
  · rw [Array.getElem?_setIfInBounds_ne (by omega), Array.getElem?_setIfInBounds_self_of_lt (by rw [shCells_size]; omega)]
  · rw [Array.getElem?_setIfInBounds_self_of_lt (by simp [shCells_size])]
  · rw [Array.getElem?_setIfInBounds_ne (by omega), Array.getElem?_setIfInBounds_ne (by omega), shCells_nought _ _ _ hk]
theorem shCells_count (c : Nat → Nat) (P : Int) (m : Option Nat) {p : Nat} (hp : p < 32) (n : Nat) : (shCells c P m).setIfInBounds p (.int .i64 (n : Int)) = shCells (fun q => if q = p then n else c q) P m := by
  refine shCells_ext (by simp [shCells_size]) (fun q hq => ?_) ?_ ?_ (fun k hk => ?_)
  · by_cases e : q = p
    · subst e; rw [Array.getElem?_setIfInBounds_self_of_lt (by rw [shCells_size]; omega)]; simp
    · rw [Array.getElem?_setIfInBounds_ne (by omega), shCells_cnt _ _ _ hq]; simp [e]
  · rw [Array.getElem?_setIfInBounds_ne (by omega), shCells_pages]
  · rw [Array.getElem?_setIfInBounds_ne (by omega), shCells_map]
  · rw [Array.getElem?_setIfInBounds_ne (by omega), shCells_nought _ _ _ hk]
theorem zero_sh (w : World) : (zeroValue 141).run Tryz.prog w = .ok (.agg (shCells (fun _ => 0) 0 none)) w := by kernel_rfl

/-! ### the map of private pages: a pointer reads as its block -/
def ptrElem : Value → Option (DataW Unit × List MemPlace)
  | .pointer none => some (.lit (.int .i64 (-1)), [])
  | .pointer (some ⟨g, 0, none⟩) => some (.lit (.int .i64 (g : Int)), [])
  | _ => none
theorem ptr_nil : ptrElem (.pointer none) = some (.lit (.int .i64 (-1)), []) := rfl
theorem ptr_at (g : Nat) : ptrElem (.pointer (some ⟨g, 0, none⟩)) = some (.lit (.int .i64 (g : Int)), []) := rfl
theorem ptr_inv {v : Value} {g : Nat} {ps : List MemPlace} (h : ptrElem v = some (.lit (.int .i64 (g : Int)), ps)) : v = .pointer (some ⟨g, 0, none⟩) := by
  unfold ptrElem at h
  split at h
  · simp at h
  · rename_i g'
    simp at h
    obtain ⟨h1, _⟩ := h
    have : g' = g := by omega
    rw [this]
  · cases h
theorem ptr_nil_inv {v : Value} {ps : List MemPlace} (h : ptrElem v = some (.lit (.int .i64 (-1)), ps)) : v = .pointer none := by
  unfold ptrElem at h
  split at h
  · rfl
  · simp at h
  · cases h
theorem numLaw : Maps.Keyed Tryz.prog 3 := Maps.int_keyed Tryz.underlying3
theorem key_int {x : Int} (h : (Lit.int .i64 x).wf = true) : keyOf Tryz.prog 3 (.int .i64 x) = some (.int .i64 x) := Maps.keyOf_int_mk Tryz.underlying3 h
theorem isKey (x : Int) : WideAt.IsKeyLit (Lit.int .i64 x) := trivial
theorem zeroPtr (w : World) : (zeroValue 195).run Tryz.prog w = .ok (.pointer none) w := by kernel_rfl
/-- What a map holds: the private pages' numbers, each leading to its block. -/
structure PrivD (P : Nat) (l : List Int) (G : Nat → Nat) (D : DataW Unit) : Prop where
  has : ∀ k : Int, Maps.has D (.int .i64 k) = decide (0 ≤ k ∧ priv l k.toNat = true)
  at_ : ∀ p : Nat, priv l p = true → ∀ z, D.atKey (.int .i64 (p : Int)) z = .lit (.int .i64 (G p : Int))
  size : Maps.size D = (privs l P).length

/-! ### a shadow -/
structure ShIs (w : World) (S mb P : Nat) (l : List Int) (G : Nat → Nat) (D : DataW Unit) : Prop where
  bytes : Bytes P l
  blk : w.heap[S]? = some (.cells (shCells (cnt l) P (some mb)) 141 (0, 0))
  map : w.ownsMap Tryz.prog 3 ptrElem mb (privs l P).length D
  pd : PrivD P l G D
  page : ∀ p, priv l p = true → w.heap[G p]? = some (.cells ((pg l p).map (Value.int .u32)).toArray 139 (0, 0))
  inj : ∀ p q, priv l p = true → priv l q = true → G p = G q → p = q
/-- The blocks that are a shadow's own. -/
def shB (S mb : Nat) (l : List Int) (G : Nat → Nat) (k : Nat) : Prop := k = S ∨ k = mb ∨ ∃ p, priv l p = true ∧ k = G p
/-- A SHADOW OF P PAGES LIES AT BLOCK S; l: its bytes' sets; F: the blocks that are its own. -/
def Sh (w : World) (S P : Nat) (l : List Int) (F : Nat → Prop) : Prop := ∃ mb G D, F = shB S mb l G ∧ ShIs w S mb P l G D

section
variable {w w' : World} {S mb P : Nat} {l : List Int} {G : Nat → Nat} {D : DataW Unit} {F K : Nat → Prop}
theorem ShIs.mapBlk (h : ShIs w S mb P l G D) : ∃ es k, w.heap[mb]? = some (.map es k) := by
  obtain ⟨es, k, hb, _⟩ := h.map
  exact ⟨es, k, hb⟩
theorem ShIs.ne1 (h : ShIs w S mb P l G D) : S ≠ mb := by
  obtain ⟨e1, k1, h1⟩ := h.mapBlk
  rintro rfl
  rw [h.blk] at h1; cases h1
theorem ShIs.ne2 (h : ShIs w S mb P l G D) {p : Nat} (hp : priv l p = true) : G p ≠ S ∧ G p ≠ mb := by
  obtain ⟨e1, k1, h1⟩ := h.mapBlk
  have h2 := h.page p hp
  refine ⟨fun e => ?_, fun e => ?_⟩
  · rw [e, h.blk] at h2; simp at h2
  · rw [e, h1] at h2; cases h2
theorem ShIs.lt (h : ShIs w S mb P l G D) : ∀ k, shB S mb l G k → k < w.heap.size := by
  obtain ⟨e1, k1, h1⟩ := h.mapBlk
  rintro k (rfl | rfl | ⟨p, hp, rfl⟩)
  · exact (Array.getElem?_eq_some_iff.1 h.blk).1
  · exact (Array.getElem?_eq_some_iff.1 h1).1
  · exact (Array.getElem?_eq_some_iff.1 (h.page p hp)).1
theorem Sh.lt (h : Sh w S P l F) : ∀ k, F k → k < w.heap.size := by
  obtain ⟨mb, G, D, rfl, h⟩ := h
  exact h.lt
theorem Sh.mem (h : Sh w S P l F) : F S := by
  obtain ⟨mb, G, D, rfl, h⟩ := h
  exact .inl rfl
theorem Sh.bytes (h : Sh w S P l F) : Bytes P l := by
  obtain ⟨mb, G, D, rfl, h⟩ := h
  exact h.bytes
theorem ShIs.kept' (h : ShIs w S mb P l G D) (hk : ∀ k, shB S mb l G k → w'.heap[k]? = w.heap[k]?) : ShIs w' S mb P l G D := by
  refine ⟨h.bytes, (hk S (.inl rfl)).trans h.blk, ?_, h.pd, fun p hp => (hk _ (.inr (.inr ⟨p, hp, rfl⟩))).trans (h.page p hp), h.inj⟩
  obtain ⟨es, clock, hb, r⟩ := h.map
  exact ⟨es, clock, (hk mb (.inr (.inl rfl))).trans hb, r⟩
theorem Sh.kept' (h : Sh w S P l F) (hk : ∀ k, F k → w'.heap[k]? = w.heap[k]?) : Sh w' S P l F := by
  obtain ⟨mb, G, D, rfl, h⟩ := h
  exact ⟨mb, G, D, rfl, h.kept' hk⟩
/-- What is turned elsewhere leaves a shadow as it is. -/
theorem Sh.kept (h : Sh w S P l F) (ht : Turned K w w') (hd : ∀ k, F k → ¬ K k) : Sh w' S P l F := h.kept' fun k hk => ht.block k (h.lt k hk) (hd k hk)
theorem Sh.below (h : Sh w S P l F) (hb : Below w.heap.size w w') : Sh w' S P l F := h.kept' fun k hk => hb.block k (h.lt k hk)
theorem Sh.alloc (h : Sh w S P l F) (o : Obj) : Sh (w.alloc o) S P l F := h.below ((Below.refl _ _).alloc (Nat.le_refl _) _)
theorem Sh.drewN (h : Sh w S P l F) (n : Nat) : Sh (w.drewN n) S P l F := h.below (below_drewN _ _ n)
theorem ShIs.cells (h : ShIs w S mb P l G D) : w.cell? ⟨S, 32, none⟩ = some (.int .i64 (P : Int)) ∧ w.cell? ⟨S, 33, none⟩ = some (.map (some mb)) ∧ w.frozen? ⟨S, 33, none⟩ = false := by
  have hb := h.blk
  simp [World.cell?, World.frozen?, hb, shCells_pages, shCells_map]
theorem ShIs.cellCnt (h : ShIs w S mb P l G D) {p : Nat} (hp : p < 32) : w.cell? ⟨S, p, none⟩ = some (.int .i64 (cnt l p : Int)) ∧ w.frozen? ⟨S, p, none⟩ = false := by
  have hb := h.blk
  simp [World.cell?, World.frozen?, hb, shCells_cnt _ _ _ hp]
theorem ShIs.cellNought (h : ShIs w S mb P l G D) {k : Nat} (hk : k < 64) : w.cell? ⟨S, 34 + k, none⟩ = some (.int .u32 0) := by
  have hb := h.blk
  simp [World.cell?, hb, shCells_nought _ _ _ hk]
theorem ShIs.cellPage (h : ShIs w S mb P l G D) {p k : Nat} (hp : priv l p = true) (hk : k < 64) : w.cell? ⟨G p, k, none⟩ = some (.int .u32 (at0 l (64 * p + k))) ∧ w.frozen? ⟨G p, k, none⟩ = false := by
  have hb := h.page p hp
  have hP := priv_lt h.bytes.len hp
  simp [World.cell?, World.frozen?, hb, at_pg h.bytes.len hP hk]
/-- What a look-up of a page gives. -/
theorem ShIs.look_yes (h : ShIs w S mb P l G D) {p : Nat} (hp : priv l p = true) :
    (Instr.lookup 134 (.map (some mb)) (.int .i64 (p : Int)) true).run Tryz.prog w = .ok (.tuple #[.pointer (some ⟨G p, 0, none⟩), .bool true]) w ∧
    (Instr.lookup 134 (.map (some mb)) (.int .i64 (p : Int)) false).run Tryz.prog w = .ok (.pointer (some ⟨G p, 0, none⟩)) w := by
  have hP := priv_lt h.bytes.len hp
  have h32 := h.bytes.hi
  have hk := key_int (x := (p : Int)) (wf_i64 (by omega) (by omega))
  constructor
  · obtain ⟨v, ps, hr, hv⟩ := h.map.look_ok numLaw Tryz.underlying134 (zeroPtr w) ptr_nil hk
    rw [h.pd.at_ p hp] at hv
    rw [hr, ptr_inv hv, h.pd.has]
    simp [hp]
  · obtain ⟨v, ps, hr, hv⟩ := h.map.lookup numLaw Tryz.underlying134 (zeroPtr w) ptr_nil hk
    rw [h.pd.at_ p hp] at hv
    rw [hr, ptr_inv hv]
theorem ShIs.look_no (h : ShIs w S mb P l G D) {k : Int} (hw : (Lit.int .i64 k).wf = true) (hp : ¬ (0 ≤ k ∧ priv l k.toNat = true)) :
    (Instr.lookup 134 (.map (some mb)) (.int .i64 k) true).run Tryz.prog w = .ok (.tuple #[.pointer none, .bool false]) w ∧
    (Instr.lookup 134 (.map (some mb)) (.int .i64 k) false).run Tryz.prog w = .ok (.pointer none) w := by
  have hk := key_int hw
  have hh : Maps.has D (.int .i64 k) = false := by rw [h.pd.has]; simpa using hp
  constructor
  · obtain ⟨v, ps, hr, hv⟩ := h.map.look_ok numLaw Tryz.underlying134 (zeroPtr w) ptr_nil hk
    rw [Maps.atKey_of_not_has hh] at hv
    rw [hr, ptr_nil_inv hv, hh]
  · obtain ⟨v, ps, hr, hv⟩ := h.map.lookup numLaw Tryz.underlying134 (zeroPtr w) ptr_nil hk
    rw [Maps.atKey_of_not_has hh] at hv
    rw [hr, ptr_nil_inv hv]
end
theorem at_new (P i : Nat) : at0 (List.replicate (64 * P) 0) i = 0 := by unfold at0; by_cases h : i < 64 * P <;> simp [h]
theorem cnt_new (P p : Nat) : cnt (List.replicate (64 * P) 0) p = 0 := by
  unfold cnt
  rw [List.countP_eq_zero]
  intro x hx
  have := List.mem_of_mem_drop (List.mem_of_mem_take (show x ∈ ((List.replicate (64 * P) (0 : Int)).drop (64 * p)).take 64 from hx))
  rw [List.mem_replicate] at this
  simp [this.2]
theorem bytes_new {P : Nat} (h0 : 1 ≤ P) (h1 : P ≤ 32) : Bytes P (List.replicate (64 * P) 0) := ⟨h0, h1, by simp, fun x hx => by rw [List.mem_replicate] at hx; simp [hx.2, S16]⟩
theorem privs_new (P m : Nat) : privs (List.replicate (64 * P) 0) m = [] := by
  unfold privs
  rw [List.filter_eq_nil_iff]
  intro a _
  simp [priv, cnt_new]
theorem sh_new {w : World} {S mb P : Nat} (h0 : 1 ≤ P) (h1 : P ≤ 32) (hb : w.heap[S]? = some (.cells (shCells (fun _ => 0) P (some mb)) 141 (0, 0))) (hm : w.ownsMap Tryz.prog 3 ptrElem mb 0 (DataW.map [])) :
    Sh w S P (List.replicate (64 * P) 0) (shB S mb (List.replicate (64 * P) 0) (fun _ => 0)) := by
  have hc : cnt (List.replicate (64 * P) 0) = fun _ => 0 := funext (cnt_new P)
  have hp : ∀ p, priv (List.replicate (64 * P) 0) p = false := fun p => by simp [priv, cnt_new]
  refine ⟨mb, fun _ => 0, _, rfl, bytes_new h0 h1, by rw [hc]; exact hb, by rw [privs_new]; exact hm, ⟨fun k => ?_, fun p h => ?_, ?_⟩, fun p h => ?_, fun p q h => ?_⟩
  · simp [hp, Maps.has]
  · rw [hp] at h; cases h
  · rw [privs_new]; rfl
  · rw [hp] at h; cases h
  · rw [hp] at h; cases h
end Go.Proofs.YtiohlmccnllklaaGreatDoor.L3
namespace Go.Proofs.YtiohlmccnllklaaGreatDoor.L3
open Go.RowKit
set_option maxRecDepth 100000
set_option maxHeartbeats 400000

theorem none_nil (w : World) : Calls Tryz.prog 111 #[.pointer none] w fun e w' => e = .returned (.bool true) ∧ w = w' := by
  go_enter Tryz.func111, Tryz.ntmps111
  go_wp2
  go_ret
  exact ⟨rfl, rfl⟩
theorem none_some (S P : Nat) (w : World) (hc : w.cell? ⟨S, 32, none⟩ = some (.int .i64 (P : Int))) (h1 : 1 ≤ P) :
    Calls Tryz.prog 111 #[.pointer (some ⟨S, 0, none⟩)] w fun e w' => e = .returned (.bool false) ∧ w = w' := by
  go_enter Tryz.func111, Tryz.ntmps111
  go_wp2
  go_ret
  exact ⟨by simp; omega, rfl⟩
theorem Size_nil (w : World) : Calls Tryz.prog 187 #[.pointer none] w fun e w' => e = .returned (.int .i64 0) ∧ w = w' := by
  go_enter Tryz.func187, Tryz.ntmps187
  go_wp2_with (go_at_call 111; refine (none_nil _).mono ?_; rintro e w' ⟨rfl, rfl⟩)
  go_ret
  exact ⟨rfl, rfl⟩
theorem Size_cell (S P : Nat) (w : World) (hc : w.cell? ⟨S, 32, none⟩ = some (.int .i64 (P : Int))) (h1 : 1 ≤ P) (h2 : P ≤ 32) :
    Calls Tryz.prog 187 #[.pointer (some ⟨S, 0, none⟩)] w fun e w' => e = .returned (.int .i64 (64 * P : Nat)) ∧ w = w' := by
  go_enter Tryz.func187, Tryz.ntmps187
  go_wp2_with (go_at_call 111; refine (none_some S P _ hc h1).mono ?_; rintro e w' ⟨rfl, rfl⟩)
  go_ret
  exact ⟨by simp; omega, rfl⟩
theorem Sh.cell {w : World} {S P : Nat} {l : List Int} {F : Nat → Prop} (h : Sh w S P l F) : w.cell? ⟨S, 32, none⟩ = some (.int .i64 (P : Int)) ∧ 1 ≤ P ∧ P ≤ 32 := by
  obtain ⟨mb, G, D, rfl, h⟩ := h
  exact ⟨h.cells.1, h.bytes.lo, h.bytes.hi⟩
theorem Size_any {w : World} {S P : Nat} {l : List Int} {F : Nat → Prop} (h : Sh w S P l F) :
    Calls Tryz.prog 187 #[.pointer (some ⟨S, 0, none⟩)] w fun e w' => e = .returned (.int .i64 (64 * P : Nat)) ∧ w = w' := Size_cell S P w h.cell.1 h.cell.2.1 h.cell.2.2

/-- Are there n bytes from a on? -/
def insB (P : Nat) (a n : Int) : Bool := decide (0 ≤ a) && decide (a ≤ 64 * P) && decide (0 ≤ n) && decide (n ≤ 64 * P - a)
theorem insB_yes {P : Nat} {a n : Int} (h : insB P a n = true) : ∃ i k : Nat, a = i ∧ n = k ∧ i + k ≤ 64 * P := by
  simp [insB] at h
  exact ⟨a.toNat, n.toNat, by omega, by omega, by omega⟩
theorem insB_one {P i : Nat} : insB P (i : Int) 1 = decide (i < 64 * P) := by
  simp [insB]
  by_cases h : i < 64 * P
  · simp [h]; omega
  · simp [h]; omega
theorem has_cell (S P : Nat) (a n : Int) (w : World) (hc : w.cell? ⟨S, 32, none⟩ = some (.int .i64 (P : Int))) (h1 : 1 ≤ P) (h2 : P ≤ 32) :
    Calls Tryz.prog 197 #[.pointer (some ⟨S, 0, none⟩), .int .i64 a, .int .i64 n] w fun e w' => e = .returned (.bool (insB P a n)) ∧ w = w' := by
  have HS : Hid (∀ W, W = w → Calls Tryz.prog 187 #[.pointer (some ⟨S, 0, none⟩)] W fun e w' => e = .returned (.int .i64 (64 * P : Nat)) ∧ W = w') := fun W e => by subst e; exact Size_cell S P W hc h1 h2
  clear hc
  unfold insB
  by_cases ha : 0 ≤ a
  · by_cases hb : a ≤ 64 * P
    · by_cases hn : 0 ≤ n
      all_goals
        go_enter Tryz.func197, Tryz.ntmps197
        go_wp2_with (go_at_call 187; refine (HS.out _ rfl).mono ?_; rintro e w' ⟨rfl, rfl⟩)
        go_ret
        exact ⟨by simp [ha, hb, hn] <;> omega, rfl⟩
    · go_enter Tryz.func197, Tryz.ntmps197
      go_wp2_with (go_at_call 187; refine (HS.out _ rfl).mono ?_; rintro e w' ⟨rfl, rfl⟩)
      go_ret
      exact ⟨by simp [ha, hb] <;> omega, rfl⟩
  · go_enter Tryz.func197, Tryz.ntmps197
    go_wp2_with (go_at_call 187; refine (HS.out _ rfl).mono ?_; rintro e w' ⟨rfl, rfl⟩)
    go_ret
    exact ⟨by simp <;> omega, rfl⟩
/-- Why n bytes from a on can't be asked for, or have that set. -/
def refR (P : Nat) (a n x : Int) : Int := if 65536 ≤ x then 2 else if insB P a n = true then 0 else 4
theorem refusal_nil (a n x : Int) (w : World) : Calls Tryz.prog 191 #[.pointer none, .int .i64 a, .int .i64 n, .int .u32 x] w fun e w' => e = .returned (.int .i64 1) ∧ w = w' := by
  go_enter Tryz.func191, Tryz.ntmps191
  go_wp2_with (go_at_call 111; refine (none_nil _).mono ?_; rintro e w' ⟨rfl, rfl⟩)
  go_ret
  exact ⟨rfl, rfl⟩
theorem refusal_cell (S P : Nat) (a n x : Int) (hx : W32 x) (w : World) (hc : w.cell? ⟨S, 32, none⟩ = some (.int .i64 (P : Int))) (h1 : 1 ≤ P) (h2 : P ≤ 32) :
    Calls Tryz.prog 191 #[.pointer (some ⟨S, 0, none⟩), .int .i64 a, .int .i64 n, .int .u32 x] w fun e w' => e = .returned (.int .i64 (refR P a n x)) ∧ w = w' := by
  obtain ⟨x0, x1⟩ := hx
  have HH := Lib.hid (has_cell S P a n w hc h1 h2)
  by_cases hb : 65536 ≤ x
  · have hs : x / 65536 ≠ 0 := by omega
    go_enter Tryz.func191, Tryz.ntmps191
    go_wp2_with (go_at_call 111; refine (none_some S P _ hc h1).mono ?_; rintro e w' ⟨rfl, rfl⟩)
    go_ret
    exact ⟨by simp [refR, hb], rfl⟩
  · have hs : x / 65536 = 0 := by omega
    cases hi : insB P a n
    all_goals
      rw [hi] at HH
      go_enter Tryz.func191, Tryz.ntmps191
      go_wp2_with (first | (go_at_call 111; refine (none_some S P _ hc h1).mono ?_; rintro e w' ⟨rfl, rfl⟩) | (go_at_call 197; refine (HH.out).mono ?_; rintro e w' ⟨rfl, rfl⟩))
      go_ret
      exact ⟨by simp [refR, hb, hi], rfl⟩
/-- Where a page's sets are read. -/
def pageAt (S : Nat) (l : List Int) (G : Nat → Nat) (p : Nat) : Addr := if priv l p = true then ⟨G p, 0, none⟩ else ⟨S, 34, none⟩
theorem page_any {w : World} {S mb P : Nat} {l : List Int} {G : Nat → Nat} {D : DataW Unit} (h : ShIs w S mb P l G D) {p : Nat} (hp : p < P) :
    Calls Tryz.prog 196 #[.pointer (some ⟨S, 0, none⟩), .int .i64 (p : Int)] w fun e w' => e = .returned (.pointer (some (pageAt S l G p))) ∧ w = w' := by
  obtain ⟨c0, c1, c2⟩ := h.cells
  have h32 := h.bytes.hi
  cases hq : priv l p with
  | true =>
    have hl := (h.look_yes hq).1
    have HA : Hid (pageAt S l G p = ⟨G p, 0, none⟩) := by simp [Hid, pageAt, hq]
    clear h hq
    go_enter Tryz.func196, Tryz.ntmps196
    go_wp2
    go_ret
    exact ⟨by rw [HA.out]; rfl, rfl⟩
  | false =>
    have hl := (h.look_no (k := (p : Int)) (wf_i64 (by omega) (by omega)) (by simp [hq])).1
    have HA : Hid (pageAt S l G p = ⟨S, 34, none⟩) := by simp [Hid, pageAt, hq]
    clear h hq
    go_enter Tryz.func196, Tryz.ntmps196
    go_wp2
    go_ret
    exact ⟨by rw [HA.out]; rfl, rfl⟩
theorem New_bad (k : Int) (h : k < 1 ∨ 32 < k) (w : World) : Calls Tryz.prog 25 #[.int .i64 k] w fun e w' => e = .returned (.tuple #[.pointer none, .int .i64 2]) ∧ w = w' := by
  rcases h with h | h
  · go_enter Tryz.func25, Tryz.ntmps25
    go_wp2
    go_ret2
    exact ⟨rfl, rfl⟩
  · have h0 : ¬ k < 1 := by omega
    go_enter Tryz.func25, Tryz.ntmps25
    go_wp2
    go_ret2
    exact ⟨rfl, rfl⟩
theorem New_any (P : Nat) (h0 : 1 ≤ P) (h1 : P ≤ 32) (w : World) : Calls Tryz.prog 25 #[.int .i64 (P : Int)] w fun e w' =>
    ∃ F, e = .returned (.tuple #[.pointer (some ⟨w.heap.size + 1, 0, none⟩), .int .i64 0]) ∧ Sh w' (w.heap.size + 1) P (List.replicate (64 * P) 0) F ∧ (∀ k, F k → w.heap.size ≤ k) ∧ Below w.heap.size w w' := by
  have hmm := @run_makeMap Tryz.prog
  have hz := zero_sh
  have hs := shCells_size
  have hn := shCells_new
  go_enter Tryz.func25, Tryz.ntmps25
  go_wp2
  go_ret2
  have hS := sh_new (w := (w.alloc (.map #[] 0)).alloc (.cells (shCells (fun _ => 0) P (some w.heap.size)) 141)) (S := w.heap.size + 1) (mb := w.heap.size) h0 h1
    (by have := heap_alloc_new (w.alloc (.map #[] 0)) (.cells (shCells (fun _ => 0) P (some w.heap.size)) 141); rwa [World.size_alloc] at this)
    ((World.ownsMap_made w Tryz.prog 3 ptrElem).alloc _)
  refine ⟨_, rfl, hS, ?_, ((Below.refl _ _).alloc (Nat.le_refl _) _).alloc (by simp) _⟩
  rintro k (rfl | rfl | ⟨p, hp, _⟩)
  · omega
  · omega
  · simp [priv, cnt_new] at hp
end Go.Proofs.YtiohlmccnllklaaGreatDoor.L3
namespace Go.Proofs.YtiohlmccnllklaaGreatDoor.L3
open Go.RowKit
set_option maxRecDepth 100000
set_option maxHeartbeats 1000000

theorem add_at (g o k : Nat) : (⟨g, o, none⟩ : Addr).add k = ⟨g, o + k, none⟩ := by unfold Addr.add; split <;> simp_all
theorem ShIs.cellAt {w : World} {S mb P : Nat} {l : List Int} {G : Nat → Nat} {D : DataW Unit} (h : ShIs w S mb P l G D) {p k : Nat} (hk : k < 64) : w.cell? ((pageAt S l G p).add k) = some (.int .u32 (at0 l (64 * p + k))) := by
  unfold pageAt
  cases hq : priv l p with
  | true => rw [if_pos rfl, add_at, Nat.zero_add]; exact (h.cellPage hq hk).1
  | false => rw [if_neg (by simp), add_at, not_priv h.bytes.len hq hk]; exact h.cellNought hk
theorem boxed_cell {w : World} {B : Nat} {v : Value} {t : TypeId} (h : w.heap[B]? = some (.cells #[v] t (0, 0))) : w.cell? ⟨B, 0, none⟩ = some v ∧ w.frozen? ⟨B, 0, none⟩ = false := by simp [World.cell?, World.frozen?, h]
theorem boxed_set {w : World} {B : Nat} {v : Value} {t : TypeId} (h : w.heap[B]? = some (.cells #[v] t (0, 0))) (u : Value) : (w.setCell ⟨B, 0, none⟩ u).heap[B]? = some (.cells #[u] t (0, 0)) := by
  simp [World.setCell, Array.getElem?_modify, h]

theorem Union1_any {w : World} {S mb P : Nat} {l : List Int} {G : Nat → Nat} {D : DataW Unit} (h : ShIs w S mb P l G D) {p k : Nat} (hp : p < P) (hk : k < 64) (BU BS : Nat) (u : Int) (hu : S16 u)
    (b1 : w.heap[BU]? = some (.cells #[.int .u32 u] 23 (0, 0))) (b2 : w.heap[BS]? = some (.cells #[.pointer (some ⟨S, 0, none⟩)] 75 (0, 0))) :
    Calls Tryz.prog 195 #[.int .i64 (p : Int), .int .i64 (k : Int), .pointer (some ⟨BU, 0, none⟩), .pointer (some ⟨BS, 0, none⟩)] w fun e w' => (∃ v, e = .returned v) ∧ w' = w.drew.setCell ⟨BU, 0, none⟩ (.int .u32 (orI u (at0 l (64 * p + k)))) := by
  obtain ⟨c1, f1⟩ := boxed_cell b1
  obtain ⟨c2, f2⟩ := boxed_cell b2
  have HP : Hid (∀ W, W = w.drew → Calls Tryz.prog 196 #[.pointer (some ⟨S, 0, none⟩), .int .i64 (p : Int)] W fun e w' => e = .returned (.pointer (some (pageAt S l G p))) ∧ W = w') := fun W e => by subst e; exact page_any (w := w.drew) (h.kept' (fun _ _ => rfl)) hp
  have cP := h.cellAt (p := p) hk
  have hor := orI_bits u (at0 l (64 * p + k)) hu.w32 (h.bytes.at_ _).w32
  have k0 : (0 : Int) ≤ k := by omega
  have k1 : (k : Int) < 64 := by omega
  generalize pageAt S l G p = A at HP cP
  generalize at0 l (64 * p + k) = x at cP hor ⊢
  clear h b1 b2 hp hk
  go_enter Tryz.func195, Tryz.ntmps195
  go_wp2
  refine wp_region_still_tail 9 (by kernel_rfl) (by kernel_rfl) ?_
  simp only [List.take_succ_cons, List.take_zero, List.drop_succ_cons, List.drop_zero]
  still_step
  still_step
  still_step
  still_call ((HP.out _ rfl).mono fun e w' h => ⟨h.1, h.2.symm⟩)
  still_step
  still_step
  still_step
  still_step
  still_step
  refine wpStill_nil ?_
  change wpList _ _ _ _ _ w.drew
  have c1' : w.drew.cell? ⟨BU, 0, none⟩ = some (.int .u32 u) := c1
  have f1' : w.drew.frozen? ⟨BU, 0, none⟩ = false := f1
  obtain ⟨w2, hw2⟩ : ∃ w2, w2 = w.drew := ⟨_, rfl⟩
  rw [← hw2] at c1' f1' ⊢
  have HW := Lib.hid hw2
  clear c1 f1 cP c2 f2 HP hw2
  go_wp2
  go_end0
  exact ⟨⟨_, rfl⟩, by rw [HW.out]⟩

/-- each, over the closure of Union: what holds behind k bytes. -/
theorem eachU_any (c1 c2 : Value) (a n : Nat) (ha : a + n ≤ 2048) (I : Nat → World → Prop) (w : World) (h0 : I 0 w)
    (hstep : ∀ k W, k < n → I k W → Calls Tryz.prog 195 #[.int .i64 (((a + k) / 64 : Nat) : Int), .int .i64 (((a + k) % 64 : Nat) : Int), c1, c2] W fun e W' => (∃ v, e = .returned v) ∧ I (k + 1) W') :
    Calls Tryz.prog 192 #[.int .i64 (a : Int), .int .i64 (n : Int), .func (.func 195) #[] #[c1, c2]] w fun e w' => (∃ v, e = .returned v) ∧ I n w' := by
  have HS := Lib.hid hstep
  clear hstep
  go_enter Tryz.func192, Tryz.ntmps192
  go_wp2
  go_loopw [6] (fun i wr => ∃ k : Nat, k ≤ n ∧ i = .int .i64 ((a + k : Nat) : Int) ∧ Hid (I k wr)) (fun i _ => a + n - (intOf i).toNat)
  case atStart => exact ⟨0, by omega, rfl, h0⟩
  case round =>
    obtain ⟨k, hk, rfl, hI⟩ := hrel
    by_cases hlt : k < n
    · go_wp2_with fail
      have e1 : ((a : Int) + (k : Int)) / 64 = (((a + k) / 64 : Nat) : Int) := by omega
      have e2 : ((a : Int) + (k : Int)) % 64 = (((a + k) % 64 : Nat) : Int) := by omega
      rw [e1, e2]
      refine (HS.out k _ hlt hI.out).mono ?_
      rintro e W' ⟨⟨v, rfl⟩, hI'⟩
      clear e1 e2
      go_wp2
      go_roundw
      case rel => exact ⟨k + 1, by omega, by go_num, hI'⟩
      case measure => simp [intOf]; omega
    · go_wp2
      go_end0
      obtain rfl : k = n := by omega
      exact ⟨⟨_, rfl⟩, hI.out⟩

def UnionIs (w : World) (BU BS S : Nat) (l : List Int) (a k : Nat) (W : World) : Prop :=
  W.heap[BU]? = some (.cells #[.int .u32 (unionL l a k)] 23 (0, 0)) ∧ W.heap[BS]? = some (.cells #[.pointer (some ⟨S, 0, none⟩)] 75 (0, 0)) ∧ Below w.heap.size w W
/-- What Union tells. -/
def unionV (P : Nat) (l : List Int) (a n : Int) : Int := if insB P a n = true then unionL l a.toNat n.toNat else 0
def unionE (P : Nat) (a n : Int) : Int := if insB P a n = true then 0 else 4
theorem Union_nil (a n : Int) (w : World) : Calls Tryz.prog 190 #[.pointer none, .int .i64 a, .int .i64 n] w fun e w' => e = .returned (.tuple #[.int .u32 0, .int .i64 1]) ∧ Below w.heap.size w w' := by
  go_enter Tryz.func190, Tryz.ntmps190
  go_wp2_with (go_at_call 191; refine (refusal_nil _ _ _ _).mono ?_; rintro e w' ⟨rfl, rfl⟩)
  go_ret2
  exact ⟨rfl, (Below.refl _ _).alloc (Nat.le_refl _) _⟩
theorem Union_any {w : World} {S P : Nat} {l : List Int} {F : Nat → Prop} (h : Sh w S P l F) (a n : Int) :
    Calls Tryz.prog 190 #[.pointer (some ⟨S, 0, none⟩), .int .i64 a, .int .i64 n] w fun e w' => e = .returned (.tuple #[.int .u32 (unionV P l a n), .int .i64 (unionE P a n)]) ∧ Below w.heap.size w w' := by
  obtain ⟨c0, h1, h2⟩ := h.cell
  have hSl := h.lt S h.mem
  have HR : Hid (∀ W, W.cell? ⟨S, 32, none⟩ = w.cell? ⟨S, 32, none⟩ → Calls Tryz.prog 191 #[.pointer (some ⟨S, 0, none⟩), .int .i64 a, .int .i64 n, .int .u32 0] W fun e w' => e = .returned (.int .i64 (unionE P a n)) ∧ W = w') := fun W hW => by
    have := refusal_cell S P a n 0 (by simp [W32]) W (hW.trans c0) h1 h2
    simpa [refR, unionE] using this
  obtain ⟨mb, G, D, rfl, h⟩ := h
  have hb := h.bytes
  by_cases hi : insB P a n = true
  · obtain ⟨i, k, rfl, rfl, hik⟩ := insB_yes hi
    have e0 : unionE P (i : Int) (k : Int) = 0 := by simp [unionE, hi]
    have ev : unionV P l (i : Int) (k : Int) = unionL l i k := by simp [unionV, hi]
    rw [e0] at HR ⊢
    have HE : Hid (∀ W, UnionIs w (w.heap.size + 1) w.heap.size S l i 0 W → Calls Tryz.prog 192 #[.int .i64 (i : Int), .int .i64 (k : Int), .func (.func 195) #[] #[.pointer (some ⟨w.heap.size + 1, 0, none⟩), .pointer (some ⟨w.heap.size, 0, none⟩)]] W fun e w' => (∃ v, e = .returned v) ∧ UnionIs w (w.heap.size + 1) w.heap.size S l i k w') := fun W hW => by
      refine eachU_any _ _ i k (by omega) (UnionIs w (w.heap.size + 1) w.heap.size S l i) W hW ?_
      rintro j W1 hj ⟨u1, u2, u3⟩
      have hP : (i + j) / 64 < P := by omega
      have hs1 := h.kept' (w' := W1) (fun b hb' => u3.block b (h.lt b hb'))
      refine (Union1_any hs1 hP (by omega) (w.heap.size + 1) w.heap.size (unionL l i j) (union_s16 hb i j) u1 u2).mono ?_
      rintro e W2 ⟨hv, rfl⟩
      refine ⟨hv, ?_, ?_, ?_⟩
      · have := boxed_set (w := W1.drew) u1 (.int .u32 (orI (unionL l i j) (at0 l (64 * ((i + j) / 64) + (i + j) % 64))))
        rw [this, show 64 * ((i + j) / 64) + (i + j) % 64 = i + j by omega]
        rfl
      · rw [Below.heap_setCell _ _ _ _ (by simp)]; exact u2
      · exact u3.drew.setCell (p := ⟨w.heap.size + 1, 0, none⟩) (by simp) _
    have EV := Lib.hid ev
    have HU0 : Hid (UnionIs w (w.heap.size + 1) w.heap.size S l i 0 ((w.alloc (.cells #[.pointer (some ⟨S, 0, none⟩)] 75)).alloc (.cells #[.int .u32 0] 23))) := by
      refine ⟨?_, ?_, ((Below.refl _ _).alloc (Nat.le_refl _) _).alloc (by simp) _⟩
      · have := heap_alloc_new (w.alloc (.cells #[.pointer (some ⟨S, 0, none⟩)] 75)) (.cells #[.int .u32 0] 23)
        rwa [World.size_alloc] at this
      · rw [Below.heap_alloc _ _ _ (by simp)]; exact heap_alloc_new w _
    clear e0 hi h ev
    go_enter Tryz.func190, Tryz.ntmps190
    go_wp2_with (first | (go_at_call 191; refine (HR.out _ (World.cell?_alloc_lt _ _ _ (by simpa using hSl))).mono ?_; rintro e w' ⟨rfl, rfl⟩) | (go_at_call 192; refine (HE.out _ HU0.out).mono ?_; rintro e w' ⟨⟨v, rfl⟩, hu⟩; obtain ⟨c9, f9⟩ := boxed_cell hu.1; have HU := Lib.hid hu.2.2; clear hu))
    go_ret2
    exact ⟨by rw [EV.out]; rfl, HU.out⟩
  · have e0 : unionE P a n = 4 := by simp [unionE, hi]
    have ev : unionV P l a n = 0 := by simp [unionV, hi]
    rw [e0] at HR
    rw [e0, ev]
    clear e0 ev hi h
    go_enter Tryz.func190, Tryz.ntmps190
    go_wp2_with (go_at_call 191; refine (HR.out _ (World.cell?_alloc_lt _ _ _ (by simpa using hSl))).mono ?_; rintro e w' ⟨rfl, rfl⟩)
    go_ret2
    exact ⟨rfl, (Below.refl _ _).alloc (Nat.le_refl _) _⟩
theorem Get_nil (a : Int) (w : World) : Calls Tryz.prog 186 #[.pointer none, .int .i64 a] w fun e w' => e = .returned (.tuple #[.int .u32 0, .int .i64 1]) ∧ Below w.heap.size w w' := by
  go_enter Tryz.func186, Tryz.ntmps186
  go_wp2_with (go_at_call 190; refine (Union_nil _ _ _).mono ?_; rintro e w' ⟨rfl, hb⟩)
  go_ret2
  exact ⟨rfl, hb⟩
theorem Get_any {w : World} {S P : Nat} {l : List Int} {F : Nat → Prop} (h : Sh w S P l F) (a : Int) :
    Calls Tryz.prog 186 #[.pointer (some ⟨S, 0, none⟩), .int .i64 a] w fun e w' => e = .returned (.tuple #[.int .u32 (unionV P l a 1), .int .i64 (unionE P a 1)]) ∧ Below w.heap.size w w' := by
  have HU := Lib.hid (Union_any h a 1)
  clear h
  go_enter Tryz.func186, Tryz.ntmps186
  go_wp2_with (go_at_call 190; refine (HU.out).mono ?_; rintro e w' ⟨rfl, hb⟩)
  go_ret2
  exact ⟨rfl, hb⟩
end Go.Proofs.YtiohlmccnllklaaGreatDoor.L3
namespace Go.Proofs.YtiohlmccnllklaaGreatDoor.L3
set_option maxRecDepth 100000
open Go.RowKit Go.Shelf
attribute [local go_sem] Oper.semAt_some
set_option maxHeartbeats 1000000

abbrev pEnc (G : Nat → Nat) (p : Nat) : Array Value := #[.int .i64 (p : Int), .pointer (some ⟨G p, 0, none⟩)]

theorem privs_yes {l : List Int} {k : Nat} (h : priv l k = true) : privs l (k + 1) = privs l k ++ [k] := by rw [privs_succ, if_pos h]
theorem privs_no {l : List Int} {k : Nat} (h : priv l k = false) : privs l (k + 1) = privs l k := by rw [privs_succ, h]; simp
theorem privs_split (l : List Int) (k : Nat) : ∀ d, ∃ r, privs l (k + d) = privs l k ++ r
  | 0 => ⟨[], by simp⟩
  | d + 1 => by
    obtain ⟨r, hr⟩ := privs_split l k d
    rw [show k + (d + 1) = (k + d) + 1 by omega, privs_succ, hr]
    exact ⟨_, by rw [List.append_assoc]⟩
theorem privs_mid {l : List Int} {k P : Nat} (hk : k < P) (hp : priv l k = true) : ∃ r, privs l P = privs l k ++ k :: r := by
  obtain ⟨r, hr⟩ := privs_split l (k + 1) (P - (k + 1))
  rw [show k + 1 + (P - (k + 1)) = P by omega, privs_yes hp] at hr
  exact ⟨r, by rw [hr]; simp⟩
theorem privs_part {l : List Int} {k P : Nat} (hk : k ≤ P) : ∃ r, privs l P = privs l k ++ r := by
  obtain ⟨r, hr⟩ := privs_split l k (P - k)
  rw [show k + (P - k) = P by omega] at hr
  exact ⟨r, hr⟩

theorem eachP1_nil (B : Nat) (w : World) (hB : w.heap[B]? = some (.cells #[.pointer none] 75 (0, 0))) (M : Nat → Prop) (G : Nat → Nat) : Gives Tryz.prog 124 #[.pointer (some ⟨B, 0, none⟩)] (pEnc G) M ([] : List Nat) w := fun n ll J Jx W hW _ _ _ h0 => by
  refine callsIn_of_wp Tryz.func124 rfl trivial ?_ rfl
  simp only [Tryz.ntmps124, List.size_toArray, List.length_cons, List.length_nil, Nat.reduceAdd, Nat.reduceSub, Array.replicate_succ, Array.replicate_zero, List.push_toArray, List.append_toArray, List.nil_append, List.cons_append]
  obtain ⟨c1, _⟩ := boxed_cell ((hW.block B (Array.getElem?_eq_some_iff.1 hB).1).trans hB)
  gi_wp2_with (refine ⟨trivial, fun hd => (by cases hd), ?_⟩; gi_at_call 111; refine (callsIn_wide.2 (none_nil _)).mono ?_; rintro e w1 ⟨rfl, rfl⟩)
  refine bodyPost_ret (results_none rfl _ _ _) rfl ?_
  exact ⟨⟨_, rfl⟩, .inl h0⟩

theorem ShIs.noPls {w : World} {S mb P : Nat} {l : List Int} {G : Nat → Nat} {D : DataW Unit} (h : ShIs w S mb P l G D) {k : Nat} (hk : shB S mb l G k) : ¬ Pls w k := by
  rcases hk with rfl | rfl | ⟨p, hp, rfl⟩
  · exact Pls.not h.blk (by decide)
  · obtain ⟨es, c, hb⟩ := h.mapBlk; exact Pls.notMap hb
  · exact Pls.not (h.page p hp) (by decide)
theorem eachP1_gives {w : World} {S mb P : Nat} {l : List Int} {G : Nat → Nat} {D : DataW Unit} (h : ShIs w S mb P l G D) (B : Nat) (hB : w.heap[B]? = some (.cells #[.pointer (some ⟨S, 0, none⟩)] 75 (0, 0))) (M : Nat → Prop) (hMB : ¬ M B) (hM : ∀ k, shB S mb l G k → ¬ M k) :
    Gives Tryz.prog 124 #[.pointer (some ⟨B, 0, none⟩)] (pEnc G) M (privs l P) w := fun n ll J Jx W hW hJ hJx hY h0 => by
  refine callsIn_of_wp Tryz.func124 rfl trivial ?_ rfl
  simp only [Tryz.ntmps124, List.size_toArray, List.length_cons, List.length_nil, Nat.reduceAdd, Nat.reduceSub, Array.replicate_succ, Array.replicate_zero, List.push_toArray, List.append_toArray, List.nil_append, List.cons_append]
  have hBl : B < w.heap.size := (Array.getElem?_eq_some_iff.1 hB).1
  have hBW : W.heap[B]? = some (.cells #[.pointer (some ⟨S, 0, none⟩)] 75 (0, 0)) := (hW.block B hBl).trans hB
  have hSW : ShIs W S mb P l G D := h.kept' fun k hk => hW.block k (h.lt k hk)
  obtain ⟨c1, _⟩ := boxed_cell hBW
  obtain ⟨c2, c3, _⟩ := hSW.cells
  have hlo := h.bytes.lo
  have hhi := h.bytes.hi
  have HLt := Lib.hid h.lt
  gi_wp2_with (refine ⟨trivial, fun hd => (by cases hd), ?_⟩; gi_at_call 111; refine (callsIn_wide.2 (none_some S P _ c2 hlo)).mono ?_; rintro e w1 ⟨rfl, rfl⟩)
  gi_loopw [12] (fun k wr => ∃ j : Nat, j ≤ P ∧ k = .int .i64 j ∧ Hid (J (privs l j) wr) ∧ Hid (wr.heap[B]? = some (.cells #[.pointer (some ⟨S, 0, none⟩)] 75 (0, 0))) ∧ Hid (ShIs wr S mb P l G D)) (fun k _ => P - (intOf k).toNat)
  case atStart => exact ⟨0, by omega, rfl, h0, hBW, hSW⟩
  case round =>
    obtain ⟨j, hj, rfl, hJ0, hb0, hs0⟩ := hrel
    clear c1 c2 c3
    by_cases hlt : j < P
    · obtain ⟨c1, _⟩ := boxed_cell hb0.out
      obtain ⟨c2, c3, _⟩ := hs0.out.cells
      cases hq : priv l j with
      | true =>
        have hlk := (hs0.out.look_yes hq).1
        obtain ⟨r, hr⟩ := privs_mid hlt hq
        have hYj := fun m => hY m (privs l j) j r wr hr hJ0.out
        have HL := Lib.hid (privs_yes hq)
        have HR := Lib.hid hr
        clear hq hr
        obtain ⟨f0, t0, a0, b0, hy0, hR0⟩ := hYj 0
        have HRa := Lib.hid (fun m' : Nat => (show RoundIn Fence.wide m' Tryz.prog ll f0 t0 a0 b0 wr _ from ⟨hR0.1, fun c cs _ => hR0.2 c cs (room_wide _)⟩))
        clear hR0 hYj
        gi_wp2
        refine ⟨fun hd => (by cases hd), (HRa.out _).mono ?_⟩
        rintro e W0 ⟨(⟨rfl, hj0⟩ | ⟨rfl, hx0⟩), hk0⟩
        · gi_wp2
          refine ⟨⟨j + 1, by omega, by go_num, by rw [HL.out]; exact hj0, (hk0.2 B (Array.getElem?_eq_some_iff.1 hb0.out).1 (by rintro (hm | hm); exact hMB hm; omega) (Pls.not hb0.out (by decide))).trans hb0.out, hs0.out.kept' fun k hk => hk0.2 k (hs0.out.lt k hk) (by rintro (hm | hm); exact hM k hk hm; have := HLt.out k hk; omega) (hs0.out.noPls hk)⟩, ?_⟩
          simp [intOf]; omega
        · gi_wp2
          refine bodyPost_ret (results_none rfl _ _ _) rfl ?_
          refine ⟨⟨_, rfl⟩, .inr ⟨privs l j ++ [j], r, by rw [HR.out]; simp, hx0⟩⟩
      | false =>
        have hlk := (hs0.out.look_no (k := (j : Int)) (wf_i64 (by omega) (by omega)) (by simp [hq])).1
        have HL := Lib.hid (privs_no hq)
        clear hq
        gi_wp2
        all_goals refine ⟨fun _ h => (by cases h), ?_⟩
        all_goals gi_wp2
        all_goals refine ⟨⟨j + 1, by omega, by go_num, by rw [HL.out]; exact hJ0.out, hb0.out, hs0.out⟩, ?_⟩
        all_goals simp [intOf]
        all_goals omega
    · gi_wp2
      go_end0
      obtain rfl : j = P := by omega
      exact ⟨⟨_, rfl⟩, .inl hJ0.out⟩
/-- The iterator's value over the box B. -/
abbrev eachV (B : Nat) : Value := .func (.func 124) #[] #[.pointer (some ⟨B, 0, none⟩)]
theorem eachP_any (q : Option Addr) (w : World) : Calls Tryz.prog 112 #[.pointer q] w fun e w' => e = .returned (eachV w.heap.size) ∧ w' = w.alloc (.cells #[.pointer q] 75) := by
  have hmf : ∀ (fn : Fn) (first cap : Array Value) (w : World), (Instr.makeFunc fn first cap).run Tryz.prog w = .ok (.func fn first cap) w := fun _ _ _ _ => rfl
  go_enter Tryz.func112, Tryz.ntmps112
  go_wp2
  go_ret
  exact ⟨rfl, rfl⟩
end Go.Proofs.YtiohlmccnllklaaGreatDoor.L3
namespace Go.Proofs.YtiohlmccnllklaaGreatDoor.L3
open Go.RowKit
set_option maxRecDepth 100000
set_option maxHeartbeats 1000000

theorem set_cells {w : World} {B k : Nat} {arr : Array Value} {t : TypeId} {fr : Nat × Nat} (h : w.heap[B]? = some (.cells arr t fr)) (v : Value) : (w.setCell ⟨B, k, none⟩ v).heap[B]? = some (.cells (arr.setIfInBounds k v) t fr) := by
  simp [World.setCell, Array.getElem?_modify, h]
/-- What count leaves: at most one block turned, one cell of it. -/
structure Stored (w w' : World) (B k : Nat) (v : Value) : Prop where
  turned : Turned (fun j => j = B) w w'
  blk : ∀ arr t fr, w.heap[B]? = some (.cells arr t fr) → w'.heap[B]? = some (.cells (arr.setIfInBounds k v) t fr)
theorem Stored.set (w : World) (B k : Nat) (v : Value) : Stored w (w.setCell ⟨B, k, none⟩ v) B k v :=
  ⟨(Turned.refl (fun j => j = B) w).setCell (p := ⟨B, k, none⟩) (.inl rfl) _, fun _ _ _ h => set_cells h v⟩
theorem Stored.drew {w w' : World} {B k : Nat} {v : Value} (h : Stored w w' B k v) : Stored w w'.drew B k v := ⟨h.turned.drew, h.blk⟩
theorem Stored.again {w w' w'' : World} {B k : Nat} {v v' : Value} (h : Stored w w' B k v) (h' : Stored w' w'' B k v') : Stored w w'' B k v' :=
  ⟨h.turned.trans h'.turned (fun x hx => .inl hx), fun arr t fr hb => by
    have := h'.blk _ _ _ (h.blk _ _ _ hb)
    rw [this, Array.setIfInBounds_setIfInBounds]⟩
theorem Stored.begin {w w1 w' : World} {B k : Nat} {v : Value} (he : w1.heap = w.heap) (ho : w1.os = w.os) (ht : w1.tape = w.tape) (hu : w1.output = w.output) (h : Stored w1 w' B k v) : Stored w w' B k v :=
  ⟨⟨h.turned.os.trans ho, h.turned.tape.trans ht, h.turned.output.trans hu, by rw [← he]; exact h.turned.size, fun j hj hn => by rw [h.turned.block j (by rw [he]; exact hj) hn, he]⟩, fun arr t fr hb => h.blk arr t fr (by rw [he]; exact hb)⟩

theorem count_any (S p c : Nat) (a b : Int) (w : World) (hp : p < 32) (hc : c ≤ 64) (hab : a ≠ 0 ∨ b ≠ 0) (h1 : a ≠ 0 → 1 ≤ c) (c1 : w.cell? ⟨S, p, none⟩ = some (.int .i64 (c : Int))) (f1 : w.frozen? ⟨S, p, none⟩ = false) :
    Calls Tryz.prog 198 #[.pointer (some ⟨S, 0, none⟩), .int .i64 (p : Int), .int .u32 a, .int .u32 b] w fun e w' => (∃ v, e = .returned v) ∧ Stored w w' S p (.int .i64 ((c + (if b ≠ 0 then 1 else 0) - (if a ≠ 0 then 1 else 0) : Nat) : Int)) := by
  have k0 : (0 : Int) ≤ p := by omega
  have k1 : (p : Int) < 32 := by omega
  have hA : (⟨S, 0, none⟩ : Addr).add p = ⟨S, p, none⟩ := by unfold Addr.add; split <;> simp_all
  have sA : w.cell? ((⟨S, 0, none⟩ : Addr).add p) = some (.int .i64 (c : Int)) := by rw [hA]; exact c1
  have sF : w.frozen? ((⟨S, 0, none⟩ : Addr).add p) = false := by rw [hA]; exact f1
  by_cases ha : a = 0
  · have hb : b ≠ 0 := by rcases hab with h | h; exact absurd ha h; exact h
    have ea : (a == 0) = true := by simpa using ha
    have eb : (b == 0) = false := by simpa using hb
    have HV : Hid ((c + (if b ≠ 0 then 1 else 0) - (if a ≠ 0 then 1 else 0) : Nat) = c + 1) := by simp [Hid, ha, hb]
    generalize (c + (if b ≠ 0 then 1 else 0) - (if a ≠ 0 then 1 else 0) : Nat) = r at HV ⊢
    clear hab h1 ha hb
    go_enter Tryz.func198, Tryz.ntmps198
    go_wp2
    go_region
    go_end0
    refine ⟨⟨_, rfl⟩, ?_⟩
    rw [HV.out]
    exact (Stored.set w S p (.int .i64 ((c + 1 : Nat) : Int))).drew
  · have hc1 := h1 ha
    have ea : (a == 0) = false := by simpa using ha
    by_cases hb : b = 0
    · have eb : (b == 0) = true := by simpa using hb
      have HV : Hid ((c + (if b ≠ 0 then 1 else 0) - (if a ≠ 0 then 1 else 0) : Nat) = c - 1) := by simp [Hid, ha, hb]
      generalize (c + (if b ≠ 0 then 1 else 0) - (if a ≠ 0 then 1 else 0) : Nat) = r at HV ⊢
      clear hab h1 ha hb
      go_enter Tryz.func198, Tryz.ntmps198
      go_wp2
      go_region
      go_wp2
      go_end0
      refine ⟨⟨_, rfl⟩, ?_⟩
      rw [HV.out]
      have := (Stored.set w S p (.int .i64 ((c : Int) - 1))).drew
      rw [show ((c : Int) - 1) = ((c - 1 : Nat) : Int) by omega] at this ⊢
      exact this
    · have eb : (b == 0) = false := by simpa using hb
      have HV : Hid ((c + (if b ≠ 0 then 1 else 0) - (if a ≠ 0 then 1 else 0) : Nat) = c) := by simp [Hid, ha, hb]
      generalize (c + (if b ≠ 0 then 1 else 0) - (if a ≠ 0 then 1 else 0) : Nat) = r at HV ⊢
      clear hab h1 ha hb
      go_enter Tryz.func198, Tryz.ntmps198
      go_wp2
      go_region
      go_wp2
      have HS0 := Lib.hid (Stored.set w S p (.int .i64 ((c : Int) - 1))).drew
      have fz : (w.setCell ⟨S, p, none⟩ (.int .i64 ((c : Int) - 1))).frozen? ⟨S, p, none⟩ = false := by rw [World.frozen?_setCell]; exact f1
      have cz : (w.setCell ⟨S, p, none⟩ (.int .i64 ((c : Int) - 1))).cell? ⟨S, p, none⟩ = some (.int .i64 ((c : Int) - 1)) := World.cell?_setCell_same _ _ _ c1
      generalize w.setCell ⟨S, p, none⟩ (.int .i64 ((c : Int) - 1)) = w2 at HS0 fz cz ⊢
      have cz' : w2.drew.cell? ⟨S, p, none⟩ = some (.int .i64 ((c : Int) - 1)) := cz
      have fz' : w2.drew.frozen? ⟨S, p, none⟩ = false := fz
      obtain ⟨w3, hw3⟩ : ∃ w3, w3 = w2.drew := ⟨_, rfl⟩
      rw [← hw3] at cz' fz' HS0 ⊢
      clear cz fz hw3 w2 c1 f1 sA sF
      go_region
      go_end0
      refine ⟨⟨_, rfl⟩, ?_⟩
      rw [HV.out]
      exact (HS0.out.again (Stored.set w3 S p (.int .i64 (c : Int)))).drew
end Go.Proofs.YtiohlmccnllklaaGreatDoor.L3
namespace Go.Proofs.YtiohlmccnllklaaGreatDoor.L3
open Go.RowKit
set_option maxRecDepth 100000
set_option maxHeartbeats 1000000

theorem map_tight {w : World} {P : Program} {k : TypeId} {R : Value → Option (DataW Unit × List MemPlace)} {b n : Nat} {D : DataW Unit} (h : w.ownsMap P k R b n D) {m : Nat} (hm : Maps.size D ≤ m) : w.ownsMap P k R b m D := by
  obtain ⟨es, clock, hb, F, hs, rfl⟩ := h
  refine ⟨es, clock, hb, F, ?_, rfl⟩
  simpa [Maps.size, length_sorted] using hm
theorem cells_set {P : Nat} {l : List Int} (h : l.length = 64 * P) {p k : Nat} (hp : p < P) (hk : k < 64) (x : Int) :
    (((pg l p).map (Value.int .u32)).toArray).setIfInBounds k (.int .u32 x) = ((pg (l.set (64 * p + k) x) p).map (Value.int .u32)).toArray := by
  rw [pg_set_same h hp hk]; simp
theorem counts_set {P : Nat} {l : List Int} (h : l.length = 64 * P) {p k : Nat} (hp : p < P) (h32 : P ≤ 32) (hk : k < 64) (x : Int) (m : Option Nat) {c : Nat} (hc : c = cnt (l.set (64 * p + k) x) p) :
    (shCells (cnt l) P m).setIfInBounds p (.int .i64 (c : Int)) = shCells (cnt (l.set (64 * p + k) x)) P m := by
  rw [shCells_count _ _ _ (by omega)]
  congr 1
  funext q
  by_cases e : q = p
  · subst e; rw [if_pos rfl, hc]
  · rw [if_neg e, cnt_set_other h hp hk e]
theorem priv_other {P : Nat} {l : List Int} (h : l.length = 64 * P) {p k : Nat} (hp : p < P) (hk : k < 64) (x : Int) {q : Nat} (e : q ≠ p) : priv (l.set (64 * p + k) x) q = priv l q := by unfold priv; rw [cnt_set_other h hp hk e]

section
variable {w w' : World} {S mb P : Nat} {l : List Int} {G : Nat → Nat} {D : DataW Unit} {p k : Nat} {x : Int}
/-- Private ahead of it, and behind it. -/
theorem put_keep (h : ShIs w S mb P l G D) (hp : p < P) (hk : k < 64) (hx : S16 x) (hq : priv l p = true) (hq' : priv (l.set (64 * p + k) x) p = true) (t : Turned (fun j => j = S ∨ j = G p) w w')
    (hS : w'.heap[S]? = some (.cells (shCells (cnt (l.set (64 * p + k) x)) P (some mb)) 141 (0, 0))) (hG : w'.heap[G p]? = some (.cells ((pg (l.set (64 * p + k) x) p).map (Value.int .u32)).toArray 139 (0, 0))) :
    Sh w' S P (l.set (64 * p + k) x) (shB S mb l G) := by
  have hl := h.bytes.len
  have hpr : ∀ q, priv (l.set (64 * p + k) x) q = priv l q := fun q => by
    by_cases e : q = p
    · subst e; rw [hq, hq']
    · exact priv_other hl hp hk x e
  have hps : privs (l.set (64 * p + k) x) P = privs l P := by unfold privs; congr 1; exact funext hpr
  refine ⟨mb, G, D, ?_, h.bytes.set _ hx, hS, ?_, ⟨fun j => ?_, fun q h2 => ?_, ?_⟩, fun q h2 => ?_, fun q r h2 h3 => ?_⟩
  · funext j; unfold shB; simp [hpr]
  · rw [hps]; exact t.map h.map (by rintro (e | e); exact h.ne1 e.symm; exact (h.ne2 hq).2 e.symm)
  · rw [h.pd.has, hpr]
  · exact h.pd.at_ q (by rw [← hpr]; exact h2)
  · rw [hps]; exact h.pd.size
  · rw [hpr] at h2
    by_cases e : q = p
    · subst e; exact hG
    · rw [pg_set_other hl hp hk e]
      exact t.keep (h.page q h2) (by rintro (e' | e'); exact (h.ne2 h2).1 e'; exact e (h.inj q p h2 hq e'))
  · rw [hpr] at h2 h3; exact h.inj q r h2 h3
/-- Private ahead of it, shared behind it. -/
theorem put_drop (h : ShIs w S mb P l G D) (hp : p < P) (hk : k < 64) (hx : S16 x) (hq : priv l p = true) (hq' : priv (l.set (64 * p + k) x) p = false) (t : Turned (fun j => j = S ∨ j = G p ∨ j = mb) w w')
    (hS : w'.heap[S]? = some (.cells (shCells (cnt (l.set (64 * p + k) x)) P (some mb)) 141 (0, 0))) {n : Nat} (hm : w'.ownsMap Tryz.prog 3 ptrElem mb n (D.del (.int .i64 (p : Int)))) :
    ∃ F', Sh w' S P (l.set (64 * p + k) x) F' ∧ ∀ j, F' j → shB S mb l G j := by
  have hl := h.bytes.len
  have hpr : ∀ q, priv (l.set (64 * p + k) x) q = (priv l q && !(q == p)) := fun q => by
    by_cases e : q = p
    · subst e; rw [hq']; simp
    · rw [priv_other hl hp hk x e]; simp [e]
  have hsz : Maps.size (D.del (.int .i64 (p : Int))) = (privs (l.set (64 * p + k) x) P).length := by
    have h1 := Maps.size_del (k := .int .i64 (p : Int)) (h.map.tidy numLaw)
    have h2 := privs_set hl hp hk x
    rw [h.pd.has, h.pd.size] at h1
    simp [hq] at h1 h2
    simp [hq'] at h2
    omega
  refine ⟨_, ⟨mb, G, _, rfl, h.bytes.set _ hx, hS, map_tight hm (by rw [hsz]; exact Nat.le_refl _), ⟨fun j => ?_, fun q h2 z => ?_, hsz⟩, fun q h2 => ?_, fun q r h2 h3 => ?_⟩, ?_⟩
  · by_cases e : j = (p : Int)
    · subst e; rw [Maps.has_del_same]; simp [hpr]
    · rw [Maps.has_del_other (by simpa using e), h.pd.has, hpr]
      by_cases h0 : 0 ≤ j
      · have : ¬ j.toNat = p := by omega
        simp [h0, this]
      · simp [h0]
  · rw [hpr] at h2
    simp at h2
    rw [Maps.atKey_del_other (by simp; omega)]
    exact h.pd.at_ q h2.1 z
  · rw [hpr] at h2
    simp at h2
    rw [pg_set_other hl hp hk h2.2]
    refine t.keep (h.page q h2.1) ?_
    rintro (e | e | e)
    · exact (h.ne2 h2.1).1 e
    · exact h2.2 (h.inj q p h2.1 hq e)
    · exact (h.ne2 h2.1).2 e
  · rw [hpr] at h2 h3
    simp at h2 h3
    exact h.inj q r h2.1 h3.1
  · rintro j (e | e | ⟨q, h2, e⟩)
    · exact .inl e
    · exact .inr (.inl e)
    · rw [hpr] at h2
      simp at h2
      exact .inr (.inr ⟨q, h2.1, e⟩)
/-- Shared ahead of it, private behind it, in the new block g. -/
theorem put_new (h : ShIs w S mb P l G D) (hp : p < P) (hk : k < 64) (hx : S16 x) (hq : priv l p = false) (hq' : priv (l.set (64 * p + k) x) p = true) {g : Nat} (hg : w.heap.size ≤ g) (t : Turned (fun j => j = S ∨ j = mb) w w')
    (hS : w'.heap[S]? = some (.cells (shCells (cnt (l.set (64 * p + k) x)) P (some mb)) 141 (0, 0))) (hG : w'.heap[g]? = some (.cells ((pg (l.set (64 * p + k) x) p).map (Value.int .u32)).toArray 139 (0, 0)))
    {n : Nat} (hm : w'.ownsMap Tryz.prog 3 ptrElem mb n (D.put (.int .i64 (p : Int)) (.lit (.int .i64 (g : Int))))) :
    ∃ F', Sh w' S P (l.set (64 * p + k) x) F' ∧ ∀ j, F' j → shB S mb l G j ∨ w.heap.size ≤ j := by
  have hl := h.bytes.len
  have hD := h.map.isMap
  have hpr : ∀ q, q ≠ p → priv (l.set (64 * p + k) x) q = priv l q := fun q e => priv_other hl hp hk x e
  have hsz : Maps.size (D.put (.int .i64 (p : Int)) (.lit (.int .i64 (g : Int)))) = (privs (l.set (64 * p + k) x) P).length := by
    rw [Maps.size_put (h.map.tidy numLaw)]
    have h2 := privs_set hl hp hk x
    rw [h.pd.has, h.pd.size]
    simp [hq] at h2 ⊢
    simp [hq'] at h2
    omega
  refine ⟨_, ⟨mb, fun q => if q = p then g else G q, _, rfl, h.bytes.set _ hx, hS, map_tight hm (by rw [hsz]; exact Nat.le_refl _), ⟨fun j => ?_, fun q h2 z => ?_, hsz⟩, fun q h2 => ?_, fun q r h2 h3 e => ?_⟩, ?_⟩
  · by_cases e : j = (p : Int)
    · subst e; rw [Maps.has_put_same hD (isKey _)]; simp [hq']
    · rw [Maps.has_put_other (by simpa using e), h.pd.has]
      by_cases h0 : 0 ≤ j
      · rw [hpr _ (show j.toNat ≠ p by omega)]
      · simp [h0]
  · by_cases e : q = p
    · subst e; rw [Maps.atKey_put_same hD (isKey _)]; simp
    · rw [Maps.atKey_put_other (by simp; omega), h.pd.at_ q (by rw [← hpr q e]; exact h2)]; simp [e]
  · by_cases e : q = p
    · subst e; simpa using hG
    · rw [hpr q e] at h2
      rw [if_neg e, pg_set_other hl hp hk e]
      refine t.keep (h.page q h2) ?_
      rintro (e' | e')
      · exact (h.ne2 h2).1 e'
      · exact (h.ne2 h2).2 e'
  · have lt : ∀ q, priv l q = true → G q < w.heap.size := fun q hq2 => h.lt _ (.inr (.inr ⟨q, hq2, rfl⟩))
    by_cases e1 : q = p <;> by_cases e2 : r = p
    · omega
    · subst e1
      rw [hpr r e2] at h3
      have := lt r h3
      simp [e2] at e
      omega
    · subst e2
      rw [hpr q e1] at h2
      have := lt q h2
      simp [e1] at e
      omega
    · rw [hpr q e1] at h2
      rw [hpr r e2] at h3
      simp [e1, e2] at e
      exact h.inj q r h2 h3 e
  · rintro j (e | e | ⟨q, h2, e⟩)
    · exact .inl (.inl e)
    · exact .inl (.inr (.inl e))
    · by_cases e1 : q = p
      · subst e1; simp at e; right; omega
      · rw [hpr q e1] at h2
        simp [e1] at e
        exact .inl (.inr (.inr ⟨q, h2, e⟩))
theorem set_same {l : List Int} {i : Nat} (hi : i < l.length) : l.set i (at0 l i) = l := by
  refine List.ext_getElem? fun j => ?_
  rw [List.getElem?_set]
  by_cases e : i = j
  · subst e; unfold at0; rw [List.getElem?_eq_getElem hi]; simp [hi]
  · rw [if_neg e]
end
end Go.Proofs.YtiohlmccnllklaaGreatDoor.L3
namespace Go.Proofs.YtiohlmccnllklaaGreatDoor.L3
open Go.RowKit
set_option maxRecDepth 100000
set_option maxHeartbeats 1000000

def PutPost (w : World) (S P : Nat) (l : List Int) (F : Nat → Prop) (w' : World) : Prop := ∃ F', Sh w' S P l F' ∧ Turned F w w' ∧ ∀ j, F' j → F j ∨ w.heap.size ≤ j
def zPage : Array Value := Array.replicate 64 (.int .u32 0)
theorem zero_page (w : World) : (zeroValue 139).run Tryz.prog w = .ok (.agg zPage) w := by kernel_rfl
theorem zPage_pg {P : Nat} {l : List Int} (h : l.length = 64 * P) {p : Nat} (hp : p < P) (hq : priv l p = false) : zPage = ((pg l p).map (Value.int .u32)).toArray := by
  refine Array.ext_getElem? fun j => ?_
  unfold zPage
  by_cases hj : j < 64
  · have := at_pg h hp hj; simp [Array.getElem?_replicate, hj, this, not_priv h hq hj]
  · rw [Array.getElem?_eq_none (by simp; omega), Array.getElem?_eq_none (by simp [pg_len h hp]; omega)]

theorem put_same {w : World} {S P : Nat} {l : List Int} {F : Nat → Prop} (h : Sh w S P l F) {p k : Nat} (hp : p < P) (hk : k < 64) (x : Int) (hx : x = at0 l (64 * p + k)) :
    Calls Tryz.prog 194 #[.pointer (some ⟨S, 0, none⟩), .int .i64 (p : Int), .int .i64 (k : Int), .int .u32 x] w fun e w' => (∃ v, e = .returned v) ∧ w = w' := by
  obtain ⟨mb, G, D, rfl, h⟩ := h
  have HP := Lib.hid (page_any h hp)
  have cP := h.cellAt (p := p) hk
  rw [← hx] at cP
  have k0 : (0 : Int) ≤ k := by omega
  have k1 : (k : Int) < 64 := by omega
  generalize pageAt S l G p = A at HP cP
  clear h hx hk
  go_enter Tryz.func194, Tryz.ntmps194
  go_wp2_with (go_at_call 196; refine (HP.out).mono ?_; rintro e w' ⟨rfl, rfl⟩)
  refine bodyPost_ret (results_none rfl _ _ _) rfl ?_
  exact ⟨⟨_, rfl⟩, rfl⟩

theorem put_private {w : World} {S P : Nat} {l : List Int} {F : Nat → Prop} (h : Sh w S P l F) {p k : Nat} (hp : p < P) (hk : k < 64) (x : Int) (hx : S16 x) (hne : x ≠ at0 l (64 * p + k)) (hq : priv l p = true) :
    Calls Tryz.prog 194 #[.pointer (some ⟨S, 0, none⟩), .int .i64 (p : Int), .int .i64 (k : Int), .int .u32 x] w fun e w' => (∃ v, e = .returned v) ∧ PutPost w S P (l.set (64 * p + k) x) F w' := by
  obtain ⟨mb, G, D, rfl, h⟩ := h
  have hlen := h.bytes.len
  have h32 := h.bytes.hi
  have HH := Lib.hid h
  obtain ⟨cM0, cM, fM⟩ := h.cells
  have HP := Lib.hid (page_any h hp)
  have hpa : pageAt S l G p = ⟨G p, 0, none⟩ := by simp [pageAt, hq]
  have cP := h.cellAt (p := p) hk
  have hcnt := cnt_set_same hlen hp hk x
  rw [hpa, add_at, Nat.zero_add] at cP
  rw [hpa] at HP
  obtain ⟨look1, look2⟩ := h.look_yes hq
  obtain ⟨d1, d2⟩ := h.ne2 hq
  have d3 := h.ne1
  -- the world behind the store, and behind the count
  have fP : w.frozen? ⟨G p, k, none⟩ = false   := (h.cellPage hq hk).2
  have look2' : (Instr.lookup 134 (.map (some mb)) (.int .i64 (p : Int)) false).run Tryz.prog w = .ok (.pointer (some ⟨G p, 0, none⟩)) w := look2
  obtain ⟨w1, hw1⟩ : ∃ w1, w1 = w.setCell ⟨G p, k, none⟩ (.int .u32 x) := ⟨_, rfl⟩
  have t1 : Turned (fun j => j = G p) w w1 := by rw [hw1]; exact (Turned.refl (fun j => j = G p) w).setCell (p := ⟨G p, k, none⟩) (.inl rfl) _
  have g1 : w1.heap[G p]? = some (.cells ((pg (l.set (64 * p + k) x) p).map (Value.int .u32)).toArray 139 (0, 0)) := by
    rw [hw1, ← cells_set hlen hp hk]; exact set_cells (h.page p hq) _
  have s1 := t1.keep h.blk (fun e => d1 e.symm)
  have m1 := t1.map h.map (fun e => d2 e.symm)
  have cc := (h.cellCnt (p := p) (by omega))
  have cC : w1.cell? ⟨S, p, none⟩ = some (.int .i64 (cnt l p : Int)) ∧ w1.frozen? ⟨S, p, none⟩ = false := by
    simp [World.cell?, World.frozen?, s1, shCells_cnt (cnt l) (P : Int) (some mb) (show p < 32 by omega)]
  have hc1 : 1 ≤ cnt l p := by simp [priv] at hq; omega
  have hca : at0 l (64 * p + k) ≠ 0 ∨ x ≠ 0 := by by_cases e : x = 0; left; rw [← e]; exact fun e' => hne e'.symm; right; exact e
  have HC := Lib.hid (count_any S p (cnt l p) (at0 l (64 * p + k)) x w1 (by omega) (cnt_le l p) hca (fun _ => hc1) cC.1 cC.2)
  have hcv : cnt l p + (if x ≠ 0 then 1 else 0) - (if at0 l (64 * p + k) ≠ 0 then 1 else 0) = cnt (l.set (64 * p + k) x) p := by omega
  rw [hcv] at HC
  have hdone : ∀ w2, Stored w1 w2 S p (.int .i64 (cnt (l.set (64 * p + k) x) p : Int)) → w2.heap[S]? = some (.cells (shCells (cnt (l.set (64 * p + k) x)) P (some mb)) 141 (0, 0)) ∧ Turned (fun j => j = S ∨ j = G p) w w2 ∧
      w2.heap[G p]? = some (.cells ((pg (l.set (64 * p + k) x) p).map (Value.int .u32)).toArray 139 (0, 0)) ∧ w2.ownsMap Tryz.prog 3 ptrElem mb (privs l P).length D := fun w2 hs =>
    ⟨by have := hs.blk _ _ _ s1; rwa [counts_set hlen hp h32 hk x (some mb) rfl] at this, (t1.mono (fun j e => .inr e)).trans hs.turned (fun j e => .inl (.inl e)), hs.turned.keep g1 d1, hs.turned.map m1 (fun e => d3 e.symm)⟩
  have HD := Lib.hid hdone
  have k0 : (0 : Int) ≤ k := by omega
  have k1 : (k : Int) < 64 := by omega
  have p0 : (0 : Int) ≤ p := by omega
  have p1 : (p : Int) < 32 := by omega
  have hN : (at0 l (64 * p + k) == x) = false := by simpa using fun e => hne e.symm
  have HW := Lib.hid hw1
  have key := key_int (x := (p : Int)) (wf_i64 (by omega) (by omega))
  have HX := Lib.hid hx
  have HQ := Lib.hid hq
  have HLen := Lib.hid hlen
  generalize hxx : at0 l (64 * p + k) = x0 at cP HC hN
  have cnt32 : cnt (l.set (64 * p + k) x) p ≤ 64 := cnt_le _ _
  generalize hcc : cnt (l.set (64 * p + k) x) p = c at HC cnt32
  have HCC := Lib.hid hcc
  clear hcc hxx hdone hca hcv cC cc s1 g1 m1 t1 hc1 h hq hx hlen hne hpa d1 d2 d3 look1 look2 hcnt hw1
  by_cases hz : c = 0
  · subst hz
    go_enter Tryz.func194, Tryz.ntmps194
    go_wp2_with (first | (go_at_call 196; refine (HP.out).mono ?_; rintro e w' ⟨rfl, rfl⟩))
    rw [← HW.out]
    refine HC.out.mono ?_
    rintro e w2 ⟨⟨v, rfl⟩, hs⟩
    obtain ⟨q1, q2, q3, q4⟩ := HD.out w2 (by rw [HCC.out]; exact hs)
    have e1 : w2.cell? ⟨S, 33, none⟩ = some (.map (some mb)) := by simp [World.cell?, q1, shCells_map]
    have e2 : w2.cell? ⟨S, p, none⟩ = some (.int .i64 0) := by
      have := shCells_cnt (cnt (l.set (64 * p + k) x)) (P : Int) (some mb) (show p < 32 by omega)
      rw [HCC.out] at this
      simp [World.cell?, q1, this]
    have Q1 := Lib.hid q1
    have Q2 := Lib.hid q2
    have Q3 := Lib.hid q3
    clear hs q1 q2 q3 cP fP cM fM cM0 look2'
    go_wp2_with (at_delete; refine wpList_delete_own _ rfl _ _ 134 3 rfl 195 numLaw Tryz.underlying134 _ mb _ _ rfl q4 _ _ rfl key ?_; intro w3 hown3 hturn3)
    go_end0
    have h := HH.out
    have ht3 : Turned (fun j => j = mb) w2 w3 := Turned.of_grown hturn3.grown (fun j e => by cases e; rfl)
    have hS3 := ht3.keep Q1.out (fun e => h.ne1 e)
    obtain ⟨F', r1, r2⟩ := put_drop h hp hk HX.out HQ.out (by simp [priv, HCC.out]) ((Q2.out.mono (G := fun j => j = S ∨ j = G p ∨ j = mb) (by rintro j (e | e); exact .inl e; exact .inr (.inl e))).trans ht3 (fun j e => .inl (.inr (.inr e)))) hS3 hown3
    refine ⟨⟨_, rfl⟩, F', r1, (Q2.out.mono (G := shB S mb l G) (by rintro j (e | e); exact .inl e; exact .inr (.inr ⟨p, HQ.out, e⟩))).trans ht3 (fun j e => .inl (.inr (.inl e))), fun j hj => .inl (r2 j hj)⟩
  · have hz' : ((c : Int) == 0) = false := by simpa using hz
    go_enter Tryz.func194, Tryz.ntmps194
    go_wp2_with (first | (go_at_call 196; refine (HP.out).mono ?_; rintro e w' ⟨rfl, rfl⟩))
    rw [← HW.out]
    refine HC.out.mono ?_
    rintro e w2 ⟨⟨v, rfl⟩, hs⟩
    obtain ⟨q1, q2, q3, q4⟩ := HD.out w2 (by rw [HCC.out]; exact hs)
    have e2 : w2.cell? ⟨S, p, none⟩ = some (.int .i64 (c : Int)) := by
      have := shCells_cnt (cnt (l.set (64 * p + k) x)) (P : Int) (some mb) (show p < 32 by omega)
      rw [HCC.out] at this
      simp [World.cell?, q1, this]
    have Q1 := Lib.hid q1
    have Q2 := Lib.hid q2
    have Q3 := Lib.hid q3
    clear hs q1 q2 q3 q4 cP fP cM fM cM0 look2'
    go_wp2
    go_end0
    have h := HH.out
    exact ⟨⟨_, rfl⟩, _, put_keep h hp hk HX.out HQ.out (by simp [priv, HCC.out, hz]) Q2.out Q1.out Q3.out, Q2.out.mono (by rintro j (e | e); exact .inl e; exact .inr (.inr ⟨p, HQ.out, e⟩)), fun j hj => .inl hj⟩

/-- Behind the store of a new page into the map. -/
theorem shared_facts {w w1 : World} {S mb P : Nat} {l : List Int} {G : Nat → Nat} {D : DataW Unit} (h : ShIs w S mb P l G D) {p k : Nat} (hp : p < P) (hk : k < 64) {n : Nat} (hq : priv l p = false)
    (hown : w1.ownsMap Tryz.prog 3 ptrElem mb n (D.put (.int .i64 (p : Int)) (.lit (.int .i64 (w.heap.size : Int))))) (hgrow : (w.alloc (.cells zPage 139)).grownBy w1 (some mb)) :
    w1.heap[w.heap.size]? = some (.cells zPage 139 (0, 0)) ∧ w1.heap[S]? = some (.cells (shCells (cnt l) P (some mb)) 141 (0, 0)) ∧ Turned (fun j => j = mb) w w1 ∧
      (Instr.lookup 134 (.map (some mb)) (.int .i64 (p : Int)) false).run Tryz.prog w1 = .ok (.pointer (some ⟨w.heap.size, 0, none⟩)) w1 ∧ w1.cell? ⟨S, 33, none⟩ = some (.map (some mb)) ∧
      w1.cell? ⟨w.heap.size, k, none⟩ = some (.int .u32 0) ∧ w1.frozen? ⟨w.heap.size, k, none⟩ = false := by
  have h32 := h.bytes.hi
  have hMl : mb < w.heap.size := h.lt mb (.inr (.inl rfl))
  have hz := zPage_pg h.bytes.len hp hq
  have t1 : Turned (fun j => j = mb) (w.alloc (.cells zPage 139)) w1 := Turned.of_grown hgrow (fun j e => by cases e; rfl)
  have b1 := t1.keep (heap_alloc_new w (.cells zPage 139)) (show ¬ w.heap.size = mb by omega)
  have t2 : Turned (fun j => j = mb) w w1 := ((Turned.refl (fun j => j = mb) w).alloc (.cells zPage 139)).trans t1 (fun j e => .inl e)
  have b2 := t2.keep h.blk h.ne1
  refine ⟨b1, b2, t2, ?_, by simp [World.cell?, b2, shCells_map], ?_, by simp [World.frozen?, b1]⟩
  · obtain ⟨v, ps, hr, hv⟩ := hown.lookup numLaw Tryz.underlying134 (zeroPtr w1) ptr_nil (key_int (x := (p : Int)) (wf_i64 (by omega) (by omega)))
    rw [Maps.atKey_put_same h.map.isMap (isKey _)] at hv
    rw [hr, ptr_inv hv]
  · have hpk := at_pg h.bytes.len hp hk
    simp only [World.cell?, b1, hz]
    simp [hpk, not_priv h.bytes.len hq hk]
theorem put_shared {w : World} {S P : Nat} {l : List Int} {F : Nat → Prop} (h : Sh w S P l F) {p k : Nat} (hp : p < P) (hk : k < 64) (x : Int) (hx : S16 x) (hne : x ≠ at0 l (64 * p + k)) (hq : priv l p = false) :
    Calls Tryz.prog 194 #[.pointer (some ⟨S, 0, none⟩), .int .i64 (p : Int), .int .i64 (k : Int), .int .u32 x] w fun e w' => (∃ v, e = .returned v) ∧ PutPost w S P (l.set (64 * p + k) x) F w' := by
  obtain ⟨mb, G, D, rfl, h⟩ := h
  have hlen := h.bytes.len
  have h32 := h.bytes.hi
  have HH := Lib.hid h
  obtain ⟨cM0, cM, fM⟩ := h.cells
  have HP := Lib.hid (page_any h hp)
  have hpa : pageAt S l G p = ⟨S, 34, none⟩ := by simp [pageAt, hq]
  have hx0 := not_priv hlen hq hk
  have cP := h.cellAt (p := p) hk
  have hcnt := cnt_set_same hlen hp hk x
  rw [hpa, add_at, hx0] at cP
  rw [hpa] at HP
  rw [hx0] at hne hcnt
  have hc0 : cnt l p = 0 := by simpa [priv] using hq
  have hc' : cnt (l.set (64 * p + k) x) p = 1 := by simp [hc0, hne] at hcnt; exact hcnt
  have p0 : (0 : Int) ≤ p := by omega
  have p1 : (p : Int) < 32 := by omega
  have key := key_int (x := (p : Int)) (wf_i64 (by omega) (by omega))
  have look1 := (h.look_no (k := (p : Int)) (wf_i64 (by omega) (by omega)) (by simp [hq])).2
  have zp := zero_page
  have d3 := h.ne1
  have hSl := (Array.getElem?_eq_some_iff.1 h.blk).1
  have hMl : mb < w.heap.size := h.lt mb (.inr (.inl rfl))
  have hsz : zPage.size = 64 := by simp [zPage]
  have hnl : (privs l P).length ≤ 32 := by
    have : (privs l P).length ≤ (List.range P).length := List.length_filter_le _ _
    simp at this; omega
  have zeq := zPage_pg hlen hp hq
  have k0 : (0 : Int) ≤ k := by omega
  have k1 : (k : Int) < 64 := by omega
  have hmapA := h.map.alloc (.cells zPage 139)
  have hN : ((0 : Int) == x) = false := by simpa using fun e => hne e.symm
  have xN : (x == 0) = false := by simpa using hne
  have HX := Lib.hid hx
  have HQ := Lib.hid hq
  have HLen := Lib.hid hlen
  have HN := Lib.hid hne
  have HCC := Lib.hid hc'
  have HC0 := Lib.hid hc0
  have HZ := Lib.hid zeq
  have HPA := Lib.hid hpa
  have HSZ := Lib.hid hsz
  clear h hpa hx0 hcnt hc0 hc' hq hx hlen hne zeq hsz
  go_enter Tryz.func194, Tryz.ntmps194
  go_wp2_with (first | (go_at_call 196; refine (HP.out).mono ?_; rintro e w' ⟨rfl, rfl⟩) | (at_mapUpdate; refine wpList_mapUpdate_own _ rfl _ _ _ 134 rfl 3 195 numLaw Tryz.underlying134 _ mb _ _ rfl hmapA (by unfold maxLen; omega) _ _ _ rfl rfl key _ [] (ptr_at _) ?_; intro w1 hown1 hgrow1; obtain ⟨u1, u2, u3, u4, u5, u6, u7⟩ := shared_facts HH.out hp hk HQ.out hown1 hgrow1; have U1 := Lib.hid u1; have U2 := Lib.hid u2; have U3 := Lib.hid u3; have UM := Lib.hid hown1; clear u1 u2 u3 hown1 hgrow1 cM cM0 fM cP look1 zp hmapA))
  have g2 := Lib.hid (set_cells U1.out (.int .u32 x) (k := k))
  rw [HZ.out, cells_set HLen.out hp hk] at g2
  have t2 : Turned (fun j => j = w.heap.size) w1 (w1.setCell ⟨w.heap.size, k, none⟩ (.int .u32 x)) := (Turned.refl (fun j => j = w.heap.size) w1).setCell (p := ⟨w.heap.size, k, none⟩) (.inl rfl) _
  have s2 := t2.keep U2.out (by omega)
  have m2 := t2.map UM.out (by omega)
  have cC : (w1.setCell ⟨w.heap.size, k, none⟩ (.int .u32 x)).cell? ⟨S, p, none⟩ = some (.int .i64 ((0 : Nat) : Int)) ∧ (w1.setCell ⟨w.heap.size, k, none⟩ (.int .u32 x)).frozen? ⟨S, p, none⟩ = false := by
    simp [World.cell?, World.frozen?, s2, shCells_cnt (cnt l) (P : Int) (some mb) (show p < 32 by omega), HC0.out]
  have HC := count_any S p 0 0 x _ (by omega) (by omega) (.inr HN.out) (fun e => absurd rfl e) cC.1 cC.2
  refine HC.mono ?_
  rintro e w3 ⟨⟨v, rfl⟩, hs⟩
  have hS := hs.blk _ _ _ s2
  simp only [HN.out, ne_eq, not_false_eq_true, if_true, not_true_eq_false, if_false, Nat.zero_add, Nat.sub_zero] at hS
  rw [counts_set HLen.out hp h32 hk x (some mb) HCC.out.symm] at hS
  have hG := hs.turned.keep g2.out (by omega)
  have hM := hs.turned.map m2 (fun e => d3 e.symm)
  have hT : Turned (fun j => j = S ∨ j = mb) w w3 := ((U3.out.mono (G := fun j => j = S ∨ j = mb) (fun j e => .inr e)).trans t2 (fun j e => .inr (by omega))).trans hs.turned (fun j e => .inl (.inl e))
  have e2 : w3.cell? ⟨S, p, none⟩ = some (.int .i64 (1 : Int)) := by
    have := shCells_cnt (cnt (l.set (64 * p + k) x)) (P : Int) (some mb) (show p < 32 by omega)
    rw [HCC.out] at this
    simp [World.cell?, hS, this]
  have HS' := Lib.hid hS
  have HG' := Lib.hid hG
  have HM' := Lib.hid hM
  have HT' := Lib.hid hT
  clear hs hS hG hM hT s2 m2 t2 g2 cC HC u4 u5 u6 u7
  go_wp2
  go_end0
  have h := HH.out
  obtain ⟨F', r1, r2⟩ := put_new h hp hk HX.out HQ.out (by simp [priv, HCC.out]) (Nat.le_refl _) HT'.out HS'.out HG'.out HM'.out
  exact ⟨⟨_, rfl⟩, F', r1, HT'.out.mono (by rintro j (e | e); exact .inl e; exact .inr (.inl e)), r2⟩

theorem put_any {w : World} {S P : Nat} {l : List Int} {F : Nat → Prop} (h : Sh w S P l F) {p k : Nat} (hp : p < P) (hk : k < 64) (x : Int) (hx : S16 x) :
    Calls Tryz.prog 194 #[.pointer (some ⟨S, 0, none⟩), .int .i64 (p : Int), .int .i64 (k : Int), .int .u32 x] w fun e w' => (∃ v, e = .returned v) ∧ PutPost w S P (l.set (64 * p + k) x) F w' := by
  by_cases hne : x = at0 l (64 * p + k)
  · refine (put_same h hp hk x hne).mono ?_
    rintro e w' ⟨hv, rfl⟩
    refine ⟨hv, F, ?_, Turned.refl _ _, fun j hj => .inl hj⟩
    rw [hne, set_same (by have := h.bytes.len; omega)]; exact h
  · cases hq : priv l p with
    | true => exact put_private h hp hk x hx hne hq
    | false => exact put_shared h hp hk x hx hne hq
end Go.Proofs.YtiohlmccnllklaaGreatDoor.L3

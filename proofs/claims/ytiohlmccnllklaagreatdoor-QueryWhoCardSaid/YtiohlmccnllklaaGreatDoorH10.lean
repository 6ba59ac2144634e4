/-
  Layer 12: pairs of places and sets, kind by kind: rows of numbers, cells, what iterators give. No program. Layer 12: where the sets of all places stand: the struct's block, two shadows, four maps; which blocks are their own.
-/
import Derived.Test.YtiohlmccnllklaaGreatDoorH01
import Derived.Test.YtiohlmccnllklaaGreatDoorH03
import Derived.Test.YtiohlmccnllklaaGreatDoorH07
import Derived.Test.YtiohlmccnllklaaGreatDoorH04
import Derived.Test.YtiohlmccnllklaaGreatDoorH00
import Derived.Lib.SlKeysI
import Derived.Maps.OwnSet
set_option linter.unusedVariables false
set_option linter.unusedSimpArgs false
namespace Go.Proofs.YtiohlmccnllklaaGreatDoor.T

/-- Kinds whose places stand in the struct itself. -/
def fewK (k : Nat) : Bool := decide ((1 ≤ k ∧ k ≤ 9) ∨ k = 11 ∨ k = 17)
/-- Kinds whose places are counted on. -/
def cntK (k : Nat) : Bool := decide (13 ≤ k ∧ k ≤ 16)
/-- What the small cell i has. -/
def sm (ps : List Pr) (i : Nat) : Int := if fewK (i / 8) = true then get ps (((i / 8 : Nat) : Int), ((i % 8 : Nat) : Int)) else 0
/-- The first m places' sets of a kind. -/
def row (ps : List Pr) (k : Int) (m : Nat) : List Int := (List.range m).map fun (i : Nat) => get ps (k, (i : Int))
theorem row_len (ps : List Pr) (k : Int) (m : Nat) : (row ps k m).length = m := by simp [row]
theorem row_at {ps : List Pr} {k : Int} {m i : Nat} (h : i < m) : L3.at0 (row ps k m) i = get ps (k, (i : Int)) := by
  unfold L3.at0 row
  rw [List.getElem?_map, List.getElem?_range h]; rfl
theorem row_bytes {ps : List Pr} (h : Small ps) (k : Int) {P : Nat} (h0 : 1 ≤ P) (h1 : P ≤ 32) : L3.Bytes P (row ps k (64 * P)) :=
  ⟨h0, h1, row_len _ _ _, fun x hx => by
    obtain ⟨i, _, rfl⟩ := List.mem_map.1 hx
    exact h.get _⟩
theorem row_congr {ps qs : List Pr} {k : Int} {m : Nat} (h : ∀ i : Nat, i < m → get ps (k, (i : Int)) = get qs (k, (i : Int))) : row ps k m = row qs k m :=
  List.map_congr_left fun i hi => h i (List.mem_range.1 hi)
theorem row_fill {ps : List Pr} (h : Ris ps) (k : Int) (a n : Nat) (x : Int) {P : Nat} (ha : a + n ≤ 64 * P) : L3.fillL (row ps k (64 * P)) a x n = row (marks (k, (a : Int)) x n ps) k (64 * P) := by
  refine L3.ext_at (P := P) (by rw [L3.fill_len, row_len]) (row_len _ _ _) fun i hi => ?_
  rw [L3.at_fill _ _ _ _ _ (by rw [row_len]; exact ha), row_at hi, row_at hi, marks_get h]
  by_cases e : a ≤ i ∧ i < a + n
  · rw [if_pos e, if_pos ⟨rfl, by show (a : Int) ≤ i; omega, by show (i : Int) < a + n; omega⟩]
  · rw [if_neg e, if_neg (by rintro ⟨_, h1, h2⟩; exact e ⟨by have : (a : Int) ≤ i := h1; omega, by have : (i : Int) < a + n := h2; omega⟩)]
theorem row_other {ps : List Pr} (h : Ris ps) {k k' : Int} (hk : k' ≠ k) (a : Int) (x : Int) (n m : Nat) : row (marks (k', a) x n ps) k m = row ps k m :=
  row_congr fun i _ => by rw [marks_get h, if_neg (fun e => hk e.1.symm)]

/-- No place that may not be has a set. -/
theorem get_may {fr se : Int} {ps : List Pr} (h : ∀ x ∈ ps, may fr se x.1 = true) {p : Pl} (hp : may fr se p = false) : get ps p = 0 :=
  get_none fun y hy e => by have := h y hy; rw [e, hp] at this; cases this
theorem marks_may {fr se : Int} {ps : List Pr} (h : ∀ x ∈ ps, may fr se x.1 = true) (p : Pl) (s : Int) : ∀ n : Nat, (∀ i : Nat, i < n → may fr se (p.1, p.2 + i) = true) → ∀ x ∈ marks p s n ps, may fr se x.1 = true
  | 0, _ => h
  | n + 1, hn => fun x hx => by
    rcases put_mem hx with rfl | hx
    · exact hn n (by omega)
    · exact marks_may h p s n (fun i hi => hn i (by omega)) x hx

/-! ### the small cells -/
theorem sm_at {ps : List Pr} {k n : Nat} (hk : fewK k = true) (hn : n < 8) : sm ps (8 * k + n) = get ps ((k : Int), (n : Int)) := by
  unfold sm
  rw [show (8 * k + n) / 8 = k by omega, show (8 * k + n) % 8 = n by omega, if_pos hk]
theorem sm_other {ps : List Pr} {i : Nat} (hk : fewK (i / 8) = false) : sm ps i = 0 := by unfold sm; rw [hk]; simp
theorem sm_nil (i : Nat) : sm [] i = 0 := by unfold sm; simp
theorem sm_small {ps : List Pr} (h : Small ps) (i : Nat) : 0 ≤ sm ps i ∧ sm ps i < 65536 := by
  unfold sm
  split
  · exact h.get _
  · omega
/-- A mark of a kind that stands elsewhere leaves them. -/
theorem sm_elsewhere {ps : List Pr} (h : Ris ps) {k : Nat} (hk : fewK k = false) (a : Int) (x : Int) (n i : Nat) : sm (marks ((k : Int), a) x n ps) i = sm ps i := by
  unfold sm
  by_cases e : fewK (i / 8) = true
  · rw [if_pos e, if_pos e, marks_get h, if_neg]
    rintro ⟨e2, _⟩
    have e2 : ((i / 8 : Nat) : Int) = (k : Int) := e2
    have : i / 8 = k := by omega
    rw [this, hk] at e; cases e
  · rw [if_neg e, if_neg e]
theorem sm_marks {ps : List Pr} (h : Ris ps) {k a n : Nat} (hk : fewK k = true) (ha : a + n ≤ 8) (x : Int) (i : Nat) : sm (marks ((k : Int), (a : Int)) x n ps) i = if 8 * k + a ≤ i ∧ i < 8 * k + a + n then x else sm ps i := by
  unfold sm
  by_cases e : fewK (i / 8) = true
  · rw [if_pos e, if_pos e, marks_get h]
    by_cases c : 8 * k + a ≤ i ∧ i < 8 * k + a + n
    · rw [if_pos c, if_pos ⟨by show ((i / 8 : Nat) : Int) = k; omega, by show (a : Int) ≤ ((i % 8 : Nat) : Int); omega, by show ((i % 8 : Nat) : Int) < (a : Int) + n; omega⟩]
    · rw [if_neg c, if_neg]
      rintro ⟨e1, e2, e3⟩
      have e1 : ((i / 8 : Nat) : Int) = (k : Int) := e1
      have e2 : (a : Int) ≤ ((i % 8 : Nat) : Int) := e2
      have e3 : ((i % 8 : Nat) : Int) < (a : Int) + n := e3
      exact c ⟨by omega, by omega⟩
  · rw [if_neg e, if_neg e, if_neg]
    rintro ⟨e1, e2⟩
    have : i / 8 = k := by omega
    rw [this] at e; exact e hk
/-- Two states are one where all that stands somewhere is the same. -/
theorem same_of {fr se : Int} {ps qs : List Pr} (hp : Ris ps) (hq : Ris qs) (mp : ∀ x ∈ ps, may fr se x.1 = true) (mq : ∀ x ∈ qs, may fr se x.1 = true) (hfr : 0 ≤ fr) (hse : 0 ≤ se)
    (h1 : ∀ i, i < 144 → sm ps i = sm qs i) (h2 : row ps 10 (64 * fr.toNat) = row qs 10 (64 * fr.toNat)) (h3 : row ps 12 (64 * se.toNat) = row qs 12 (64 * se.toNat)) (h4 : ∀ k : Nat, cntK k = true → ∀ n : Int, get ps ((k : Int), n) = get qs ((k : Int), n)) : ps = qs := by
  refine hp.ext hq fun p => ?_
  cases hm : may fr se p with
  | false => rw [get_may mp hm, get_may mq hm]
  | true =>
    obtain ⟨k, n⟩ := p
    rw [may_iff] at hm
    obtain ⟨hn0, hn1⟩ := hm
    simp only at hn0 hn1
    have hk : 1 ≤ k ∧ k ≤ 17 := by
      unfold most at hn1
      by_cases e : k < 1 ∨ 17 < k
      · rw [if_pos e] at hn1; omega
      · omega
    obtain ⟨K, rfl⟩ := Int.eq_ofNat_of_zero_le (show (0 : Int) ≤ k by omega)
    obtain ⟨n, rfl⟩ := Int.eq_ofNat_of_zero_le hn0
    by_cases ec : cntK K = true
    · exact h4 K ec _
    by_cases e10 : K = 10
    · subst e10
      have hl : n < 64 * fr.toNat := by simp [most] at hn1; omega
      have := congrArg (fun l => L3.at0 l n) h2
      simp only [row_at hl] at this; exact this
    by_cases e12 : K = 12
    · subst e12
      have hl : n < 64 * se.toNat := by simp [most] at hn1; omega
      have := congrArg (fun l => L3.at0 l n) h3
      simp only [row_at hl] at this; exact this
    have hf : fewK K = true := by
      unfold cntK at ec; unfold fewK
      simp only [decide_eq_true_eq] at ec ⊢; omega
    have hn8 : n < 8 := by
      unfold most at hn1
      unfold cntK at ec
      simp only [decide_eq_true_eq] at ec
      rw [if_neg (by omega)] at hn1
      split at hn1
      · omega
      · rw [if_neg (by omega)] at hn1
        split at hn1
        · omega
        · rw [if_neg (by omega), if_neg (by omega)] at hn1
          split at hn1 <;> omega
    have := h1 (8 * K + n) (by omega)
    rwa [sm_at hf hn8, sm_at hf hn8] at this

/-! ### the pairs of a kind -/
def kd (k : Int) (ps : List Pr) : List (Int × Int) := (ps.filter fun x => decide (x.1.1 = k)).map fun x => (x.1.2, x.2)
/-- The pairs of kinds below k. -/
def upto (ps : List Pr) (k : Int) : List Pr := ps.filter fun x => decide (x.1.1 < k)
theorem upto_none {ps : List Pr} (h : ∀ x ∈ ps, 1 ≤ x.1.1) : upto ps 1 = [] := List.filter_eq_nil_iff.2 fun x hx => by have := h x hx; simp; omega
theorem upto_all {ps : List Pr} {k : Int} (h : ∀ x ∈ ps, x.1.1 < k) : upto ps k = ps := List.filter_eq_self.2 fun x hx => by simpa using h x hx
theorem upto_succ {ps : List Pr} (h : Ris ps) (k : Int) : upto ps (k + 1) = upto ps k ++ (kd k ps).map (fun y => ((k, y.1), y.2)) := by
  unfold kd
  rw [List.map_map]
  have e : ∀ l : List Pr, (l.filter fun x => decide (x.1.1 = k)).map ((fun y : Int × Int => ((k, y.1), y.2)) ∘ fun x : Pr => (x.1.2, x.2)) = l.filter fun x => decide (x.1.1 = k) := fun l => by
    conv => rhs; rw [← List.map_id (l.filter fun x => decide (x.1.1 = k))]
    refine List.map_congr_left fun x hx => ?_
    have := (List.mem_filter.1 hx).2
    simp only [decide_eq_true_eq] at this
    obtain ⟨⟨a, b⟩, c⟩ := x
    simp only at this
    subst this; rfl
  rw [e]
  unfold upto
  clear e
  induction ps with
  | nil => rfl
  | cons x r ih =>
    obtain ⟨h1, h2, h3⟩ := h
    have ih := ih h3
    have hr : ∀ y ∈ r, x.1.1 ≤ y.1.1 := fun y hy => by have := h2 y hy; rw [lt_iff] at this; omega
    by_cases a : x.1.1 < k
    · rw [List.filter_cons_of_pos (by simp; omega), List.filter_cons_of_pos (by simpa using a), List.filter_cons_of_neg (by simp; omega), ih]; rfl
    · have e1 : r.filter (fun x => decide (x.1.1 < k)) = [] := List.filter_eq_nil_iff.2 fun y hy => by have := hr y hy; simp; omega
      rw [e1, List.nil_append] at ih
      rw [List.filter_cons_of_neg (p := fun x : Pr => decide (x.1.1 < k)) (by simpa using a), e1, List.nil_append]
      by_cases b : x.1.1 = k
      · rw [List.filter_cons_of_pos (by simp; omega), List.filter_cons_of_pos (by simpa using b), ih]
      · rw [List.filter_cons_of_neg (by simp; omega), List.filter_cons_of_neg (by simpa using b), ih]
theorem kd_mem {ps : List Pr} (h : Ris ps) {k : Int} {y : Int × Int} : y ∈ kd k ps ↔ y.2 ≠ 0 ∧ get ps (k, y.1) = y.2 := by
  unfold kd
  rw [List.mem_map]
  constructor
  · rintro ⟨x, hx, rfl⟩
    obtain ⟨hx, hk⟩ := List.mem_filter.1 hx
    simp only [decide_eq_true_eq] at hk
    have := h.get_mem hx
    rw [← hk]
    exact ⟨h.nz hx, this⟩
  · rintro ⟨hn, hg⟩
    obtain ⟨x, hx, h1, h2⟩ := get_ne (l := ps) (p := (k, y.1)) (by rw [hg]; exact hn)
    refine ⟨x, List.mem_filter.2 ⟨hx, by rw [h1]; simp⟩, ?_⟩
    rw [h1, h2, hg]
theorem kd_sorted {ps : List Pr} (h : Ris ps) (k : Int) : (kd k ps).Pairwise fun a b => a.1 < b.1 := by
  unfold kd
  rw [List.pairwise_map]
  induction ps with
  | nil => exact List.Pairwise.nil
  | cons x r ih =>
    obtain ⟨h1, h2, h3⟩ := h
    by_cases e : x.1.1 = k
    · rw [List.filter_cons_of_pos (by simpa using e)]
      refine List.Pairwise.cons (fun y hy => ?_) (ih h3)
      obtain ⟨hy, hk⟩ := List.mem_filter.1 hy
      simp only [decide_eq_true_eq] at hk
      have := h2 y hy
      rw [lt_iff] at this
      omega
    · rw [List.filter_cons_of_neg (by simpa using e)]; exact ih h3
/-- A list that rises and has the same pairs is it. -/
theorem kd_eq {ps : List Pr} (h : Ris ps) {k : Int} {l : List (Int × Int)} (hs : l.Pairwise fun a b => a.1 < b.1) (hm : ∀ y, y ∈ l ↔ y.2 ≠ 0 ∧ get ps (k, y.1) = y.2) : l = kd k ps := by
  have hp : l.Perm (kd k ps) := (List.perm_ext_iff_of_nodup (hs.imp fun h e => by rw [e] at h; omega) ((kd_sorted h k).imp fun h e => by rw [e] at h; omega)).2 fun y => by rw [hm y, kd_mem h]
  refine List.Perm.eq_of_pairwise (le := fun a b => a.1 ≤ b.1) (fun a b ha hb h1 h2 => ?_) (hs.imp fun h => by omega) ((kd_sorted h k).imp fun h => by omega) hp
  have e : a.1 = b.1 := by omega
  have e2 := ((hm a).1 ha).2
  have e3 := ((kd_mem h).1 hb).2
  rw [e] at e2
  exact Prod.ext e (e2.symm.trans e3)
theorem kd_els {ps : List Pr} (h : Ris ps) {k : Int} {m : Nat} (hm : ∀ x ∈ ps, x.1.1 = k → 0 ≤ x.1.2 ∧ x.1.2 < m) : (L3.els (row ps k m) m).map (fun (i : Nat) => ((i : Int), L3.at0 (row ps k m) i)) = kd k ps := by
  refine kd_eq h ?_ fun y => ?_
  · rw [List.pairwise_map]
    unfold L3.els
    exact (List.Pairwise.filter _ List.pairwise_lt_range).imp fun h => by simpa using h
  · rw [List.mem_map]
    constructor
    · rintro ⟨i, hi, rfl⟩
      obtain ⟨h1, h2⟩ := L3.mem_els.1 hi
      refine ⟨by simpa [L3.nz] using h2, (row_at h1).symm⟩
    · rintro ⟨hn, hg⟩
      obtain ⟨x, hx, h1, _⟩ := get_ne (l := ps) (p := (k, y.1)) (by rw [hg]; exact hn)
      have := hm x hx (by rw [h1])
      rw [h1] at this
      simp only at this
      obtain ⟨y1, y2⟩ := y
      obtain ⟨i, rfl⟩ := Int.eq_ofNat_of_zero_le this.1
      have hi : i < m := by have := this.2; simp only at this; omega
      have hat := row_at (ps := ps) (k := k) hi
      refine ⟨i, L3.mem_els.2 ⟨hi, ?_⟩, ?_⟩
      · unfold L3.nz; rw [hat, hg]; simpa using hn
      · rw [hat, hg]
theorem kd_keys {ps : List Pr} (h : Ris ps) (k : Int) : ((kd k ps).map (·.1)).Pairwise (· < ·) ∧ ((kd k ps).map (·.1)).Nodup ∧ ∀ n, n ∈ (kd k ps).map (·.1) ↔ get ps (k, n) ≠ 0 := by
  have hp : ((kd k ps).map (·.1)).Pairwise (· < ·) := List.pairwise_map.2 (kd_sorted h k)
  refine ⟨hp, hp.imp fun h e => by omega, fun n => ?_⟩
  rw [List.mem_map]
  constructor
  · rintro ⟨y, hy, rfl⟩
    obtain ⟨h1, h2⟩ := (kd_mem h).1 hy
    rw [h2]; exact h1
  · intro hn
    exact ⟨(n, get ps (k, n)), (kd_mem h).2 ⟨hn, rfl⟩, rfl⟩
end Go.Proofs.YtiohlmccnllklaaGreatDoor.T
namespace Go.Proofs.YtiohlmccnllklaaGreatDoor
open Go.RowKit
set_option linter.unusedVariables false
set_option linter.unusedSimpArgs false

theorem Turned.of3 {F : Nat → Prop} {w w' : World} (h : L3.Turned F w w') : Turned F w w' := ⟨h.os, h.tape, h.output, h.size, h.block⟩
theorem Turned.to3 {F : Nat → Prop} {w w' : World} (h : Turned F w w') : L3.Turned F w w' := ⟨h.os, h.tape, h.output, h.size, h.block⟩
theorem Turned.of2 {F : List Nat} {w w' : World} (h : L2.Turned F w w') : Turned (fun k => k ∈ F) w w' := ⟨h.os, h.tape, h.output, h.size, h.block⟩
theorem own_keep {w w' : World} {H : Type} {P : Program} {k : TypeId} {R : Value → Option (DataW H × List MemPlace)} {b n : Nat} {D : DataW H} (h : w.ownsMap P k R b n D) (hk : w'.heap[b]? = w.heap[b]?) : w'.ownsMap P k R b n D := by
  obtain ⟨es, clock, hb, r⟩ := h
  exact ⟨es, clock, hk.trans hb, r⟩
/-- A table stays where its blocks stay. -/
theorem tab_keep {w w' : World} {T : Nat} {most : Int} {ss : List Int} {m : Nat} {F : List Nat} (h : L2.Tab w T most ss m F) (hk : ∀ k ∈ F, w'.heap[k]? = w.heap[k]?) : L2.Tab w' T most ss m F := by
  obtain ⟨g, c, mb, jb, D, J, rfl, h⟩ := h
  refine ⟨g, c, mb, jb, D, J, rfl, (hk T (by simp)).trans h.blk, ⟨h.row.1, ?_⟩, own_keep h.num (hk mb (by simp)), h.numD, own_keep h.jnd (hk jb (by simp)), h.joinD, h.ne, h.sets⟩
  rcases h.row.2 with hn | ⟨g', cap, cur, hv, hb, hg, r⟩
  · exact .inl hn
  · refine .inr ⟨g', cap, cur, hv, hb, ?_, r⟩
    simp at hv
    exact (hk g' (by simp [hv])).trans hg

/-! ### the sets of bytes that came or went -/
theorem cntLaw : Maps.Keyed Tryz.prog 3 := Maps.int_keyed Tryz.underlying3
theorem key_i {x : Int} (h : I64 x) : keyOf Tryz.prog 3 (.int .i64 x) = some (.int .i64 x) := Maps.keyOf_int_mk Tryz.underlying3 (wf_i64 h.1 h.2)
theorem isKeyI (x : Int) : WideAt.IsKeyLit (Lit.int .i64 x) := trivial
theorem zeroU (w : World) : (zeroValue 23).run Tryz.prog w = .ok (.int .u32 0) w := by kernel_rfl
theorem cR_mk {x : Int} (h : W32 x) : plainElem (H := Unit) Tryz.prog 23 (.int .u32 x) = some (.lit (.int .u32 x), []) := plainElem_int Tryz.underlying23 (wf_of_w32 h)
structure CntD (ps : List T.Pr) (k : Int) (D : DataW Unit) : Prop where
  has : ∀ n : Int, Maps.has D (.int .i64 n) = decide (T.get ps (k, n) ≠ 0)
  at_ : ∀ n : Int, T.get ps (k, n) ≠ 0 → ∀ z, D.atKey (.int .i64 n) z = .lit (.int .u32 (T.get ps (k, n)))
/-- The map at block b has the sets of a kind. -/
def CntIs (w : World) (b : Nat) (ps : List T.Pr) (k : Int) : Prop := ∃ D n, n ≤ 2147483648 ∧ w.ownsMap Tryz.prog 3 (plainElem Tryz.prog 23) b n D ∧ CntD ps k D
theorem rise_len {l : List (Int × Int)} {a b : Int} (hs : l.Pairwise fun x y => x.1 < y.1) (h : ∀ x ∈ l, a ≤ x.1 ∧ x.1 < b) (hab : a ≤ b) : (l.length : Int) ≤ b - a := by
  induction l generalizing a with
  | nil => simp; omega
  | cons x r ih =>
    obtain ⟨h1, h2⟩ := List.pairwise_cons.1 hs
    have hx := h x (by simp)
    have := ih (a := x.1 + 1) h2 (fun y hy => ⟨by have := h1 y hy; omega, (h y (by simp [hy])).2⟩) (by omega)
    simp only [List.length_cons]; omega
/-- Its keys. -/
theorem cnt_perm {w : World} {b n : Nat} {D : DataW Unit} {ps : List T.Pr} {k : Int} (hr : T.Ris ps) (h : w.ownsMap Tryz.prog 3 (plainElem Tryz.prog 23) b n D) (hD : CntD ps k D) : ((T.kd k ps).map (·.1)).Perm (intKeys D) := by
  obtain ⟨_, h1, h2⟩ := T.kd_keys hr k
  exact CollectedI.perm (left := fun _ => false) ⟨h1, fun x => by rw [h2 x, hD.has]; simp⟩ h cntLaw Tryz.underlying3 (fun _ => rfl)
theorem cnt_size {w : World} {b n : Nat} {D : DataW Unit} {ps : List T.Pr} {k : Int} (hr : T.Ris ps) (h : w.ownsMap Tryz.prog 3 (plainElem Tryz.prog 23) b n D) (hD : CntD ps k D) : Maps.size D = (T.kd k ps).length := by
  have hp := (cnt_perm hr h hD).length_eq
  obtain ⟨es, rfl⟩ := h.isMap
  rw [Maps.size_eq]
  simpa [intKeys] using hp.symm
theorem cnt_tight {w : World} {b n : Nat} {D : DataW Unit} {ps : List T.Pr} {k : Int} (hr : T.Ris ps) (hb : ∀ x ∈ ps, x.1.1 = k → 0 ≤ x.1.2 ∧ x.1.2 < 2147483648) (h : w.ownsMap Tryz.prog 3 (plainElem Tryz.prog 23) b n D) (hD : CntD ps k D) : CntIs w b ps k := by
  refine ⟨D, 2147483648, Nat.le_refl _, L3.map_tight h ?_, hD⟩
  rw [cnt_size hr h hD]
  have := rise_len (a := 0) (b := 2147483648) (T.kd_sorted hr k) (fun y hy => by
    obtain ⟨x, hx, rfl⟩ := List.mem_map.1 hy
    obtain ⟨hx, hk⟩ := List.mem_filter.1 hx
    exact hb x hx (by simpa using hk)) (by omega)
  omega
section
variable {w w' : World} {b : Nat} {ps ps' : List T.Pr} {k : Int}
theorem CntIs.keep (h : CntIs w b ps k) (hk : w'.heap[b]? = w.heap[b]?) : CntIs w' b ps k := by
  obtain ⟨D, n, h1, h2, h3⟩ := h
  exact ⟨D, n, h1, own_keep h2 hk, h3⟩
theorem CntIs.lt (h : CntIs w b ps k) : b < w.heap.size := by
  obtain ⟨D, n, h1, h2, h3⟩ := h
  exact h2.lt
theorem CntIs.isMap (h : CntIs w b ps k) : ∃ es c, w.heap[b]? = some (.map es c) := by
  obtain ⟨D, n, h1, ⟨es, c, hb, _⟩, h3⟩ := h
  exact ⟨es, c, hb⟩
/-- Another state with the same sets of that kind. -/
theorem CntIs.congr (h : CntIs w b ps k) (e : ∀ n : Int, T.get ps' (k, n) = T.get ps (k, n)) : CntIs w b ps' k := by
  obtain ⟨D, n, h1, h2, h3⟩ := h
  exact ⟨D, n, h1, h2, fun n => by rw [h3.has, e], fun n hn z => by rw [e] at hn ⊢; exact h3.at_ n hn z⟩
theorem CntIs.look (h : CntIs w b ps k) (hs : T.Small ps) {n : Int} (hn : I64 n) (m : Nat) : (Instr.lookup 83 (.map (some b)) (.int .i64 n) false).run Tryz.prog w = .ok (.int .u32 (T.get ps (k, n))) w := by
  obtain ⟨D, c, h1, h2, h3⟩ := h
  obtain ⟨v, p, hr, hv⟩ := h2.lookup cntLaw Tryz.underlying83 (zeroU w) (cR_mk (x := 0) ⟨by omega, by omega⟩) (key_i hn)
  obtain ⟨a, rfl, ha, _⟩ := plainElem_int_inv Tryz.underlying23 hv
  simp only [Prod.mk.injEq] at ha
  rw [hr]
  by_cases e : T.get ps (k, n) ≠ 0
  · have := ha.1
    rw [h3.at_ n e] at this
    simp at this
    rw [this]
  · have hh : Maps.has D (.int .i64 n) = false := by rw [h3.has]; simpa using e
    have := ha.1
    rw [Maps.atKey_of_not_has hh] at this
    simp at this
    have e0 : T.get ps (k, n) = 0 := by simpa using e
    rw [e0, ← this]
/-- What a new set makes of the map. -/
theorem CntD.put {D : DataW Unit} (h : CntD ps k D) (hm : Maps.IsMap D) {n s : Int} (hs : s ≠ 0) (e : ∀ q, T.get ps' q = if q = (k, n) then s else T.get ps q) : CntD ps' k (D.put (.int .i64 n) (.lit (.int .u32 s))) := by
  constructor
  · intro x
    rw [e]
    by_cases ex : x = n
    · subst ex; rw [Maps.has_put_same hm (isKeyI x), if_pos rfl]; simp [hs]
    · rw [Maps.has_put_other (by simpa using ex), if_neg (by simpa using ex), h.has]
  · intro x hx z
    rw [e] at hx ⊢
    by_cases ex : x = n
    · subst ex; rw [Maps.atKey_put_same hm (isKeyI x), if_pos rfl]
    · rw [if_neg (by simpa using ex)] at hx ⊢
      rw [Maps.atKey_put_other (by simpa using ex)]; exact h.at_ x hx z
theorem CntD.del {D : DataW Unit} (h : CntD ps k D) {n : Int} (e : ∀ q, T.get ps' q = if q = (k, n) then 0 else T.get ps q) : CntD ps' k (D.del (.int .i64 n)) := by
  constructor
  · intro x
    rw [e]
    by_cases ex : x = n
    · subst ex; rw [Maps.has_del_same, if_pos rfl]; simp
    · rw [Maps.has_del_other (by simpa using ex), if_neg (by simpa using ex), h.has]
  · intro x hx z
    rw [e] at hx ⊢
    by_cases ex : x = n
    · subst ex; rw [if_pos rfl] at hx; exact absurd rfl hx
    · rw [if_neg (by simpa using ex)] at hx ⊢
      rw [Maps.atKey_del_other (by simpa using ex)]; exact h.at_ x hx z
theorem cnt_new (w : World) (k : Int) : CntIs (w.alloc (.map #[] 0)) w.heap.size [] k :=
  ⟨_, 0, by omega, World.ownsMap_made w Tryz.prog 3 (plainElem Tryz.prog 23), fun n => by simp [Maps.has], fun n hn => by simp at hn⟩
end

/-! ### the struct's cells -/
def cmV (C : Nat → Nat) (k : Nat) : Value := .map (if T.cntK k = true then some (C k) else none)
def plCells (M D : Nat) (s : Nat → Int) (C : Nat → Nat) : Array Value :=
  ((([.pointer (some ⟨M, 0, none⟩), .pointer (some ⟨D, 0, none⟩)] : List Value) ++ (List.range 144).map (fun i => Value.int .u32 (s i))) ++ (List.range 18).map (cmV C)).toArray
section
variable (M D : Nat) (s : Nat → Int) (C : Nat → Nat)
theorem plCells_size : (plCells M D s C).size = 164 := by simp [plCells]
theorem plCells_0 : (plCells M D s C)[0]? = some (.pointer (some ⟨M, 0, none⟩)) := rfl
theorem plCells_1 : (plCells M D s C)[1]? = some (.pointer (some ⟨D, 0, none⟩)) := rfl
theorem plCells_sm {i : Nat} (h : i < 144) : (plCells M D s C)[2 + i]? = some (.int .u32 (s i)) := by
  unfold plCells
  rw [List.getElem?_toArray, List.getElem?_append_left (by simp; omega), List.getElem?_append_right (by simp)]
  simp [h]
theorem plCells_map {k : Nat} (h : k < 18) : (plCells M D s C)[146 + k]? = some (cmV C k) := by
  unfold plCells
  rw [List.getElem?_toArray, List.getElem?_append_right (by simp)]
  simp [h]
theorem plCells_one : (plCells M D s C).all (·.oneCell') = true := by
  unfold plCells
  simp [Value.oneCell', cmV]
theorem plCells_ext {a : Array Value} (hs : a.size = 164) (h0 : a[0]? = some (.pointer (some ⟨M, 0, none⟩))) (h1 : a[1]? = some (.pointer (some ⟨D, 0, none⟩))) (h2 : ∀ i, i < 144 → a[2 + i]? = some (.int .u32 (s i))) (h3 : ∀ k, k < 18 → a[146 + k]? = some (cmV C k)) : a = plCells M D s C := by
  refine Array.ext_getElem? fun j => ?_
  rcases Nat.lt_or_ge j 2 with h | h
  · rcases (show j = 0 ∨ j = 1 by omega) with rfl | rfl
    · rw [h0, plCells_0]
    · rw [h1, plCells_1]
  · rcases Nat.lt_or_ge j 146 with h' | h'
    · obtain ⟨i, rfl⟩ : ∃ i, j = 2 + i := ⟨j - 2, by omega⟩
      rw [h2 i (by omega), plCells_sm _ _ _ _ (by omega)]
    · rcases Nat.lt_or_ge j 164 with h'' | h''
      · obtain ⟨k, rfl⟩ : ∃ k, j = 146 + k := ⟨j - 146, by omega⟩
        rw [h3 k (by omega), plCells_map _ _ _ _ (by omega)]
      · rw [Array.getElem?_eq_none (by omega), Array.getElem?_eq_none (by rw [plCells_size]; omega)]
theorem plCells_set {i : Nat} (h : i < 144) (x : Int) : (plCells M D s C).setIfInBounds (2 + i) (.int .u32 x) = plCells M D (fun j => if j = i then x else s j) C := by
  refine plCells_ext _ _ _ _ (by simp [plCells_size]) ?_ ?_ (fun j hj => ?_) (fun k hk => ?_)
  · rw [Array.getElem?_setIfInBounds_ne (by omega), plCells_0]
  · rw [Array.getElem?_setIfInBounds_ne (by omega), plCells_1]
  · by_cases e : j = i
    · subst e; rw [Array.getElem?_setIfInBounds_self_of_lt (by rw [plCells_size]; omega)]; simp
    · rw [Array.getElem?_setIfInBounds_ne (by omega), plCells_sm _ _ _ _ hj, if_neg e]
  · rw [Array.getElem?_setIfInBounds_ne (by omega), plCells_map _ _ _ _ hk]
theorem plCells_congr {s' : Nat → Int} (h : ∀ i, i < 144 → s i = s' i) : plCells M D s C = plCells M D s' C :=
  plCells_ext _ _ _ _ (plCells_size _ _ _ _) (plCells_0 _ _ _ _) (plCells_1 _ _ _ _) (fun i hi => by rw [plCells_sm _ _ _ _ hi, h i hi]) (fun k hk => plCells_map _ _ _ _ hk)
end

/-! ### where all places' sets stand -/
structure PlIs (w : World) (P M D : Nat) (C : Nat → Nat) (fr se : Int) (ps : List T.Pr) (FM FD : Nat → Prop) : Prop where
  bd : Bd fr se
  ris : T.Ris ps
  small : T.Small ps
  may : ∀ x ∈ ps, T.may fr se x.1 = true
  blk : Blk w P (plCells M D (T.sm ps) C) 89
  mem : L3.Sh w M fr.toNat (T.row ps 10 (64 * fr.toNat)) FM
  disk : L3.Sh w D se.toNat (T.row ps 12 (64 * se.toNat)) FD
  cnt : ∀ k : Nat, T.cntK k = true → CntIs w (C k) ps (k : Int)
  inj : ∀ k j : Nat, T.cntK k = true → T.cntK j = true → C k = C j → k = j
  pM : ¬ FM P
  pD : ¬ FD P
  md : ∀ j, FM j → ¬ FD j
  cM : ∀ k, T.cntK k = true → ¬ FM (C k)
  cD : ∀ k, T.cntK k = true → ¬ FD (C k)
def plB (P : Nat) (C : Nat → Nat) (FM FD : Nat → Prop) (j : Nat) : Prop := j = P ∨ FM j ∨ FD j ∨ ∃ k, T.cntK k = true ∧ j = C k
/-- THE SETS ps OF THE PLACES OF A FORM STAND AT BLOCK P; F: the blocks that are their own. -/
def Pla (w : World) (P : Nat) (fr se : Int) (ps : List T.Pr) (F : Nat → Prop) : Prop := ∃ M D C FM FD, F = plB P C FM FD ∧ PlIs w P M D C fr se ps FM FD
section
variable {w w' : World} {P M D : Nat} {C : Nat → Nat} {fr se : Int} {ps : List T.Pr} {FM FD F G : Nat → Prop}
theorem PlIs.cP (h : PlIs w P M D C fr se ps FM FD) {k : Nat} (hk : T.cntK k = true) : C k ≠ P := fun e => by
  obtain ⟨es, c, hb⟩ := (h.cnt k hk).isMap
  have := h.blk
  unfold Blk at this
  rw [e, this] at hb; cases hb
theorem PlIs.lt (h : PlIs w P M D C fr se ps FM FD) : ∀ j, plB P C FM FD j → j < w.heap.size := by
  rintro j (rfl | hj | hj | ⟨k, hk, rfl⟩)
  · exact h.blk.lt
  · exact h.mem.lt j hj
  · exact h.disk.lt j hj
  · exact (h.cnt k hk).lt
theorem PlIs.keep (h : PlIs w P M D C fr se ps FM FD) (hk : ∀ j, plB P C FM FD j → w'.heap[j]? = w.heap[j]?) : PlIs w' P M D C fr se ps FM FD :=
  { h with
    blk := h.blk.keep (hk P (.inl rfl))
    mem := h.mem.kept' fun j hj => hk j (.inr (.inl hj))
    disk := h.disk.kept' fun j hj => hk j (.inr (.inr (.inl hj)))
    cnt := fun k hc => (h.cnt k hc).keep (hk _ (.inr (.inr (.inr ⟨k, hc, rfl⟩)))) }
theorem PlIs.below (h : PlIs w P M D C fr se ps FM FD) (hb : Below w.heap.size w w') : PlIs w' P M D C fr se ps FM FD := h.keep fun j hj => hb.block j (h.lt j hj)
theorem Pla.lt (h : Pla w P fr se ps F) : ∀ j, F j → j < w.heap.size := by
  obtain ⟨M, D, C, FM, FD, rfl, h⟩ := h
  exact h.lt
theorem Pla.keep (h : Pla w P fr se ps F) (hk : ∀ j, F j → w'.heap[j]? = w.heap[j]?) : Pla w' P fr se ps F := by
  obtain ⟨M, D, C, FM, FD, rfl, h⟩ := h
  exact ⟨M, D, C, FM, FD, rfl, h.keep hk⟩
theorem Pla.below (h : Pla w P fr se ps F) (hb : Below w.heap.size w w') : Pla w' P fr se ps F := h.keep fun j hj => hb.block j (h.lt j hj)
theorem Pla.turned (h : Pla w P fr se ps F) (ht : Turned G w w') (hn : ∀ j, F j → ¬ G j) : Pla w' P fr se ps F := h.keep fun j hj => ht.block j (h.lt j hj) (hn j hj)
theorem Pla.mem (h : Pla w P fr se ps F) : F P := by
  obtain ⟨M, D, C, FM, FD, rfl, h⟩ := h
  exact .inl rfl
end
/-- The sets of the places are turned into these; only their own blocks have turned. -/
def PlaTo (w : World) (P : Nat) (fr se : Int) (ps : List T.Pr) (F : Nat → Prop) (w' : World) : Prop := ∃ F', Pla w' P fr se ps F' ∧ Turned F w w' ∧ ∀ j, F' j → F j ∨ w.heap.size ≤ j
end Go.Proofs.YtiohlmccnllklaaGreatDoor

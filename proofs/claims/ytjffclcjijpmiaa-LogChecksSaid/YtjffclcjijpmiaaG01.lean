/-
  Layer 12: plain numbers and lists: pairs of places and sets, by rising kind, then number; what calls make of them. No program. Layer 12 (as in layers 9, 10): what a world holds: blocks known whole; slices that may be grown in place, whatever their elements, also ones whose beginning was cut off; append onto them. Short words for the walk of a drawn region (wpAnyH): what each step asks is asked once, here. Layer 12 (as in layers 9, 10): whole blocks, of whatever struct, read and written, at the walk and in drawn regions. Layer 12: slices that are read: places, touches, calls; the document's flow. Layer 12: what is held while a drawn region is walked through.
-/
import Derived.Test.YtjffclcjijpmiaaG00
import Derived.WalkKit
import Derived.Test.YtjffclcjijpmiaaRows
import Derived.Below
import Derived.Laws.Rows
import Derived.Laws.Tables
import Derived.Laws.NewBlocks
import Derived.Laws.AppendOwn
import Derived.Deep.MidRow
import Derived.Deep.WholeRow
import Derived.Deep.Draws
import Derived.Deep.AppendSrc
import Derived.Deep.RegionHeld
import Derived.Deep.RegionHeld3
import Derived.Lib.Hide
import Derived.WalkSpells
import Derived.WalkLawsBesides
import Derived.Laws.StructEq
import Derived.BigQuiet
import Derived.Laws.ResultCell
set_option linter.unusedVariables false
set_option linter.unusedSimpArgs false
namespace Go.Proofs.Ytjffclcjijpmiaa
open Go.RowKit

def W32 (a : Int) : Prop := 0 ≤ a ∧ a < 4294967296
def S16 (a : Int) : Prop := 0 ≤ a ∧ a < 65536
theorem w32_of_wf {a : Int} (h : (Lit.int .u32 a).wf = true) : W32 a := L2.w32_of_wf h
theorem wf_of_w32 {a : Int} (h : W32 a) : (Lit.int .u32 a).wf = true := L2.wf_of_w32 h
theorem wf_i64 {x : Int} (h0 : -9223372036854775808 ≤ x) (h1 : x ≤ 9223372036854775807) : (Lit.int .i64 x).wf = true := L2.wf_i64 h0 h1
theorem i64_of_wf {a : Int} (h : (Lit.int .i64 a).wf = true) : -9223372036854775808 ≤ a ∧ a ≤ 9223372036854775807 := by
  simp [Lit.wf, IntKind.min, IntKind.max, IntKind.signed, IntKind.bits] at h; omega
end Go.Proofs.Ytjffclcjijpmiaa
namespace Go.Proofs.Ytjffclcjijpmiaa.T

abbrev Pl := Int × Int
abbrev Pr := (Int × Int) × Int

def lt (a b : Pl) : Bool := decide (a.1 < b.1) || (decide (a.1 = b.1) && decide (a.2 < b.2))
theorem lt_iff (a b : Pl) : lt a b = true ↔ a.1 < b.1 ∨ (a.1 = b.1 ∧ a.2 < b.2) := by simp [lt]
theorem lt_irrefl (a : Pl) : lt a a = false := by simp [lt]
theorem lt_trans {a b c : Pl} (h : lt a b = true) (k : lt b c = true) : lt a c = true := by
  rw [lt_iff] at *; omega
theorem lt_ne {a b : Pl} (h : lt a b = true) : a ≠ b := by
  rintro rfl; rw [lt_irrefl] at h; cases h
theorem lt_asymm {a b : Pl} (h : lt a b = true) : lt b a = false := by
  cases e : lt b a with
  | false => rfl
  | true => have := lt_trans h e; rw [lt_irrefl] at this; cases this
theorem lt_tri {a b : Pl} (h : lt a b = false) (n : a ≠ b) : lt b a = true := by
  rw [lt_iff]
  have h' : ¬ (lt a b = true) := by simp [h]
  rw [lt_iff] at h'
  obtain ⟨a1, a2⟩ := a; obtain ⟨b1, b2⟩ := b
  simp only [ne_eq, Prod.mk.injEq] at *
  omega

/-- A place's set. -/
def get : List Pr → Pl → Int
  | [], _ => 0
  | x :: r, p => if x.1 = p then x.2 else get r p
@[simp] theorem get_nil (p : Pl) : get [] p = 0 := rfl
theorem get_cons (x : Pr) (r : List Pr) (p : Pl) : get (x :: r) p = if x.1 = p then x.2 else get r p := rfl

/-- Rising, and no set is empty. -/
def Ris : List Pr → Prop
  | [] => True
  | x :: r => x.2 ≠ 0 ∧ (∀ y ∈ r, lt x.1 y.1 = true) ∧ Ris r

theorem get_none {l : List Pr} {p : Pl} (h : ∀ y ∈ l, y.1 ≠ p) : get l p = 0 := by
  induction l with
  | nil => rfl
  | cons x r ih => rw [get_cons, if_neg (h x (by simp))]; exact ih fun y hy => h y (by simp [hy])
theorem Ris.get_mem {l : List Pr} (h : Ris l) {x : Pr} (hx : x ∈ l) : get l x.1 = x.2 := by
  induction l with
  | nil => cases hx
  | cons y r ih =>
    obtain ⟨h1, h2, h3⟩ := h
    rw [get_cons]
    rcases List.mem_cons.1 hx with rfl | hm
    · rw [if_pos rfl]
    · rw [if_neg (lt_ne (h2 x hm))]; exact ih h3 hm
theorem Ris.nz {l : List Pr} (h : Ris l) {x : Pr} (hx : x ∈ l) : x.2 ≠ 0 := by
  induction l with
  | nil => cases hx
  | cons y r ih =>
    obtain ⟨h1, h2, h3⟩ := h
    rcases List.mem_cons.1 hx with rfl | hm
    · exact h1
    · exact ih h3 hm
theorem get_ne {l : List Pr} {p : Pl} (h : get l p ≠ 0) : ∃ x ∈ l, x.1 = p ∧ x.2 = get l p := by
  induction l with
  | nil => simp at h
  | cons y r ih =>
    rw [get_cons] at h ⊢
    by_cases e : y.1 = p
    · exact ⟨y, by simp, e, by rw [if_pos e]⟩
    · rw [if_neg e] at h ⊢
      obtain ⟨x, hx, h1⟩ := ih h
      exact ⟨x, by simp [hx], h1⟩

/-- Two rising lists with the same sets are one. -/
theorem Ris.ext {l m : List Pr} (hl : Ris l) (hm : Ris m) (h : ∀ p, get l p = get m p) : l = m := by
  induction l generalizing m with
  | nil =>
    cases m with
    | nil => rfl
    | cons y s => exact absurd ((h y.1).trans (hm.get_mem (by simp))).symm (hm.nz (by simp))
  | cons x r ih =>
    cases m with
    | nil => exact absurd ((h x.1).symm.trans (hl.get_mem (by simp))).symm (hl.nz (by simp))
    | cons y s =>
      obtain ⟨a1, a2, a3⟩ := hl
      obtain ⟨b1, b2, b3⟩ := hm
      have hl : Ris (x :: r) := ⟨a1, a2, a3⟩
      have hm : Ris (y :: s) := ⟨b1, b2, b3⟩
      have hxy : x.1 = y.1 := by
        have h1 := (h x.1).symm.trans (hl.get_mem (x := x) (by simp))
        have h2 := (h y.1).trans (hm.get_mem (x := y) (by simp))
        obtain ⟨u, hu, e1, _⟩ := get_ne (l := y :: s) (p := x.1) (by rw [h1]; exact a1)
        obtain ⟨v, hv, e2, _⟩ := get_ne (l := x :: r) (p := y.1) (by rw [h2]; exact b1)
        rcases List.mem_cons.1 hu with rfl | hu
        · exact e1.symm
        rcases List.mem_cons.1 hv with rfl | hv
        · exact e2
        have l1 := b2 u hu; have l2 := a2 v hv
        rw [e1] at l1; rw [e2] at l2
        have := lt_trans l1 l2; rw [lt_irrefl] at this; cases this
      have hx2 : x.2 = y.2 := by
        have := h x.1
        rw [get_cons, get_cons, if_pos rfl, if_pos hxy.symm] at this; exact this
      have hxe : x = y := Prod.ext hxy hx2
      subst hxe
      rw [ih a3 b3 fun p => ?_]
      have := h p
      rw [get_cons, get_cons] at this
      by_cases e : x.1 = p
      · subst e
        rw [get_none fun z hz => (lt_ne (a2 z hz)).symm, get_none fun z hz => (lt_ne (b2 z hz)).symm]
      · rwa [if_neg e, if_neg e] at this

/-- What the loop of Put makes of the rest. -/
def go (p : Pl) (s : Int) : Bool → List Pr → List Pr
  | d, [] => if d then [] else [(p, s)]
  | d, x :: r =>
    (if !d && lt p x.1 then [(p, s)] else []) ++ (if x.1 = p then [] else [x]) ++
      (if x.1 = p ∧ !(d || lt p x.1) then (p, s) :: go p s true r else go p s (d || lt p x.1) r)
def put (l : List Pr) (p : Pl) (s : Int) : List Pr := go p s (decide (s = 0)) l

theorem go_true (p : Pl) (s : Int) (l : List Pr) : go p s true l = l.filter fun x => decide (x.1 ≠ p) := by
  induction l with
  | nil => rfl
  | cons x r ih =>
    simp only [go, Bool.not_true, Bool.false_and, Bool.true_or, List.filter]
    by_cases e : x.1 = p <;> simp [e, ih]
theorem get_filter {l : List Pr} (p q : Pl) : get (l.filter fun x => decide (x.1 ≠ p)) q = if q = p then 0 else get l q := by
  induction l with
  | nil => simp
  | cons x r ih =>
    by_cases e : x.1 = p
    · rw [List.filter_cons_of_neg (by simp [e]), ih, get_cons]
      by_cases eq : q = p
      · simp [eq]
      · rw [if_neg eq, if_neg eq, if_neg (by rw [e]; exact fun h => eq h.symm)]
    · rw [List.filter_cons_of_pos (by simp [e]), get_cons, ih, get_cons]
      by_cases eq : q = p
      · subst eq; rw [if_neg e]; simp
      · simp [eq]
theorem Ris.filter {l : List Pr} (h : Ris l) (f : Pr → Bool) : Ris (l.filter f) := by
  induction l with
  | nil => exact h
  | cons x r ih =>
    obtain ⟨h1, h2, h3⟩ := h
    by_cases e : f x = true
    · rw [List.filter_cons_of_pos e]
      exact ⟨h1, fun y hy => h2 y (List.mem_filter.1 hy).1, ih h3⟩
    · rw [List.filter_cons_of_neg e]; exact ih h3
/-- Where the place isn't yet put, and all that is behind rises. -/
theorem go_false {p : Pl} {s : Int} (hs : s ≠ 0) {l : List Pr} (h : Ris l) : Ris (go p s false l) ∧ (∀ q, get (go p s false l) q = if q = p then s else get l q) ∧ (∀ y ∈ go p s false l, y = (p, s) ∨ y ∈ l) := by
  induction l with
  | nil =>
    refine ⟨⟨hs, by simp, trivial⟩, fun q => ?_, fun y hy => ?_⟩
    · simp only [go, Bool.false_eq_true, if_false, get_cons, get_nil]
      by_cases e : q = p
      · simp [e]
      · rw [if_neg (fun h => e h.symm), if_neg e]
    · simp [go] at hy; exact .inl hy
  | cons x r ih =>
    obtain ⟨h1, h2, h3⟩ := h
    obtain ⟨i1, i2, i3⟩ := ih h3
    by_cases e : x.1 = p
    · subst e
      have e2 : go x.1 s false (x :: r) = (x.1, s) :: r.filter (fun y => decide (y.1 ≠ x.1)) := by simp [go, lt_irrefl, go_true]
      have e3 : r.filter (fun y => decide (y.1 ≠ x.1)) = r := List.filter_eq_self.2 fun y hy => by simpa using (lt_ne (h2 y hy)).symm
      rw [e2, e3]
      refine ⟨⟨hs, fun y hy => h2 y hy, h3⟩, fun q => ?_, fun y hy => ?_⟩
      · rw [get_cons, get_cons]
        by_cases eq : q = x.1
        · simp [eq]
        · rw [if_neg (fun h => eq h.symm), if_neg eq, if_neg (fun h => eq h.symm)]
      · rcases List.mem_cons.1 hy with rfl | hy
        · exact .inl rfl
        · exact .inr (by simp [hy])
    · cases el : lt p x.1 with
      | true =>
        have e2 : go p s false (x :: r) = (p, s) :: x :: r.filter (fun y => decide (y.1 ≠ p)) := by simp [go, el, e, go_true]
        have e3 : r.filter (fun y => decide (y.1 ≠ p)) = r := List.filter_eq_self.2 fun y hy => by simpa using (lt_ne (lt_trans el (h2 y hy))).symm
        rw [e2, e3]
        refine ⟨⟨hs, fun y hy => ?_, h1, h2, h3⟩, fun q => ?_, fun y hy => ?_⟩
        · rcases List.mem_cons.1 hy with rfl | hy
          · exact el
          · exact lt_trans el (h2 y hy)
        · rw [get_cons]
          by_cases eq : q = p
          · simp [eq]
          · rw [if_neg (fun h => eq h.symm), if_neg eq]
        · rcases List.mem_cons.1 hy with rfl | hy
          · exact .inl rfl
          · exact .inr hy
      | false =>
        have e2 : go p s false (x :: r) = x :: go p s false r := by simp [go, el, e]
        rw [e2]
        refine ⟨⟨h1, fun y hy => ?_, i1⟩, fun q => ?_, fun y hy => ?_⟩
        · rcases i3 y hy with rfl | hy
          · exact lt_tri el (fun h => e h.symm)
          · exact h2 y hy
        · rw [get_cons, get_cons, i2 q]
          by_cases eq : q = p
          · subst eq; rw [if_neg e, if_pos rfl]; simp
          · simp [eq]
        · rcases List.mem_cons.1 hy with rfl | hy
          · exact .inr (by simp)
          · rcases i3 y hy with h | h
            · exact .inl h
            · exact .inr (by simp [h])
theorem Ris.put {l : List Pr} (h : Ris l) (p : Pl) (s : Int) : Ris (put l p s) := by
  unfold T.put
  by_cases e : s = 0
  · rw [decide_eq_true e, go_true]; exact h.filter _
  · rw [decide_eq_false e]; exact (go_false e h).1
theorem Ris.get_put {l : List Pr} (h : Ris l) (p : Pl) (s : Int) (q : Pl) : get (T.put l p s) q = if q = p then s else get l q := by
  unfold T.put
  by_cases e : s = 0
  · subst e; rw [decide_eq_true rfl, go_true]; exact get_filter p q
  · rw [decide_eq_false e]; exact (go_false e h).2.1 q
theorem go_mem {p : Pl} {s : Int} {d : Bool} {l : List Pr} {y : Pr} (h : y ∈ go p s d l) : y = (p, s) ∨ y ∈ l := by
  induction l generalizing d with
  | nil => cases d <;> simp [go] at h; exact .inl h
  | cons x r ih =>
    simp only [go, List.mem_append] at h
    rcases h with (h | h) | h
    · split at h
      · simp at h; exact .inl h
      · cases h
    · split at h
      · cases h
      · simp at h; exact .inr (by simp [h])
    · split at h
      · rcases List.mem_cons.1 h with h | h
        · exact .inl h
        · rcases ih h with h | h
          · exact .inl h
          · exact .inr (by simp [h])
      · rcases ih h with h | h
        · exact .inl h
        · exact .inr (by simp [h])
theorem put_mem {l : List Pr} {p : Pl} {s : Int} {y : Pr} (h : y ∈ put l p s) : y = (p, s) ∨ y ∈ l := go_mem h
theorem go_len (p : Pl) (s : Int) (d : Bool) (l : List Pr) : (go p s d l).length ≤ l.length + 1 := by
  induction l generalizing d with
  | nil => cases d <;> simp [go]
  | cons x r ih =>
    have i1 : (go p s true r).length ≤ r.length := by rw [go_true]; exact List.length_filter_le _ _
    have i2 := ih (d || lt p x.1)
    by_cases e : x.1 = p
    · cases d <;> cases el : lt p x.1 <;> simp_all [go] <;> omega
    · cases d <;> cases el : lt p x.1 <;> simp_all [go]
theorem put_len (l : List Pr) (p : Pl) (s : Int) : (put l p s).length ≤ l.length + 1 := go_len p s _ l

/-- How many places of a kind there are. -/
def most (fr se k : Int) : Int :=
  if k < 1 ∨ 17 < k then 0 else if k = 1 then 8 else if k = 10 then 64 * fr else if k = 11 then 4 else if k = 12 then 64 * se else if 13 ≤ k ∧ k ≤ 16 then 2147483648 else if k = 17 then 2 else 1
def may (fr se : Int) (p : Pl) : Bool := decide (0 ≤ p.2) && decide (p.2 < most fr se p.1)
theorem may_iff {fr se : Int} {p : Pl} : may fr se p = true ↔ 0 ≤ p.2 ∧ p.2 < most fr se p.1 := by simp [may]

/-- Sets together. -/
abbrev orI (a b : Int) : Int := L2.orI a b
theorem orI_bd {a b : Int} (ha : 0 ≤ a ∧ a < 65536) (hb : 0 ≤ b ∧ b < 65536) : 0 ≤ orI a b ∧ orI a b < 65536 := by
  unfold orI L2.orI
  have h : a.toNat ||| b.toNat < 2 ^ 16 := Nat.or_lt_two_pow (by omega) (by omega)
  omega
def tog (l : List Pr) : Int → List Pl → Int
  | s, [] => s
  | s, p :: r => tog l (orI s (get l p)) r
def Small (l : List Pr) : Prop := ∀ x ∈ l, 0 ≤ x.2 ∧ x.2 < 65536
theorem Small.get {l : List Pr} (h : Small l) (p : Pl) : 0 ≤ get l p ∧ T.get l p < 65536 := by
  induction l with
  | nil => simp
  | cons x r ih =>
    rw [get_cons]
    split
    · exact h x (by simp)
    · exact ih fun y hy => h y (by simp [hy])
theorem Small.put {l : List Pr} (h : Small l) {p : Pl} {s : Int} (hs : 0 ≤ s ∧ s < 65536) : Small (put l p s) := fun x hx => by
  rcases put_mem hx with rfl | hx
  · exact hs
  · exact h x hx
theorem Small.tog {l : List Pr} (h : Small l) {s : Int} (hs : 0 ≤ s ∧ s < 65536) (r : List Pl) : 0 ≤ tog l s r ∧ T.tog l s r < 65536 := by
  induction r generalizing s with
  | nil => exact hs
  | cons p r ih => exact ih (orI_bd hs (h.get p))

/-- A touch: to, from. -/
abbrev Tc := Pl × List Pl
def none0 : Pl := (0, 0)
def mayT (fr se : Int) (t : Tc) : Bool := (decide (t.1 = none0) || may fr se t.1) && t.2.all (may fr se)
def mayAll (fr se : Int) (l : List Tc) : Bool := l.all (mayT fr se)

/-- The n places from one on get a set. -/
def marks (p : Pl) (s : Int) : Nat → List Pr → List Pr
  | 0, l => l
  | n + 1, l => put (marks p s n l) (p.1, p.2 + n) s
theorem marks_ris {l : List Pr} (h : Ris l) (p : Pl) (s : Int) (n : Nat) : Ris (marks p s n l) := by
  induction n with
  | zero => exact h
  | succ n ih => exact ih.put _ _
theorem marks_get {l : List Pr} (h : Ris l) (p : Pl) (s : Int) (n : Nat) (q : Pl) : get (marks p s n l) q = if q.1 = p.1 ∧ p.2 ≤ q.2 ∧ q.2 < p.2 + n then s else get l q := by
  induction n with
  | zero => simp only [marks]; rw [if_neg (by omega)]
  | succ n ih =>
    simp only [marks]
    rw [(marks_ris h p s n).get_put, ih]
    obtain ⟨q1, q2⟩ := q
    by_cases e : (q1, q2) = ((p.1, p.2 + (n : Int)) : Pl)
    · simp only [Prod.mk.injEq] at e
      rw [if_pos (by simp [e]), if_pos (by simp only; omega)]
    · rw [if_neg e]
      simp only [Prod.mk.injEq] at e
      by_cases c : q1 = p.1 ∧ p.2 ≤ q2 ∧ q2 < p.2 + (n : Int)
      · rw [if_pos c, if_pos (by simp only; omega)]
      · rw [if_neg c, if_neg (by simp only; omega)]
theorem marks_small {l : List Pr} (h : Small l) {s : Int} (hs : 0 ≤ s ∧ s < 65536) (p : Pl) (n : Nat) : Small (marks p s n l) := by
  induction n with
  | zero => exact h
  | succ n ih => exact ih.put hs
theorem marks_len (l : List Pr) (p : Pl) (s : Int) (n : Nat) : (marks p s n l).length ≤ l.length + n := by
  induction n with
  | zero => simp [marks]
  | succ n ih => have := put_len (marks p s n l) (p.1, p.2 + (n : Int)) s; simp only [marks]; omega

/-- What is kept of touches, in their order: the sets, the error, what each gives. -/
def keep (mo : Int) (ss : List Int) (x : Int) : List Int × Int := ((L2.keepR mo ss x).1, (L2.keepR mo ss x).2.2)
def gives (l : List Pr) (t : Tc) : Int := if t.1 = none0 then 0 else tog l 0 t.2
/-- The sets behind touches, and the error. -/
def keeps (mo : Int) (l : List Pr) : List Int → List Tc → List Int × Int
  | ss, [] => (ss, 0)
  | ss, t :: r => if t.1 = none0 then keeps mo l ss r else
      let k := keep mo ss (tog l 0 t.2)
      if k.2 = 0 then keeps mo l k.1 r else k
/-- All at once: what is applied of what was ahead. -/
def lays (l : List Pr) : List Pr → List Tc → List Pr
  | o, [] => o
  | o, t :: r => lays l (if t.1 = none0 then o else put o t.1 (tog l 0 t.2)) r
def dec (l : List Pr) : Int → List Tc → Int
  | s, [] => s
  | s, t :: r => dec l (if t.1 = none0 then orI s (tog l 0 t.2) else s) r

structure Fl where
  fr : Int
  se : Int
  mo : Int
  ss : List Int
  ps : List Pr
def Fl.mark (f : Fl) (p : Pl) (n : Int) (s : Int) : Fl × Int :=
  if may f.fr f.se p = false ∨ 65536 ≤ s then (f, 2)
  else if n < 0 ∨ 65536 < n ∨ (0 < n ∧ may f.fr f.se (p.1, p.2 + n - 1) = false) then (f, 4)
  else
    let k := keep f.mo f.ss s
    if k.2 = 0 then ({ f with ss := k.1, ps := marks p s n.toNat f.ps }, 0) else (f, k.2)
def Fl.apply (f : Fl) (l : List Tc) : Fl × Int :=
  if mayAll f.fr f.se l = false then (f, 2)
  else
    let k := keeps f.mo f.ps f.ss l
    if k.2 = 0 then ({ f with ss := k.1, ps := lays f.ps f.ps l }, 0) else ({ f with ss := k.1 }, k.2)
def Fl.decides (f : Fl) (l : List Tc) : Int × Int := if mayAll f.fr f.se l = false then (0, 2) else (dec f.ps 0 l, 0)

theorem lays_ris {l o : List Pr} (h : Ris o) (r : List Tc) : Ris (lays l o r) := by
  induction r generalizing o with
  | nil => exact h
  | cons t r ih => refine ih ?_; split; exact h; exact h.put _ _
theorem lays_small {l o : List Pr} (hl : Small l) (h : Small o) (r : List Tc) : Small (lays l o r) := by
  induction r generalizing o with
  | nil => exact h
  | cons t r ih => refine ih ?_; split; exact h; exact h.put (hl.tog (by omega) _)
theorem lays_len (l o : List Pr) (r : List Tc) : (lays l o r).length ≤ o.length + r.length := by
  induction r generalizing o with
  | nil => simp [lays]
  | cons t r ih =>
    have h := ih (if t.1 = none0 then o else put o t.1 (tog l 0 t.2))
    have : (if t.1 = none0 then o else put o t.1 (tog l 0 t.2)).length ≤ o.length + 1 := by
      split
      · omega
      · exact put_len _ _ _
    simp only [lays, List.length_cons]; omega
/-- What a place gets of touches: the last one that goes to it counts. -/
def last (l : List Pr) (q : Pl) : Option Int → List Tc → Option Int
  | o, [] => o
  | o, t :: r => last l q (if t.1 ≠ none0 ∧ t.1 = q then some (tog l 0 t.2) else o) r
theorem lays_get {l o : List Pr} (h : Ris o) (r : List Tc) (q : Pl) (b : Option Int) (v : Int) (hb : get o q = b.getD v) : get (lays l o r) q = (last l q b r).getD v := by
  induction r generalizing o b with
  | nil => exact hb
  | cons t r ih =>
    simp only [lays, last]
    by_cases e : t.1 = none0
    · rw [if_pos e, if_neg (by simp [e])]; exact ih h _ hb
    · rw [if_neg e]
      refine ih (h.put _ _) _ ?_
      rw [h.get_put]
      by_cases eq : q = t.1
      · subst eq; simp [e]
      · rw [if_neg eq, if_neg (by rintro ⟨_, rfl⟩; exact eq rfl)]; exact hb

/-- How many pages of a kind pairs tell, one behind the other. -/
def pgs (k : Int) : Int → Int → List Pr → Int
  | _, n, [] => n
  | b, n, x :: r => if x.1.1 = k ∧ x.1.2 / 64 ≠ b then pgs k (x.1.2 / 64) (n + 1) r else pgs k b n r
def on (k : Int) (l : List Pr) (b : Int) (p : Nat) : Bool := decide (b < (p : Int)) && l.any fun x => decide (x.1.1 = k ∧ x.1.2 / 64 = (p : Int))
theorem filter_one {f g : Nat → Bool} {P q : Nat} (hq : q < P) (hg : g q = false) (h : ∀ p, p < P → f p = (decide (p = q) || g p)) : ((List.range P).filter f).length = ((List.range P).filter g).length + 1 := by
  induction P with
  | zero => omega
  | succ P ih =>
    rw [List.range_succ, List.filter_append, List.filter_append, List.length_append, List.length_append]
    by_cases e : q = P
    · subst e
      have e1 : (List.range q).filter f = (List.range q).filter g := List.filter_congr fun p hp => by
        have hp' := List.mem_range.1 hp
        rw [h p (by omega), decide_eq_false (by omega)]; rfl
      rw [e1]
      have e2 := h q (by omega)
      simp [hg] at e2 ⊢
      simp [e2, List.filter]
    · have := ih (by omega) fun p hp => h p (by omega)
      have e2 := h P (by omega)
      rw [decide_eq_false (fun h => e h.symm)] at e2
      simp only [Bool.false_or] at e2
      have e3 : (List.filter f [P]).length = (List.filter g [P]).length := by simp only [List.filter, e2]
      omega
theorem pgs_eq {k : Int} {P : Nat} {l : List Pr} (h : Ris l) (hP : ∀ x ∈ l, x.1.1 = k → 0 ≤ x.1.2 ∧ x.1.2 < 64 * P) (b n : Int) (hb : ∀ x ∈ l, x.1.1 = k → b ≤ x.1.2 / 64) :
    pgs k b n l = n + (((List.range P).filter (on k l b)).length : Int) := by
  induction l generalizing b n with
  | nil =>
    have e : (List.range P).filter (on k [] b) = [] := List.filter_eq_nil_iff.2 fun p _ => by simp [on]
    simp [pgs, e]
  | cons x r ih =>
    obtain ⟨h1, h2, h3⟩ := h
    have ih' := ih h3 fun y hy => hP y (by simp [hy])
    simp only [pgs]
    by_cases hk : x.1.1 = k
    · have hx := hP x (by simp) hk
      have hbx := hb x (by simp) hk
      have hr : ∀ y ∈ r, y.1.1 = k → x.1.2 / 64 ≤ y.1.2 / 64 := fun y hy ky => by
        have := h2 y hy
        rw [lt_iff] at this
        omega
      by_cases e : x.1.2 / 64 = b
      · rw [if_neg (by simp [e]), ih' b n fun y hy ky => by have := hr y hy ky; omega]
        congr 3
        refine List.filter_congr fun p _ => ?_
        unfold on
        rw [List.any_cons]
        by_cases hp : b < (p : Int)
        · rw [decide_eq_false (p := x.1.1 = k ∧ x.1.2 / 64 = (p : Int)) (by omega)]; simp
        · rw [decide_eq_false hp]; simp
      · rw [if_pos ⟨hk, e⟩, ih' (x.1.2 / 64) (n + 1) hr]
        obtain ⟨q, hq⟩ : ∃ q : Nat, x.1.2 / 64 = (q : Int) := ⟨(x.1.2 / 64).toNat, by omega⟩
        rw [filter_one (f := on k (x :: r) b) (g := on k r (x.1.2 / 64)) (q := q) (by omega) (by unfold on; rw [decide_eq_false (by omega)]; rfl)]
        · push_cast; omega
        · intro p hp
          unfold on
          rw [List.any_cons]
          by_cases e2 : p = q
          · subst e2
            rw [decide_eq_true (p := x.1.1 = k ∧ x.1.2 / 64 = (p : Int)) ⟨hk, hq⟩, decide_eq_true (p := b < (p : Int)) (by omega)]; simp
          · rw [decide_eq_false (p := x.1.1 = k ∧ x.1.2 / 64 = (p : Int)) (by omega), decide_eq_false e2, Bool.false_or, Bool.false_or]
            cases ha : (r.any fun y => decide (y.1.1 = k ∧ y.1.2 / 64 = (p : Int))) with
            | false => simp
            | true =>
              obtain ⟨y, hy, hy2⟩ := List.any_eq_true.1 ha
              have hy2 := of_decide_eq_true hy2
              have := hr y hy hy2.1
              rw [decide_eq_true (p := b < (p : Int)) (by omega), decide_eq_true (p := x.1.2 / 64 < (p : Int)) (by omega)]
    · rw [if_neg (by simp [hk]), ih' b n fun y hy ky => hb y (by simp [hy]) ky]
      congr 3
      refine List.filter_congr fun p _ => ?_
      unfold on
      rw [List.any_cons, decide_eq_false (p := x.1.1 = k ∧ x.1.2 / 64 = (p : Int)) (by simp [hk]), Bool.false_or]
/-- Pages of a kind: those in which some byte has a set. -/
theorem pgs_count {k : Int} {P : Nat} {l : List Pr} (h : Ris l) (hP : ∀ x ∈ l, x.1.1 = k → 0 ≤ x.1.2 ∧ x.1.2 < 64 * P) {f : Nat → Bool} (hf : ∀ p, p < P → (f p = true ↔ ∃ i : Nat, i < 64 ∧ get l (k, 64 * p + i) ≠ 0)) :
    pgs k (-1) 0 l = (((List.range P).filter f).length : Int) := by
  rw [pgs_eq h hP (-1) 0 fun x hx hk => by have := hP x hx hk; omega, Int.zero_add]
  congr 2
  refine List.filter_congr fun p hp => ?_
  rw [Bool.eq_iff_iff, hf p (List.mem_range.1 hp)]
  unfold on
  rw [decide_eq_true (p := (-1 : Int) < (p : Int)) (by omega), Bool.true_and, List.any_eq_true]
  constructor
  · rintro ⟨x, hx, h2⟩
    obtain ⟨hk, hq⟩ := of_decide_eq_true h2
    have hb := hP x hx hk
    refine ⟨(x.1.2 - 64 * p).toNat, by omega, ?_⟩
    have e : ((k, 64 * (p : Int) + ((x.1.2 - 64 * (p : Int)).toNat : Int)) : Pl) = x.1 := by
      refine Prod.ext hk.symm ?_
      show 64 * (p : Int) + _ = x.1.2
      omega
    rw [e, h.get_mem hx]; exact h.nz hx
  · rintro ⟨i, hi, h2⟩
    obtain ⟨x, hx, h3, _⟩ := get_ne h2
    refine ⟨x, hx, decide_eq_true ?_⟩
    rw [h3]
    exact ⟨rfl, by show (64 * (p : Int) + i) / 64 = p; omega⟩
end Go.Proofs.Ytjffclcjijpmiaa.T
namespace Go.Proofs.Ytjffclcjijpmiaa
open Go.RowKit
set_option linter.unusedVariables false

/-! ### worlds that turn in some blocks alone -/
structure Turned (F : Nat → Prop) (w w' : World) : Prop where
  os : w'.os = w.os
  tape : w'.tape = w.tape
  output : w'.output = w.output
  size : w.heap.size ≤ w'.heap.size
  block : ∀ k, k < w.heap.size → ¬ F k → w'.heap[k]? = w.heap[k]?

theorem Turned.refl (F : Nat → Prop) (w : World) : Turned F w w := ⟨rfl, rfl, rfl, Nat.le_refl _, fun _ _ _ => rfl⟩
theorem Turned.trans {F G : Nat → Prop} {a b c : World} (h : Turned F a b) (k : Turned G b c) (hG : ∀ x, G x → F x ∨ a.heap.size ≤ x) : Turned F a c :=
  ⟨k.os.trans h.os, k.tape.trans h.tape, k.output.trans h.output, Nat.le_trans h.size k.size, fun i hi hn =>
    (k.block i (Nat.lt_of_lt_of_le hi h.size) (fun hm => by rcases hG i hm with h' | h'; exact hn h'; omega)).trans (h.block i hi hn)⟩
theorem Turned.mono {F G : Nat → Prop} {a b : World} (h : Turned F a b) (hG : ∀ x, F x → G x) : Turned G a b :=
  ⟨h.os, h.tape, h.output, h.size, fun k hk hn => h.block k hk (fun hm => hn (hG k hm))⟩
theorem Turned.of_below {w w' : World} (h : Below w.heap.size w w') (F : Nat → Prop) : Turned F w w' := ⟨h.os, h.tape, h.output, h.size, fun k hk _ => h.block k hk⟩
theorem Turned.of_grown {w w' : World} {row : Option Nat} (h : w.grownBy w' row) {F : Nat → Prop} (hr : ∀ k, row = some k → F k) : Turned F w w' :=
  ⟨h.os, h.tape, h.output, h.size, fun k hk hn => h.block k hk (fun e => hn (hr k e.symm))⟩
theorem Turned.alloc {F : Nat → Prop} {a w : World} (h : Turned F a w) (o : Obj) : Turned F a (w.alloc o) :=
  h.trans (G := fun _ => False) ⟨rfl, rfl, rfl, by simp, fun k hk _ => Below.heap_alloc _ _ _ hk⟩ (fun x hx => hx.elim)
theorem Turned.drew {F : Nat → Prop} {a w : World} (h : Turned F a w) : Turned F a w.drew := ⟨h.os, h.tape, h.output, h.size, h.block⟩
theorem Turned.setCell {F : Nat → Prop} {a w : World} (h : Turned F a w) {p : Addr} (hp : F p.block ∨ a.heap.size ≤ p.block) (u : Value) : Turned F a (w.setCell p u) :=
  h.trans (G := fun k => k = p.block) ⟨rfl, rfl, rfl, by simp [World.setCell], fun k _ hn => Below.heap_setCell _ _ _ _ hn⟩ (fun x hx => by subst hx; exact hp)
theorem Turned.below {F : Nat → Prop} {w w' : World} (h : Turned F w w') {B : Nat} (hB : B ≤ w.heap.size) (hF : ∀ k, F k → B ≤ k) : Below B w w' :=
  ⟨h.os, h.tape, h.output, h.size, fun k hk => h.block k (by omega) (fun hm => by have := hF k hm; omega)⟩
theorem below_drewN (B : Nat) (w : World) (n : Nat) : Below B w (w.drewN n) := ⟨rfl, rfl, rfl, Nat.le_refl _, fun _ _ => rfl⟩
/-- A block known whole stays where it is not turned. -/
theorem Turned.keep {F : Nat → Prop} {w w' : World} (h : Turned F w w') {k : Nat} {o : Obj} (hk : w.heap[k]? = some o) (hn : ¬ F k) : w'.heap[k]? = some o :=
  (h.block k (Array.getElem?_eq_some_iff.1 hk).1 hn).trans hk
theorem Turned.row {F : Nat → Prop} {w w' : World} (h : Turned F w w') {base : Nat} {e : TypeId} {size n : Nat} {v : Value} {xs : List Value} (ho : w.ownsRow base e size v n xs) (hn : ∀ g, v.ownBlock = some g → ¬ F g) : w'.ownsRow base e size v n xs := by
  refine ⟨ho.1, ?_⟩
  rcases ho.2 with hnil | ⟨g, cap, cur, rfl, hb, hgg, rest⟩
  · exact .inl hnil
  · exact .inr ⟨g, cap, cur, rfl, hb, h.keep hgg (hn g rfl), rest⟩

theorem add_lit (g o i : Nat) : (⟨g, o, none⟩ : Addr).add i = ⟨g, o + i, none⟩ := by unfold Addr.add; split <;> simp_all

/-- A block known whole. -/
def Blk (w : World) (b : Nat) (cs : Array Value) (ty : TypeId) : Prop := w.heap[b]? = some (.cells cs ty (0, 0))
section
variable {w w' : World} {b : Nat} {cs : Array Value} {ty : TypeId}
theorem Blk.lt (h : Blk w b cs ty) : b < w.heap.size := (Array.getElem?_eq_some_iff.1 h).1
theorem Blk.keep (h : Blk w b cs ty) (hk : w'.heap[b]? = w.heap[b]?) : Blk w' b cs ty := hk.trans h
theorem Blk.below (h : Blk w b cs ty) (hb : Below w.heap.size w w') : Blk w' b cs ty := h.keep (hb.block _ h.lt)
theorem Blk.below' {B : Nat} (h : Blk w b cs ty) (hb : Below B w w') (hB : b < B) : Blk w' b cs ty := h.keep (hb.block _ hB)
theorem Blk.turned {F : Nat → Prop} (h : Blk w b cs ty) (ht : Turned F w w') (hn : ¬ F b) : Blk w' b cs ty := ht.keep h hn
theorem Blk.drew (h : Blk w b cs ty) : Blk w.drew b cs ty := h
theorem Blk.alloc (h : Blk w b cs ty) (o : Obj) : Blk (w.alloc o) b cs ty := h.keep (Below.heap_alloc _ _ _ h.lt)
theorem blk_new (w : World) (cs : Array Value) (ty : TypeId) : Blk (w.alloc (.cells cs ty)) w.heap.size cs ty := heap_alloc_new w _
theorem Blk.cell (h : Blk w b cs ty) (j : Nat) : w.cell? ⟨b, j, none⟩ = cs[j]? := cell_of_row w b j cs ty (0, 0) h
theorem Blk.frozen (h : Blk w b cs ty) (j : Nat) : w.frozen? ⟨b, j, none⟩ = false := by unfold Blk at h; simp [World.frozen?, h]
theorem Blk.range (h : Blk w b cs ty) (o : Nat) (l : List Value) (hl : (cs.toList.drop o).take l.length = l) : w.rangeAt b o l := fun j v hj => by
  have hlt := (List.getElem?_eq_some_iff.1 hj).1
  rw [h.cell, ← hj]
  have : l[j]? = ((cs.toList.drop o).take l.length)[j]? := by rw [hl]
  rw [this, List.getElem?_take, if_pos hlt, List.getElem?_drop]; simp
theorem Blk.there (h : Blk w b cs ty) (o n : Nat) (hn : o + n ≤ cs.size) : w.there b o n := fun j hj =>
  ⟨by rw [h.cell, Array.getElem?_eq_getElem (by omega)]; rfl, h.frozen _⟩
/-- A whole block is written anew. -/
theorem Blk.set (h : Blk w b cs ty) (cs' : Array Value) : Blk (w.setRow b cs') b cs' ty := setRow_heap w b cs cs' ty (0, 0) h
theorem Blk.setOther (h : Blk w b cs ty) {g : Nat} (hg : b ≠ g) (cs' : Array Value) : Blk (w.setRow g cs') b cs ty := (setRow_other w g b cs' hg).trans h
theorem Blk.setCell (h : Blk w b cs ty) (j : Nat) (v : Value) : Blk (w.setCell ⟨b, j, none⟩ v) b (cs.setIfInBounds j v) ty := heap_setCell_same w b j _ _ _ h
theorem Blk.setCells : ∀ (vs : List Value) (o : Nat) {w : World} {cs : Array Value}, Blk w b cs ty → o + vs.length ≤ cs.size → Blk (w.setCells b o vs) b (cs.toList.take o ++ (vs ++ cs.toList.drop (o + vs.length))).toArray ty
  | [], o, w, cs, h, _ => by simpa [World.setCells, List.take_append_drop] using h
  | v :: vs, o, w, cs, h, hl => by
    have h1 := Blk.setCells vs (o + 1) (h.setCell o v) (by simp at hl ⊢; omega)
    simp only [World.setCells]
    refine Eq.trans h1 ?_
    congr 3
    simp only [List.length_cons] at hl
    have hlen : o < cs.toList.length := by simp; omega
    have e1 : (cs.setIfInBounds o v).toList = cs.toList.set o v := by simp
    rw [e1, List.take_set, List.drop_set, if_pos (by omega)]
    rw [List.take_succ_eq_append_getElem (by simpa using hlen), List.set_append, if_neg (by simp; omega)]
    simp [show min o cs.size = o by omega, Nat.add_assoc, Nat.add_comm 1]
end
theorem turned_setRow (w : World) (g : Nat) (cs : Array Value) : Turned (fun k => k = g) w (w.setRow g cs) :=
  ⟨rfl, rfl, rfl, by simp, fun k _ hn => setRow_other w g k cs hn⟩
theorem turned_setCells (b : Nat) : ∀ (vs : List Value) (o : Nat) (w : World), Turned (fun k => k = b) w (w.setCells b o vs)
  | [], _, w => Turned.refl _ w
  | v :: vs, o, w => by
    rw [World.setCells]
    exact ((Turned.refl (fun k => k = b) w).setCell (p := ⟨b, o, none⟩) (.inl rfl) v).trans (turned_setCells b vs (o + 1) _) (fun x (hx : x = b) => .inl hx)

/-! ### a slice that may be grown in place -/
/-- The block that a slice may be grown in: none, if it has no capacity. -/
def blkOf : Value → Option Nat
  | .slice (some a) _ c => if c = 0 then none else some a.block
  | _ => none
/-- A slice of n elements of type e, of sz cells each: its cells are cs. -/
def Gs (e : TypeId) (sz : Nat) (w : World) (v : Value) (n : Nat) (cs : List Value) : Prop :=
  cs.length = n * sz ∧ ∃ (ao : Option Addr) (c : Nat), v = .slice ao n c ∧ n ≤ c ∧ c ≤ maxLen ∧
    (0 < c → ∃ g o cur, ao = some ⟨g, o, none⟩ ∧ Blk w g cur e ∧ o + c * sz ≤ cur.size ∧ (cur.toList.drop o).take (n * sz) = cs)
section
variable {e : TypeId} {sz : Nat} {w w' : World} {v : Value} {n : Nat} {cs : List Value}
theorem Gs.len (h : Gs e sz w v n cs) : cs.length = n * sz := h.1
theorem Gs.nil (e : TypeId) (sz : Nat) (w : World) : Gs e sz w (.slice none 0 0) 0 [] := ⟨by simp, none, 0, rfl, Nat.le_refl _, by simp [maxLen], fun h => by omega⟩
theorem Gs.empty (e : TypeId) (sz : Nat) (w : World) (ao : Option Addr) : Gs e sz w (.slice ao 0 0) 0 [] := ⟨by simp, ao, 0, rfl, Nat.le_refl _, by simp [maxLen], fun h => by omega⟩
theorem Gs.shape (h : Gs e sz w v n cs) : ∃ ao c, v = .slice ao n c ∧ n ≤ c ∧ n ≤ maxLen := by
  obtain ⟨_, ao, c, h1, h2, h3, _⟩ := h
  exact ⟨ao, c, h1, h2, by omega⟩
theorem Gs.one (h : Gs e sz w v n cs) : v.oneCell' = true := by
  obtain ⟨_, _, _, rfl, _⟩ := h; rfl
theorem Gs.in_ (h : Gs e sz w v n cs) {k : Nat} (hk : blkOf v = some k) : ∃ cur, Blk w k cur e := by
  obtain ⟨_, ao, c, rfl, h2, h3, h4⟩ := h
  cases ao with
  | none => simp [blkOf] at hk
  | some a =>
    simp [blkOf] at hk
    obtain ⟨g, o, cur, e1, e2, _⟩ := h4 (by omega)
    obtain ⟨_, rfl⟩ := hk
    simp at e1
    subst e1
    exact ⟨cur, e2⟩
theorem Gs.lt (h : Gs e sz w v n cs) {k : Nat} (hk : blkOf v = some k) : k < w.heap.size := by
  obtain ⟨cur, hc⟩ := h.in_ hk
  exact hc.lt
/-- It is no block of another type. -/
theorem Gs.ne (h : Gs e sz w v n cs) {S : Nat} {cc : Array Value} {ty : TypeId} (hS : Blk w S cc ty) (ht : ty ≠ e) {k : Nat} (hk : blkOf v = some k) : k ≠ S := by
  rintro rfl
  obtain ⟨cur, hc⟩ := h.in_ hk
  unfold Blk at hS hc
  rw [hS] at hc
  simp at hc
  exact ht hc.2
theorem Gs.keep (h : Gs e sz w v n cs) (hk : ∀ k, blkOf v = some k → w'.heap[k]? = w.heap[k]?) : Gs e sz w' v n cs := by
  obtain ⟨h0, ao, c, rfl, h2, h3, h4⟩ := h
  refine ⟨h0, ao, c, rfl, h2, h3, fun hc => ?_⟩
  obtain ⟨g, o, cur, rfl, e2, e3⟩ := h4 hc
  exact ⟨g, o, cur, rfl, e2.keep (hk g (by simp [blkOf]; omega)), e3⟩
theorem Gs.turned {F : Nat → Prop} (h : Gs e sz w v n cs) (ht : Turned F w w') (hn : ∀ k, blkOf v = some k → ¬ F k) : Gs e sz w' v n cs := h.keep fun k hk => ht.block k (h.lt hk) (hn k hk)
theorem Gs.below (h : Gs e sz w v n cs) (hb : Below w.heap.size w w') : Gs e sz w' v n cs := h.keep fun k hk => hb.block k (h.lt hk)
theorem Gs.cell (h : Gs e sz w v n cs) {j : Nat} {u : Value} (hj : cs[j]? = some u) : ∃ g o c, v = .slice (some ⟨g, o, none⟩) n c ∧ w.cell? ⟨g, o + j, none⟩ = some u ∧ w.frozen? ⟨g, o + j, none⟩ = false := by
  obtain ⟨h0, ao, c, rfl, h2, h3, h4⟩ := h
  have hjl := (List.getElem?_eq_some_iff.1 hj).1
  have hc : 0 < c := by
    rcases Nat.eq_zero_or_pos c with e | e
    · subst e; obtain rfl : n = 0 := by omega
      simp at h0; subst h0; simp at hjl
    · exact e
  obtain ⟨g, o, cur, rfl, e2, e3, e4⟩ := h4 hc
  refine ⟨g, o, c, rfl, ?_, e2.frozen _⟩
  rw [e2.cell]
  rw [← e4, List.getElem?_take, if_pos (by omega), List.getElem?_drop] at hj
  simpa using hj
/-- What it reads, from its head on. -/
theorem Gs.read (h : Gs e sz w v n cs) {a : Addr} {c : Nat} (hv : v = .slice (some a) n c) : ∀ j u, cs[j]? = some u → w.cell? (a.add j) = some u := fun j u hj => by
  obtain ⟨g, o, c', e1, e2, _⟩ := h.cell hj
  rw [hv] at e1
  simp at e1
  rw [e1.1, add_lit]; exact e2
/-- What is appended. -/
theorem Gs.src {P : Program} {sl e' : TypeId} (hu : P.underlying sl = some (.slice e')) (h : Gs e sz w v n cs) (h1 : ∀ u ∈ cs, u.oneCell' = true) : Src P sz sl v n cs w := by
  obtain ⟨ao, c, rfl, h2, h3⟩ := h.shape
  cases ao with
  | none =>
    have hn : n = 0 := by
      obtain ⟨h0, ao, c', e1, h5, _, h4⟩ := h
      rcases Nat.eq_zero_or_pos n with e | e
      · exact e
      · obtain ⟨_, _, _, e2, _⟩ := h4 (by omega)
        simp at e1; rw [← e1.1] at e2; cases e2
    subst hn
    have : cs = [] := by have := h.len; simpa using this
    subst this
    exact Src.ofNil w hu c
  | some a => exact Src.ofSlice w hu a n c cs h.len (h.read rfl) h1
/-- The first element is cut off. -/
theorem Gs.tail (h : Gs e sz w v (n + 1) cs) (hsz : 0 < sz) : ∃ (g o c : Nat), v = .slice (some ⟨g, o, none⟩) (n + 1) (c + 1) ∧ n ≤ c ∧ c ≤ maxLen ∧
    Gs e sz w (.slice (if c = 0 then some ⟨g, o, none⟩ else some ⟨g, o + sz, none⟩) n c) n (cs.drop sz) := by
  obtain ⟨h0, ao, c, rfl, h2, h3, h4⟩ := h
  obtain ⟨g, o, cur, rfl, e2, e3, e4⟩ := h4 (by omega)
  obtain ⟨c, rfl⟩ : ∃ d, c = d + 1 := ⟨c - 1, by omega⟩
  refine ⟨g, o, c, rfl, by omega, by omega, by rw [List.length_drop, h0, Nat.add_mul]; omega, _, c, rfl, by omega, by omega, fun hc => ⟨g, o + sz, cur, by rw [if_neg (by omega)], e2, by rw [Nat.add_mul] at e3; omega, ?_⟩⟩
  rw [← e4, List.drop_take, List.drop_drop, Nat.add_mul, Nat.one_mul, Nat.add_sub_cancel]
/-- A new row. -/
theorem Gs.lit (w : World) (e : TypeId) {sz n : Nat} {cs : Array Value} (hl : cs.size = n * sz) (hm : n ≤ maxLen) : Gs e sz (w.alloc (.cells cs e)) (.slice (some ⟨w.heap.size, 0, none⟩) n n) n cs.toList :=
  ⟨by simpa using hl, _, _, rfl, Nat.le_refl _, hm, fun _ => ⟨_, 0, _, rfl, blk_new _ _ _, by omega, by simp [← hl, List.take_of_length_le]⟩⟩
end
/-- Elements are appended: in place, or in a new row. -/
theorem run_append_g {P : Program} {sl sl2 e : TypeId} {sz bz : Nat} {z : Value} (hu : P.underlying sl = some (.slice e)) (hinf : (P.info? e).map (fun i => (i.zero, i.size, i.bytes)) = some (some z, sz, bz)) (hz : z.cells.size = sz) (hsz : 0 < sz) (hbz : bz ≤ 64)
    {w : World} {v vx : Value} {n m : Nat} {cs ys : List Value} (h : Gs e sz w v n cs) (hs : Src P sz sl2 vx m ys w) (hm : n + m ≤ 1000000) (ty : TypeId) :
    ∃ v' w', (Builtin.append_ #[sl, sl2] ty #[v, vx]).run P w = .ok v' w' ∧ Gs e sz w' v' (n + m) (cs ++ ys) ∧ Turned (fun k => blkOf v = some k) w w' ∧ (∀ k, blkOf v' = some k → blkOf v = some k ∨ w.heap.size ≤ k) := by
  obtain ⟨i0, hi, hz0, hz1, hz2⟩ := info_parts hinf
  have hyl := hs.newsLen
  obtain ⟨h0, ao, c, rfl, h2, h3, h4⟩ := h
  rw [← hz1] at hs
  by_cases hfit : n + m ≤ c
  · by_cases hc : 0 < c
    · obtain ⟨g, o, cur, rfl, e2, e3, e4⟩ := h4 hc
      have hsum : n * sz + m * sz ≤ c * sz := by rw [← Nat.add_mul]; exact Nat.mul_le_mul_right _ hfit
      have hcell : ∀ j, j < ys.length → (w.cell? ⟨g, o + n * i0.size + j, none⟩).isSome = true ∧ w.frozen? ⟨g, o + n * i0.size + j, none⟩ = false := fun j hj => by
        refine ⟨?_, e2.frozen _⟩
        rw [hz1, e2.cell, Array.getElem?_eq_getElem (by omega)]
        rfl
      have hrun := run_append_room_src (P := P) w sl sl2 ty e i0 hu hi g o n c vx m ys hs hfit (fun j hj => (hcell j hj).1) (fun j hj => (hcell j hj).2)
      rw [hz1] at hrun
      refine ⟨_, _, hrun, ⟨by rw [List.length_append, h0, hyl, Nat.add_mul], _, c, rfl, hfit, h3, fun _ => ⟨g, o, _, rfl, Blk.setCells ys (o + n * sz) e2 (by omega), ?_, ?_⟩⟩, (turned_setCells g _ _ w).mono (fun k e => by simp [blkOf]; exact ⟨by omega, e.symm⟩), ?_⟩
      · simp; omega
      · have e5 : (cur.toList.take (o + n * sz)).drop o = cs := by rw [List.drop_take]; simpa using e4
        show List.take ((n + m) * sz) (List.drop o (cur.toList.take (o + n * sz) ++ (ys ++ cur.toList.drop (o + n * sz + ys.length)))) = cs ++ ys
        rw [List.drop_append_of_le_length (by simp; omega), e5, ← List.append_assoc, List.take_append_of_le_length (by rw [List.length_append, h0, hyl, Nat.add_mul]; omega), List.take_of_length_le (by rw [List.length_append, h0, hyl, Nat.add_mul]; omega)]
      · intro k hk
        left
        simpa [blkOf] using hk
    · obtain rfl : c = 0 := by omega
      obtain rfl : m = 0 := by omega
      obtain rfl : n = 0 := by omega
      obtain rfl : ys = [] := by simpa using hyl
      obtain rfl : cs = [] := by simpa using h0
      have hrun : (Builtin.append_ #[sl, sl2] ty #[.slice ao 0 0, vx]).run P w = .ok (.slice ao 0 0) w := by
        have hk := hs.cells
        have hn := hs.len
        rcases hs.kind with ⟨e', hk2⟩ | hk2 <;> cases ao <;> simp [Builtin.append_, run_underlying hu, run_underlying hk2, sizeOf, typeInfo, hi, hn, hk, storeCells]
      exact ⟨_, w, hrun, Gs.empty e sz w ao, Turned.refl _ _, fun k hk => .inl hk⟩
  · have hold : (Builtin.firstCells i0.size n (.slice ao n c)).run P w.drew = .ok cs.toArray w.drew := by
      by_cases hc : 0 < c
      · obtain ⟨g, o, cur, rfl, e2, e3, e4⟩ := h4 hc
        refine run_firstCells_some w.drew i0.size n ⟨g, o, none⟩ n c cs (by rw [hz1]; exact h0) (fun j u hu => ?_)
        have hj : j < n * sz := by have := (List.getElem?_eq_some_iff.1 hu).1; omega
        rw [add_lit]
        show w.cell? _ = _
        rw [e2.cell]
        rw [← e4, List.getElem?_take, if_pos hj, List.getElem?_drop] at hu
        simpa using hu
      · obtain rfl : c = 0 := by omega
        obtain rfl : n = 0 := by omega
        obtain rfl : cs = [] := by simpa using h0
        cases ao with
        | none => exact run_firstCells_none w.drew i0.size 0 0 0
        | some a' => exact run_firstCells_some w.drew i0.size 0 a' 0 0 [] (by simp) (by intro _ _ h'; simp at h')
    have hb64 : (n + m) * bz ≤ (n + m) * 64 := Nat.mul_le_mul_left _ hbz
    have hrun := run_append_grow_src (P := P) w sl sl2 ty e i0 z hu hi hz0 ao n c cs hold vx m ys hs (by omega) (by omega) (growslice_fits (by omega) (by rw [hz2]; omega))
    have hge := grownCap_ge w (n + m) c e
    have hcm := grownCap_le_maxLen w (n + m) c e (by unfold maxLen; omega)
    refine ⟨_, _, hrun, ⟨by rw [List.length_append, h0, hyl, Nat.add_mul], _, _, rfl, hge, hcm, fun _ => ⟨w.heap.size, 0, _, rfl, blk_new w.drew _ _, ?_, ?_⟩⟩, (Turned.refl _ w).drew.alloc _, fun k hk => ?_⟩
    · have hmul : (n + m) * sz ≤ grownCap w (n + m) c e * sz := Nat.mul_le_mul_right _ hge
      rw [Array.size_append, size_zeroCells, hz, List.size_toArray, List.length_append, h0, hyl, Nat.sub_mul, ← Nat.add_mul]; omega
    · simp only [List.drop_zero, Array.toList_append]
      rw [List.take_append_of_le_length (by rw [List.length_append, h0, hyl, Nat.add_mul]; omega), List.take_of_length_le (by rw [List.length_append, h0, hyl, Nat.add_mul]; omega)]
    · right
      unfold blkOf at hk
      simp only at hk
      split at hk
      · cases hk
      · simp at hk; omega
/-- .. at the walk. -/
theorem wp_append_g {P : Program} {sl sl2 e : TypeId} {sz bz : Nat} {z : Value} {ops : Array Oper} {rest : List Oper} {o : Oper} {a : Act} {Q : Exit → Act → World → Prop} {w : World} (hgd : o.guard = none) (s x : Operand)
    (ho : o.op = .call { callee := .builtin .append, args := #[s, x], argTypes := #[sl, sl2] })
    (hu : P.underlying sl = some (.slice e)) (hinf : (P.info? e).map (fun i => (i.zero, i.size, i.bytes)) = some (some z, sz, bz)) (hz : z.cells.size = sz) (hsz : 0 < sz) (hbz : bz ≤ 64)
    {v vx : Value} {n m : Nat} {cs ys : List Value} (hs : a.eval s = v) (hv : a.eval x = vx) (h : Gs e sz w v n cs) (hx : Src P sz sl2 vx m ys w) (hm : n + m ≤ 1000000)
    (hK : ∀ v' w', Gs e sz w' v' (n + m) (cs ++ ys) → Turned (fun k => blkOf v = some k) w w' → (∀ k, blkOf v' = some k → blkOf v = some k ∨ w.heap.size ≤ k) → wpList P ops Q rest (a.put o.dst v') w') : wpList P ops Q (o :: rest) a w := by
  refine wpList_plain hgd fun K hK' => ?_
  obtain ⟨v', w', hrun, r1, r2, r3⟩ := run_append_g hu hinf hz hsz hbz h hx hm o.type
  unfold Oper.wp
  simp [execOp, ho, resolve, invoke, builtin, hs, hv, hrun, Result.andThen]
  exact hK' _ _ (hK v' w' r1 r2 r3)
/-- .. at the operation. -/
theorem o_append_g {P : Program} {sl sl2 e : TypeId} {sz bz : Nat} {z : Value} {d : Option Tmp} {op : Oper} {a : Act} {w : World} {K : Act → World → Prop} {Q : Exit → Act → World → Prop} (s x : Operand) (hd : op.dst = d)
    (ho : op.op = .call { callee := .builtin .append, args := #[s, x], argTypes := #[sl, sl2] })
    (hu : P.underlying sl = some (.slice e)) (hinf : (P.info? e).map (fun i => (i.zero, i.size, i.bytes)) = some (some z, sz, bz)) (hz : z.cells.size = sz) (hsz : 0 < sz) (hbz : bz ≤ 64)
    {v vx : Value} {n m : Nat} {cs ys : List Value} (hs : a.eval s = v) (hv : a.eval x = vx) (h : Gs e sz w v n cs) (hx : Src P sz sl2 vx m ys w) (hm : n + m ≤ 1000000)
    (hK : ∀ v' w', Gs e sz w' v' (n + m) (cs ++ ys) → Turned (fun k => blkOf v = some k) w w' → (∀ k, blkOf v' = some k → blkOf v = some k ∨ w.heap.size ≤ k) → K (a.put d v') w') : op.wp P a w K Q := by
  subst hd
  obtain ⟨v', w', hrun, r1, r2, r3⟩ := run_append_g hu hinf hz hsz hbz h hx hm op.type
  unfold Oper.wp
  simp [execOp, ho, resolve, invoke, builtin, hs, hv, hrun, Result.andThen]
  exact hK v' w' r1 r2 r3
end Go.Proofs.Ytjffclcjijpmiaa
namespace Go.Proofs.Ytjffclcjijpmiaa.Dense
section
variable {P : Program} {ops : Array Oper} {Q : Exit → Act → World → Prop} {md : Region.Mode} {S : World → Prop} {n : Nat} {l : Array Bool} {a b : Act} {w : World}
/-- The state is laid out anew. -/
theorem nm (h : wpAnyH P md ops Q S n l b w) (e : a = b := by ((try simp only [Act.put, List.setIfInBounds_toArray, List.set_cons_zero, List.set_cons_succ]); rfl)) : wpAnyH P md ops Q S n l a w := e ▸ h
/-- A pure operation, or a load of what S holds. -/
theorem tk (i : Nat) (d : Option Tmp) {o : Oper} {v : Value} (hS : S w) (h : wpAnyH P md ops Q S n (l.setIfInBounds i true) b w) (hi : ops[i]? = some o := by rfl) (hs : Region.noSelect ops = true := by kernel_rfl) (hf : Region.free md ops l i = true := by kernel_rfl) (hr : (Region.ready md ops l).contains i = true := by kernel_rfl) (hQ : ∀ c a w, Q (.panic c) (a.put o.dst v) w → Q (.panic c) a w := by exact fun _ _ _ h => h) (hd : o.dst = d := by rfl)
    (hw : Region.wanted o (yielded ops a.tmps) = true := by rfl) (hy : ∀ W, S W → (execOp a.eval o).run P W = .ok (.value v) W := by intro W hW; go_simp; try with_reducible rfl) (e : a.put d v = b := by (simp only [Act.put, List.setIfInBounds_toArray, List.set_cons_zero, List.set_cons_succ]; rfl)) : wpAnyH P md ops Q S (n + 1) l a w := by
  subst hd e
  exact wpAnyH_take hi hs hf hr hQ (.inl ⟨hw, hy⟩) hS h
/-- .. by a law. -/
theorem tv (i : Nat) (d : Option Tmp) {o : Oper} {v : Value} (hi : ops[i]? = some o) (hy : YieldsIf P ops S o v a) (hS : S w) (h : wpAnyH P md ops Q S n (l.setIfInBounds i true) b w) (hs : Region.noSelect ops = true := by kernel_rfl) (hf : Region.free md ops l i = true := by kernel_rfl) (hr : (Region.ready md ops l).contains i = true := by kernel_rfl) (hQ : ∀ c a w, Q (.panic c) (a.put o.dst v) w → Q (.panic c) a w := by exact fun _ _ _ h => h) (hd : o.dst = d := by rfl) (e : a.put d v = b := by (simp only [Act.put, List.setIfInBounds_toArray, List.set_cons_zero, List.set_cons_succ]; rfl)) : wpAnyH P md ops Q S (n + 1) l a w := by
  subst hd e
  exact wpAnyH_take hi hs hf hr hQ hy hS h
theorem o1 (i : Nat) {oi : Oper} (hi : oi.wp P a w (fun b V => S V ∧ wpAnyH P md ops Q S n (l.setIfInBounds i true) b V) Q)
    (ei : ops[i]? = some oi := by rfl) (wi : Region.wanted oi (yielded ops a.tmps) = true := by rfl) (hr : Region.ready md ops l = [i] := by kernel_rfl) : wpAnyH P md ops Q S (n + 1) l a w :=
  wpAnyH_all hr (by simp) (fun x hx => by
    simp only [List.mem_cons, List.not_mem_nil, or_false] at hx
    unfold wpOp
    rcases hx with rfl
    · rw [ei]; dsimp only; rw [if_pos wi]; exact .inl hi)
theorem o2 (i j : Nat) {oi oj : Oper} (hi : oi.wp P a w (fun b V => S V ∧ wpAnyH P md ops Q S n (l.setIfInBounds i true) b V) Q) (hj : oj.wp P a w (fun b V => S V ∧ wpAnyH P md ops Q S n (l.setIfInBounds j true) b V) Q)
    (ei : ops[i]? = some oi := by rfl) (wi : Region.wanted oi (yielded ops a.tmps) = true := by rfl) (ej : ops[j]? = some oj := by rfl) (wj : Region.wanted oj (yielded ops a.tmps) = true := by rfl) (hr : Region.ready md ops l = [i, j] := by kernel_rfl) : wpAnyH P md ops Q S (n + 1) l a w :=
  wpAnyH_all hr (by simp) (fun x hx => by
    simp only [List.mem_cons, List.not_mem_nil, or_false] at hx
    unfold wpOp
    rcases hx with rfl | rfl
    · rw [ei]; dsimp only; rw [if_pos wi]; exact .inl hi
    · rw [ej]; dsimp only; rw [if_pos wj]; exact .inl hj)
theorem o3 (i j k : Nat) {oi oj ok : Oper} (hi : oi.wp P a w (fun b V => S V ∧ wpAnyH P md ops Q S n (l.setIfInBounds i true) b V) Q) (hj : oj.wp P a w (fun b V => S V ∧ wpAnyH P md ops Q S n (l.setIfInBounds j true) b V) Q) (hk : ok.wp P a w (fun b V => S V ∧ wpAnyH P md ops Q S n (l.setIfInBounds k true) b V) Q)
    (ei : ops[i]? = some oi := by rfl) (wi : Region.wanted oi (yielded ops a.tmps) = true := by rfl) (ej : ops[j]? = some oj := by rfl) (wj : Region.wanted oj (yielded ops a.tmps) = true := by rfl) (ek : ops[k]? = some ok := by rfl) (wk : Region.wanted ok (yielded ops a.tmps) = true := by rfl) (hr : Region.ready md ops l = [i, j, k] := by kernel_rfl) : wpAnyH P md ops Q S (n + 1) l a w :=
  wpAnyH_all hr (by simp) (fun x hx => by
    simp only [List.mem_cons, List.not_mem_nil, or_false] at hx
    unfold wpOp
    rcases hx with rfl | rfl | rfl
    · rw [ei]; dsimp only; rw [if_pos wi]; exact .inl hi
    · rw [ej]; dsimp only; rw [if_pos wj]; exact .inl hj
    · rw [ek]; dsimp only; rw [if_pos wk]; exact .inl hk)
end
end Go.Proofs.Ytjffclcjijpmiaa.Dense
namespace Go.Proofs.Ytjffclcjijpmiaa
open Go.RowKit
set_option linter.unusedVariables false

/-! ### stores of whole blocks, at the walk -/
section
variable {P : Program}
theorem wpList_store_blk {ops : Array Oper} {rest : List Oper} {o : Oper} {a : Act} {w : World} {Q : Exit → Act → World → Prop} (hgd : o.guard = none) (ty : TypeId) (x y : Operand) (ho : o.op = .store ty x y)
    (g : Nat) (cells old : Array Value) (hx : a.eval x = .pointer (some ⟨g, 0, none⟩)) (hy : a.eval y = .agg cells) (t : TypeId) (hg : Blk w g old t)
    (hi : (P.info? ty).map (·.size) = some cells.size) (hs : old.size = cells.size) (h1 : cells.all (·.oneCell') = true)
    (h : wpList P ops Q rest (a.put o.dst undef) (w.setRow g cells)) : wpList P ops Q (o :: rest) a w :=
  wpList_plain hgd fun K hK => by
    unfold Oper.wp execOp
    simp only [ho, hx, hy, Instr.storeAt, Instr.sureAddr, Sem.run_bind, Sem.run_pure, Result.andThen_ok, run_storeVar_row w g t ty old cells hg hi hs h1]
    exact hK _ _ h
end
/-- A struct of n cells. -/
structure RowT (ty : TypeId) (n : Nat) : Prop where
  u : ∃ fs, Try.prog.underlying ty = some (.struct fs)
  i : (Try.prog.info? ty).map (·.size) = some n
theorem rowM : RowT 23 2 := ⟨⟨_, Try.underlying23⟩, by kernel_rfl⟩
/-- A struct lies at block R, as these cells. -/
structure Rf (ty : TypeId) (n : Nat) (w : World) (R : Nat) (c : Array Value) : Prop where
  blk : Blk w R c ty
  size : c.size = n
  one : c.all (·.oneCell') = true
def Ok1 (n : Nat) (c : Array Value) : Prop := c.size = n ∧ c.all (·.oneCell') = true
section
variable {w w' : World} {R : Nat} {c c' : Array Value} {ty : TypeId} {n : Nat}
theorem Rf.ok (h : Rf ty n w R c) : Ok1 n c := ⟨h.size, h.one⟩
theorem Ok1.new (h : Ok1 n c) (ty : TypeId) (w' : World) : Rf ty n (w'.alloc (.cells c ty)) w'.heap.size c := ⟨blk_new _ _ _, h.1, h.2⟩
theorem Rf.lt (h : Rf ty n w R c) : R < w.heap.size := h.blk.lt
theorem Rf.keep (h : Rf ty n w R c) (hk : w'.heap[R]? = w.heap[R]?) : Rf ty n w' R c := ⟨h.blk.keep hk, h.size, h.one⟩
theorem Rf.below (h : Rf ty n w R c) (hb : Below w.heap.size w w') : Rf ty n w' R c := ⟨h.blk.below hb, h.size, h.one⟩
theorem Rf.below' {B : Nat} (h : Rf ty n w R c) (hb : Below B w w') (hB : R < B) : Rf ty n w' R c := ⟨h.blk.below' hb hB, h.size, h.one⟩
theorem Rf.turned {F : Nat → Prop} (h : Rf ty n w R c) (ht : Turned F w w') (hn : ¬ F R) : Rf ty n w' R c := ⟨h.blk.turned ht hn, h.size, h.one⟩
theorem Rf.alloc (h : Rf ty n w R c) (o : Obj) : Rf ty n (w.alloc o) R c := ⟨h.blk.alloc o, h.size, h.one⟩
theorem Rf.drew (h : Rf ty n w R c) : Rf ty n w.drew R c := ⟨h.blk.drew, h.size, h.one⟩
theorem Rf.set (h : Rf ty n w R c) (h' : Ok1 n c') : Rf ty n (w.setRow R c') R c' := ⟨h.blk.set c', h'.1, h'.2⟩
theorem Rf.setOther (h : Rf ty n w R c) {g : Nat} (hg : R ≠ g) (cs' : Array Value) : Rf ty n (w.setRow g cs') R c := ⟨h.blk.setOther hg cs', h.size, h.one⟩
theorem Rf.cell (h : Rf ty n w R c) (j : Nat) : w.cell? ⟨R, j, none⟩ = c[j]? := h.blk.cell j
end
section
variable {ops : Array Oper} {rest : List Oper} {a : Act} {w : World} {Q : Exit → Act → World → Prop} {R : Nat} {c old : Array Value} {d : Option Tmp} {x y : Operand} {ty ty2 : TypeId} {pos : String} {af : Array Edge} {n : Nat}
theorem RowT.inf (ht : RowT ty n) (hs : c.size = n) : (Try.prog.info? ty).map (·.size) = some c.size := by rw [hs]; exact ht.i
theorem wp_load_R (ht : RowT ty n) (hr : Rf ty n w R c) (hx : a.eval x = .pointer (some ⟨R, 0, none⟩)) (h : wpList Try.prog ops Q rest (a.put d (.agg c)) w) :
    wpList Try.prog ops Q ({ dst := d, op := .load ty x, type := ty2, pos := pos, after := af, guard := none } :: rest) a w := by
  obtain ⟨de, hu⟩ := ht.u
  exact wpList_load_row rfl ty x rfl R hx ty c (0, 0) (.struct de) hr.blk hu rfl (ht.inf hr.size) h
theorem wp_store_R (c : Array Value) (ht : RowT ty n) (hr : Rf ty n w R old ∧ Ok1 n c) (hx : a.eval x = .pointer (some ⟨R, 0, none⟩)) (hy : a.eval y = .agg c) (h : wpList Try.prog ops Q rest (a.put d undef) (w.setRow R c)) :
    wpList Try.prog ops Q ({ dst := d, op := .store ty x y, type := ty2, pos := pos, after := af, guard := none } :: rest) a w :=
  wpList_store_blk rfl ty x y rfl R c old hx hy ty hr.1.blk (ht.inf hr.2.1) (by rw [hr.1.size, hr.2.1]) hr.2.2 h
/-- .. into the block that was made last. -/
theorem wp_store_Rn (c : Array Value) (ht : RowT ty n) (hc : old.size = n ∧ Ok1 n c) (hx : a.eval x = .pointer (some ⟨w.heap.size, 0, none⟩)) (hy : a.eval y = .agg c) (h : wpList Try.prog ops Q rest (a.put d undef) (w.alloc (.cells c ty))) :
    wpList Try.prog ops Q ({ dst := d, op := .store ty x y, type := ty2, pos := pos, after := af, guard := none } :: rest) a (w.alloc (.cells old ty)) :=
  wpList_store_blk rfl ty x y rfl w.heap.size c old hx hy ty (blk_new w old ty) (ht.inf hc.2.1) (by rw [hc.1, hc.2.1]) hc.2.2 (by rw [World.setRow_alloc_new]; exact h)
/-- .. behind a guard that holds. -/
theorem wp_load_Rg {gi : Nat} {gb : Bool} (hw : Region.wanted { dst := d, op := .load ty x, type := ty2, pos := pos, after := af, guard := some (gi, gb) } (yielded ops a.tmps) = true) (ht : RowT ty n) (hr : Rf ty n w R c) (hx : a.eval x = .pointer (some ⟨R, 0, none⟩))
    (h : wpList Try.prog ops Q rest (a.put d (.agg c)) w) : wpList Try.prog ops Q ({ dst := d, op := .load ty x, type := ty2, pos := pos, after := af, guard := some (gi, gb) } :: rest) a w := by
  obtain ⟨de, hu⟩ := ht.u
  unfold wpList
  rw [if_pos hw]
  exact .inl (wp_load_row ty x rfl R hx ty c (0, 0) (.struct de) hr.blk hu rfl (ht.inf hr.size) h)
end
theorem run_load_R {ty : TypeId} {n : Nat} (ht : RowT ty n) {W : World} {R : Nat} {c : Array Value} (hr : Rf ty n W R c) : (loadVar ty ⟨R, 0, none⟩).run Try.prog W = .ok (.agg c) W := by
  obtain ⟨de, hu⟩ := ht.u
  exact run_loadVar_row W R ty ty c (0, 0) (.struct de) hr.blk hu rfl (ht.inf hr.size)
theorem res_R {fn : Func} {p : Tmp} {ty : TypeId} {n : Nat} (ht : RowT ty n) (h : fn.results = #[.cell p ty]) (tmps : Array Value) {W : World} {R : Nat} {c : Array Value} (hr : Rf ty n W R c) (hp : tmps.getD p undef = .pointer (some ⟨R, 0, none⟩)) :
    (results fn tmps).run Try.prog W = .ok (.agg c) W := by
  have hp' : tmps[p]?.getD undef = .pointer (some ⟨R, 0, none⟩) := by simpa using hp
  simp [results, h, hp', asAddr, run_load_R ht hr]
theorem res_R_tmp {fn : Func} {p u : Tmp} {ty : TypeId} {n : Nat} (ht : RowT ty n) (h : fn.results = #[.cell p ty, .tmp u]) (tmps : Array Value) {W : World} {R : Nat} {c : Array Value} (hr : Rf ty n W R c) (hp : tmps.getD p undef = .pointer (some ⟨R, 0, none⟩)) :
    (results fn tmps).run Try.prog W = .ok (.tuple #[.agg c, tmps.getD u undef]) W := by
  have hp' : tmps[p]?.getD undef = .pointer (some ⟨R, 0, none⟩) := by simpa using hp
  simp [results, h, hp', asAddr, run_load_R ht hr]
theorem res_R_tmp2 {fn : Func} {p u v : Tmp} {ty : TypeId} {n : Nat} (ht : RowT ty n) (h : fn.results = #[.cell p ty, .tmp u, .tmp v]) (tmps : Array Value) {W : World} {R : Nat} {c : Array Value} (hr : Rf ty n W R c) (hp : tmps.getD p undef = .pointer (some ⟨R, 0, none⟩)) :
    (results fn tmps).run Try.prog W = .ok (.tuple #[.agg c, tmps.getD u undef, tmps.getD v undef]) W := by
  have hp' : tmps[p]?.getD undef = .pointer (some ⟨R, 0, none⟩) := by simpa using hp
  simp [results, h, hp', asAddr, run_load_R ht hr]
theorem res_sRs {fn : Func} {p q u : Tmp} {ty : TypeId} {n : Nat} (ht : RowT ty n) (h : fn.results = #[.tmp p, .cell q ty, .tmp u]) (tmps : Array Value) {W : World} {R : Nat} {c : Array Value} (hr : Rf ty n W R c) (hp : tmps.getD q undef = .pointer (some ⟨R, 0, none⟩)) :
    (results fn tmps).run Try.prog W = .ok (.tuple #[tmps.getD p undef, .agg c, tmps.getD u undef]) W := by
  have hp' : tmps[q]?.getD undef = .pointer (some ⟨R, 0, none⟩) := by simpa using hp
  simp [results, h, hp', asAddr, run_load_R ht hr]

/-! ### drawn regions -/
theorem take_d {P : Program} {md : Region.Mode} {ops : Array Oper} {Q : Exit → Act → World → Prop} {S : World → Prop} {i : Nat} {oi : Oper} {d : Option Tmp} {v : Value} {fuel : Nat} {listed : Array Bool} {a : Act} {w : World} (hi : ops[i]? = some oi) (hd : oi.dst = d)
    (hs : Region.noSelect ops = true) (hf : Region.free md ops listed i = true) (hr : (Region.ready md ops listed).contains i = true)
    (hQ : ∀ c a w, Q (.panic c) (a.put oi.dst v) w → Q (.panic c) a w) (hy : YieldsIf P ops S oi v a) (hS : S w)
    (h : wpAnyH P md ops Q S fuel (listed.setIfInBounds i true) (a.put d v) w) : wpAnyH P md ops Q S (fuel + 1) listed a w := by
  subst hd
  exact wpAnyH_take hi hs hf hr hQ hy hS h
/-- From here on more holds at each world. -/
theorem anyH_more {P : Program} {md : Region.Mode} {ops : Array Oper} {Q : Exit → Act → World → Prop} {S S' : World → Prop} (hm : ∀ w, S' w → S w) : ∀ (fuel : Nat) (listed : Array Bool) (a : Act) (w : World), wpAnyH P md ops Q S' fuel listed a w → wpAnyH P md ops Q S fuel listed a w
  | 0, _, _, _, h => h
  | fuel + 1, _, _, _, h => ⟨h.1, fun i hi => wpOp_mono (fun a' w' h' => ⟨hm _ h'.1, anyH_more hm fuel _ a' w' h'.2⟩) (h.2 i hi)⟩
section
variable {ops : Array Oper} {S : World → Prop} {op : Oper} {a : Act} {x : Operand} {ty : TypeId} {n : Nat}
theorem y_R {R : Nat} {c : Array Value} (ht : RowT ty n) (hw : Region.wanted op (yielded ops a.tmps) = true) (ho : op.op = .load ty x) (hx : a.eval x = .pointer (some ⟨R, 0, none⟩)) (hS : ∀ W, S W → Rf ty n W R c) : YieldsIf Try.prog ops S op (.agg c) a :=
  .inl ⟨hw, fun W hW => by
    unfold execOp
    simp only [ho, hx, Instr.loadAt, Instr.sureAddr, Sem.run_bind, Sem.run_pure, Result.andThen_ok, run_load_R ht (hS W hW)]⟩
end
/-- A whole block is stored, loaded, at the operation. -/
theorem o_store_R {d : Option Tmp} {op : Oper} {a : Act} {w : World} {K : Act → World → Prop} {Q : Exit → Act → World → Prop} {x y : Operand} {ty : TypeId} {n R : Nat} {old : Array Value} (hd : op.dst = d) (c : Array Value) (ht : RowT ty n) (hr : Rf ty n w R old) (hc : Ok1 n c) (ho : op.op = .store ty x y) (hx : a.eval x = .pointer (some ⟨R, 0, none⟩)) (hy : a.eval y = .agg c)
    (h : K (a.put d undef) (w.setRow R c)) : op.wp Try.prog a w K Q := by
  subst hd
  unfold Oper.wp execOp
  simp only [ho, hx, hy, Instr.storeAt, Instr.sureAddr, Sem.run_bind, Sem.run_pure, Result.andThen_ok, run_storeVar_row w R ty ty old c hr.blk (ht.inf hc.1) (by rw [hr.size, hc.1]) hc.2]
  exact h
theorem o_load_R {d : Option Tmp} {op : Oper} {a : Act} {w : World} {K : Act → World → Prop} {Q : Exit → Act → World → Prop} {x : Operand} {ty : TypeId} {n R : Nat} {c : Array Value} (hd : op.dst = d) (ht : RowT ty n) (hr : Rf ty n w R c) (ho : op.op = .load ty x) (hx : a.eval x = .pointer (some ⟨R, 0, none⟩))
    (h : K (a.put d (.agg c)) w) : op.wp Try.prog a w K Q := by
  subst hd
  obtain ⟨de, hu⟩ := ht.u
  exact wp_load_row ty x ho R hx ty c (0, 0) (.struct de) hr.blk hu rfl (ht.inf hr.size) h
/-- Nothing is kept. -/
def Tr (_ : World) : Prop := True
theorem tr (w : World) : Tr w := trivial
/-- The operation gives v, and makes of the world w1. -/
theorem o_ok {d : Option Tmp} {op : Oper} {a : Act} {w : World} {K : Act → World → Prop} {Q : Exit → Act → World → Prop} (hd : op.dst = d) (v : Value) (w1 : World) (h : (execOp a.eval op).run Try.prog w = .ok (.value v) w1) (hK : K (a.put d v) w1) : op.wp Try.prog a w K Q := by
  subst hd
  unfold Oper.wp
  rw [h]
  exact hK
/-- .. a store. -/
theorem o_skip {d : Option Tmp} {op : Oper} {a : Act} {w : World} {K : Act → World → Prop} {Q : Exit → Act → World → Prop} (hd : op.dst = d) (w1 : World) (h : (execOp a.eval op).run Try.prog w = .ok .skip w1) (hK : K (a.put d undef) w1) : op.wp Try.prog a w K Q := by
  subst hd
  unfold Oper.wp
  rw [h]
  exact hK
/-! ### a row in the middle of a block -/
theorem y_M {ops : Array Oper} {S : World → Prop} {op : Oper} {a : Act} {x : Operand} {ty : TypeId} {n R o : Nat} {c : Array Value} (ht : RowT ty n) (hw : Region.wanted op (yielded ops a.tmps) = true) (ho : op.op = .load ty x) (hx : a.eval x = .pointer (some ⟨R, o, none⟩)) (hs : c.size = n) (hS : ∀ W, S W → W.rangeAt R o c.toList) : YieldsIf Try.prog ops S op (.agg c) a :=
  .inl ⟨hw, fun W hW => by
    obtain ⟨de, hu⟩ := ht.u
    have := run_loadAt_mid (P := Try.prog) W R o ty c.toList _ (hS W hW) hu rfl (by rw [ht.i]; simp [hs])
    unfold execOp
    simp only [ho, hx, Sem.run_bind, this, Result.andThen_ok]
    rfl⟩
theorem wp_load_M {ops : Array Oper} {rest : List Oper} {a : Act} {w : World} {Q : Exit → Act → World → Prop} {R o : Nat} {c : Array Value} {d : Option Tmp} {x : Operand} {ty ty2 : TypeId} {pos : String} {af : Array Edge} {n : Nat} (ht : RowT ty n) (hr : w.rangeAt R o c.toList ∧ c.size = n) (hx : a.eval x = .pointer (some ⟨R, o, none⟩)) (h : wpList Try.prog ops Q rest (a.put d (.agg c)) w) :
    wpList Try.prog ops Q ({ dst := d, op := .load ty x, type := ty2, pos := pos, after := af, guard := none } :: rest) a w := by
  obtain ⟨de, hu⟩ := ht.u
  have := run_loadAt_mid (P := Try.prog) w R o ty c.toList _ hr.1 hu rfl (by rw [ht.i]; simp [hr.2])
  refine wpList_plain rfl fun K hK => ?_
  unfold Oper.wp execOp
  simp only [hx, Sem.run_bind, this, Result.andThen_ok]
  exact hK _ _ h

/-- Whatever is made above leaves it as it is. -/
def Stable (I : World → Prop) : Prop := ∀ W W', I W → Below W.heap.size W W' → I W'
theorem Stable.drew {I : World → Prop} (h : Stable I) {W : World} (hi : I W) : I W.drew := h _ _ hi (Below.refl _ _).drew
theorem Stable.alloc {I : World → Prop} (h : Stable I) {W : World} (hi : I W) (o : Obj) : I (W.alloc o) := h _ _ hi ((Below.refl _ _).alloc (Nat.le_refl _) o)
end Go.Proofs.Ytjffclcjijpmiaa
namespace Go.Proofs.Ytjffclcjijpmiaa
open Go.RowKit
set_option linter.unusedVariables false

theorem cell_below {w w' : World} {q : Addr} {u : Value} (h : w.cell? q = some u) (hb : Below w.heap.size w w') : w'.cell? q = some u := by
  have hl := World.block_lt_of_cell? _ _ h
  unfold World.cell? at h ⊢
  rw [hb.block _ hl]; exact h
/-- The block that a slice reads: none, if it has no elements. -/
def rdBlk : Value → Option Nat
  | .slice (some a) n _ => if n = 0 then none else some a.block
  | _ => none
/-- A slice of n elements of sz cells each, which read as cs. -/
def Rd (sz : Nat) (w : World) (v : Value) (n : Nat) (cs : List Value) : Prop :=
  cs.length = n * sz ∧ ∃ (ao : Option Addr) (c : Nat), v = .slice ao n c ∧ n ≤ c ∧ n ≤ maxLen ∧ (0 < n → ∃ g o, ao = some ⟨g, o, none⟩ ∧ w.rangeAt g o cs)
section
variable {w w' : World} {v : Value} {n sz : Nat} {cs : List Value}
theorem Rd.len (h : Rd sz w v n cs) : cs.length = n * sz := h.1
theorem Rd.shape (h : Rd sz w v n cs) : ∃ ao c, v = .slice ao n c ∧ n ≤ c ∧ n ≤ maxLen := by
  obtain ⟨_, ao, c, h1, h2, h3, _⟩ := h
  exact ⟨ao, c, h1, h2, h3⟩
theorem Rd.one (h : Rd sz w v n cs) : v.oneCell' = true := by
  obtain ⟨_, _, _, rfl, _⟩ := h; rfl
theorem Rd.nil (sz : Nat) (w : World) (ao : Option Addr) (c : Nat) : Rd sz w (.slice ao 0 c) 0 [] := ⟨by simp, ao, c, rfl, Nat.zero_le _, Nat.zero_le _, fun h => by omega⟩
theorem Rd.below (h : Rd sz w v n cs) (hb : Below w.heap.size w w') : Rd sz w' v n cs := by
  obtain ⟨h0, ao, c, h1, h2, h3, h4⟩ := h
  refine ⟨h0, ao, c, h1, h2, h3, fun hn => ?_⟩
  obtain ⟨g, o, h5, h6⟩ := h4 hn
  exact ⟨g, o, h5, fun j u hj => cell_below (h6 j u hj) hb⟩
theorem Rd.keep (h : Rd sz w v n cs) {N : Nat} (hv : ∀ k, rdBlk v = some k → k < N) (hb : Below N w w') : Rd sz w' v n cs := by
  obtain ⟨h0, ao, c, rfl, h2, h3, h4⟩ := h
  refine ⟨h0, ao, c, rfl, h2, h3, fun hn => ?_⟩
  obtain ⟨g, o, rfl, h6⟩ := h4 hn
  refine ⟨g, o, rfl, fun j u hj => ?_⟩
  have h7 := h6 j u hj
  have hl := hv g (by simp [rdBlk]; omega)
  unfold World.cell? at h7 ⊢
  rw [hb.block _ hl]; exact h7
theorem Gs.rd {e : TypeId} (h : Gs e sz w v n cs) : Rd sz w v n cs := by
  obtain ⟨h0, ao, c, rfl, h2, h3, h4⟩ := h
  refine ⟨h0, ao, c, rfl, h2, by omega, fun hn => ?_⟩
  obtain ⟨g, o, cur, rfl, e2, e3, e4⟩ := h4 (by omega)
  refine ⟨g, o, rfl, fun j u hj => ?_⟩
  have hjl := (List.getElem?_eq_some_iff.1 hj).1
  rw [e2.cell]
  rw [← e4, List.getElem?_take, if_pos (by omega), List.getElem?_drop] at hj
  simpa using hj
theorem Gs.rdblk {e : TypeId} (h : Gs e sz w v n cs) {k : Nat} (hk : rdBlk v = some k) : blkOf v = some k := by
  obtain ⟨h0, ao, c, rfl, h2, h3, h4⟩ := h
  cases ao with
  | none => simp [rdBlk] at hk
  | some a =>
    simp only [rdBlk] at hk
    split at hk
    · cases hk
    · simp only [blkOf]
      rw [if_neg (by omega)]
      simpa using hk
theorem Rd.lt (h : Rd sz w v n cs) (hsz : 0 < sz) {k : Nat} (hk : rdBlk v = some k) : k < w.heap.size := by
  obtain ⟨h0, ao, c, rfl, h2, h3, h4⟩ := h
  cases ao with
  | none => simp [rdBlk] at hk
  | some a =>
    simp only [rdBlk] at hk
    split at hk
    · cases hk
    · rename_i hn
      obtain ⟨g, o, e, h6⟩ := h4 (by omega)
      simp at hk e
      subst e
      subst hk
      have hl : 0 < cs.length := by rw [h0]; exact Nat.mul_pos (by omega) hsz
      have := World.block_lt_of_cell? _ _ (h6 0 _ (List.getElem?_eq_getElem hl))
      exact this
/-- Where the block that is read stays, it reads the same. -/
theorem Rd.stay (h : Rd sz w v n cs) (hk : ∀ k, rdBlk v = some k → w'.heap[k]? = w.heap[k]?) : Rd sz w' v n cs := by
  obtain ⟨h0, ao, c, rfl, h2, h3, h4⟩ := h
  refine ⟨h0, ao, c, rfl, h2, h3, fun hn => ?_⟩
  obtain ⟨g, o, rfl, h6⟩ := h4 hn
  refine ⟨g, o, rfl, fun j u hj => ?_⟩
  have h7 := h6 j u hj
  have hl := hk g (by simp [rdBlk]; omega)
  unfold World.cell? at h7 ⊢
  rw [hl]; exact h7
/-- An element's cells. -/
theorem Rd.elem (h : Rd sz w v n cs) {k : Nat} (hk : k < n) : ∃ g o c, v = .slice (some ⟨g, o, none⟩) n c ∧ n ≤ c ∧ w.rangeAt g (o + k * sz) ((cs.drop (k * sz)).take sz) := by
  obtain ⟨h0, ao, c, rfl, h2, h3, h4⟩ := h
  obtain ⟨g, o, rfl, h6⟩ := h4 (by omega)
  refine ⟨g, o, c, rfl, h2, fun j u hj => ?_⟩
  rw [List.getElem?_take] at hj
  split at hj
  · rw [List.getElem?_drop] at hj
    have := h6 _ u hj
    rwa [← Nat.add_assoc] at this
  · cases hj
end
/-- The cells of a list whose elements have sz cells each, from the k-th on. -/
theorem flat_at {α : Type} (f : α → List Value) {sz : Nat} (hf : ∀ x, (f x).length = sz) : ∀ (l : List α) (k : Nat) (x : α), l[k]? = some x → ((l.flatMap f).drop (k * sz)).take sz = f x
  | [], k, x, h => by simp at h
  | y :: r, 0, x, h => by
    simp at h; subst h
    rw [Nat.zero_mul, List.drop_zero, List.flatMap_cons, List.take_append_of_le_length (by rw [hf]; exact Nat.le_refl _), List.take_of_length_le (by rw [hf]; exact Nat.le_refl _)]
  | y :: r, k + 1, x, h => by
    rw [List.getElem?_cons_succ] at h
    rw [List.flatMap_cons, List.drop_append, hf, List.drop_eq_nil_of_le (by rw [hf, Nat.add_mul]; omega), List.nil_append, show (k + 1) * sz - sz = k * sz by rw [Nat.add_mul]; omega]
    exact flat_at f hf r k x h
theorem flat_len {α : Type} (f : α → List Value) {sz : Nat} (hf : ∀ x, (f x).length = sz) (l : List α) : (l.flatMap f).length = l.length * sz := by
  induction l with
  | nil => simp
  | cons y r ih => rw [List.flatMap_cons, List.length_append, ih, hf, List.length_cons, Nat.add_mul]; omega

/-! ### places -/
def pla (p : T.Pl) : Array Value := #[.int .i64 p.1, .int .i64 p.2]
theorem pla_ok (p : T.Pl) : Ok1 2 (pla p) := ⟨rfl, by simp [pla, Value.oneCell']⟩
def plc (p : T.Pl) : List Value := [.int .i64 p.1, .int .i64 p.2]
theorem plc_sz (p : T.Pl) : (plc p).length = 2 := rfl
def I64 (x : Int) : Prop := -9223372036854775808 ≤ x ∧ x ≤ 9223372036854775807
def Pi (p : T.Pl) : Prop := I64 p.1 ∧ I64 p.2
/-- A list of places. -/
def PlsIn (w : World) (v : Value) (l : List T.Pl) : Prop := Rd 2 w v l.length (l.flatMap plc) ∧ ∀ p ∈ l, Pi p
section
variable {w w' : World} {v : Value} {l : List T.Pl}
theorem PlsIn.below (h : PlsIn w v l) (hb : Below w.heap.size w w') : PlsIn w' v l := ⟨h.1.below hb, h.2⟩
theorem PlsIn.shape (h : PlsIn w v l) : ∃ ao c, v = .slice ao l.length c ∧ l.length ≤ c ∧ l.length ≤ maxLen := h.1.shape
theorem PlsIn.at_ (h : PlsIn w v l) {k : Nat} (hk : k < l.length) : ∃ g o c p, v = .slice (some ⟨g, o, none⟩) l.length c ∧ l[k]? = some p ∧ Pi p ∧ w.rangeAt g (o + k * 2) (plc p) := by
  obtain ⟨g, o, c, e, _, hr⟩ := h.1.elem hk
  have hp : l[k]? = some l[k] := List.getElem?_eq_getElem hk
  rw [flat_at plc plc_sz l k _ hp] at hr
  exact ⟨g, o, c, _, e, hp, h.2 _ (List.getElem_mem hk), hr⟩
end
theorem rng2 {w : World} {g o : Nat} {a b : Value} (h : w.rangeAt g o [a, b]) : w.cell? ⟨g, o, none⟩ = some a ∧ w.cell? ⟨g, o + 1, none⟩ = some b := ⟨h 0 a rfl, h 1 b rfl⟩

/-! ### touches -/
/-- The cells of touches. -/
def TcC (w : World) : List T.Tc → List Value → Prop
  | [], cs => cs = []
  | t :: r, cs => ∃ v cs', cs = .int .i64 t.1.1 :: .int .i64 t.1.2 :: v :: cs' ∧ PlsIn w v t.2 ∧ TcC w r cs'
def TsIn (w : World) (v : Value) (l : List T.Tc) : Prop := ∃ cs, Rd 3 w v l.length cs ∧ TcC w l cs ∧ ∀ t ∈ l, Pi t.1
section
variable {w w' : World} {v : Value} {l : List T.Tc}
theorem TcC.below (hb : Below w.heap.size w w') : ∀ (l : List T.Tc) (cs : List Value), TcC w l cs → TcC w' l cs
  | [], _, h => h
  | _ :: r, _, ⟨v, cs', e, hp, hr⟩ => ⟨v, cs', e, hp.below hb, TcC.below hb r cs' hr⟩
theorem TcC.at_ : ∀ (l : List T.Tc) (cs : List Value) (k : Nat) (t : T.Tc), TcC w l cs → l[k]? = some t → ∃ v, (cs.drop (k * 3)).take 3 = [.int .i64 t.1.1, .int .i64 t.1.2, v] ∧ PlsIn w v t.2
  | [], _, k, t, _, h => by simp at h
  | y :: r, _, 0, t, ⟨v, cs', e, hp, hr⟩, h => by
    simp at h; subst h
    exact ⟨v, by rw [e]; rfl, hp⟩
  | y :: r, _, k + 1, t, ⟨v, cs', e, hp, hr⟩, h => by
    rw [List.getElem?_cons_succ] at h
    obtain ⟨v', h1, h2⟩ := TcC.at_ r cs' k t hr h
    refine ⟨v', ?_, h2⟩
    rw [e, show (k + 1) * 3 = k * 3 + 3 by omega]
    exact h1
theorem TsIn.below (h : TsIn w v l) (hb : Below w.heap.size w w') : TsIn w' v l := by
  obtain ⟨cs, h1, h2, h3⟩ := h
  exact ⟨cs, h1.below hb, TcC.below hb _ _ h2, h3⟩
theorem TsIn.shape (h : TsIn w v l) : ∃ ao c, v = .slice ao l.length c ∧ l.length ≤ c ∧ l.length ≤ maxLen := by
  obtain ⟨cs, h1, _⟩ := h
  exact h1.shape
theorem TsIn.at_ (h : TsIn w v l) {k : Nat} (hk : k < l.length) : ∃ g o c t fv, v = .slice (some ⟨g, o, none⟩) l.length c ∧ l[k]? = some t ∧ Pi t.1 ∧ PlsIn w fv t.2 ∧ w.rangeAt g (o + k * 3) [.int .i64 t.1.1, .int .i64 t.1.2, fv] := by
  obtain ⟨cs, h1, h2, h3⟩ := h
  obtain ⟨g, o, c, e, _, hr⟩ := h1.elem hk
  have ht : l[k]? = some l[k] := List.getElem?_eq_getElem hk
  obtain ⟨fv, h4, h5⟩ := TcC.at_ l cs k _ h2 ht
  rw [h4] at hr
  exact ⟨g, o, c, _, fv, e, ht, h3 _ (List.getElem_mem hk), h5, hr⟩
end

/-! ### the document's flow -/
def prc (x : T.Pr) : List Value := [.int .i64 x.1.1, .int .i64 x.1.2, .int .u32 x.2]
theorem prc_sz (x : T.Pr) : (prc x).length = 3 := rfl
/-- Its cells: tv: the sets, pv: the pairs. -/
def rfc (fr se mo : Int) (tv pv : Value) : Array Value := #[.int .i64 fr, .int .i64 se, .int .i64 mo, tv, pv]
theorem rfc_ok (fr se mo : Int) {tv pv : Value} (h1 : tv.oneCell' = true) (h2 : pv.oneCell' = true) : Ok1 5 (rfc fr se mo tv pv) := ⟨rfl, by simp [rfc, h1, h2, show ∀ (k : IntKind) (x : Int), (Value.int k x).oneCell' = true from fun _ _ => rfl]⟩
/-- A list of pairs. -/
def PrIn (w : World) (v : Value) (l : List T.Pr) : Prop := Rd 3 w v l.length (l.flatMap prc)
section
variable {w w' : World} {v : Value} {l : List T.Pr}
theorem PrIn.below (h : PrIn w v l) (hb : Below w.heap.size w w') : PrIn w' v l := Rd.below h hb
theorem PrIn.shape (h : PrIn w v l) : ∃ ao c, v = .slice ao l.length c ∧ l.length ≤ c ∧ l.length ≤ maxLen := Rd.shape h
theorem PrIn.one (h : PrIn w v l) : v.oneCell' = true := Rd.one h
theorem PrIn.at_ (h : PrIn w v l) {k : Nat} (hk : k < l.length) : ∃ g o c x, v = .slice (some ⟨g, o, none⟩) l.length c ∧ l[k]? = some x ∧ w.rangeAt g (o + k * 3) (prc x) := by
  obtain ⟨g, o, c, e, _, hr⟩ := Rd.elem h hk
  have hp : l[k]? = some l[k] := List.getElem?_eq_getElem hk
  rw [flat_at prc prc_sz l k _ hp] at hr
  exact ⟨g, o, c, _, e, hp, hr⟩
end
theorem rng3 {w : World} {g o : Nat} {a b c : Value} (h : w.rangeAt g o [a, b, c]) : w.cell? ⟨g, o, none⟩ = some a ∧ w.cell? ⟨g, o + 1, none⟩ = some b ∧ w.cell? ⟨g, o + 2, none⟩ = some c := ⟨h 0 a rfl, h 1 b rfl, h 2 c rfl⟩
end Go.Proofs.Ytjffclcjijpmiaa
namespace Go.Proofs.Ytjffclcjijpmiaa
open Go.RowKit
set_option linter.unusedVariables false

/-- I holds, and nothing below has turned. -/
structure Hl (I : World → Prop) (w W : World) : Prop where
  i : I W
  b : Below w.heap.size w W
theorem Hl.after {I : World → Prop} {w W W' : World} (h : Hl I w W) (st : Stable I) (hb : Below W.heap.size W W') : Hl I w W' := ⟨st _ _ h.i hb, h.b.trans (hb.mono h.b.size)⟩
theorem Hl.start {I : World → Prop} (st : Stable I) {w : World} (h : I w) : Hl I w w.drew := ⟨st.drew h, (Below.refl _ _).drew⟩
theorem Stable.and {I J : World → Prop} (h : Stable I) (k : Stable J) : Stable (fun W => I W ∧ J W) := fun _ _ hi hb => ⟨h _ _ hi.1 hb, k _ _ hi.2 hb⟩
theorem st_cell (q : Addr) (u : Value) : Stable (fun W => W.cell? q = some u) := fun _ _ h hb => cell_below h hb
theorem st_rf (ty : TypeId) (n R : Nat) (c : Array Value) : Stable (fun W => Rf ty n W R c) := fun _ _ h hb => h.below hb
theorem st_pls (v : Value) (l : List T.Pl) : Stable (fun W => PlsIn W v l) := fun _ _ h hb => h.below hb
theorem st_ts (v : Value) (l : List T.Tc) : Stable (fun W => TsIn W v l) := fun _ _ h hb => h.below hb
theorem st_pr (v : Value) (l : List T.Pr) : Stable (fun W => PrIn W v l) := fun _ _ h hb => h.below hb
theorem st_gs (e : TypeId) (sz : Nat) (v : Value) (n : Nat) (cs : List Value) : Stable (fun W => Gs e sz W v n cs) := fun _ _ h hb => h.below hb
theorem st_rt (g c : Nat) (l : List Int) : Stable (fun W => L2.RT W g c l) := fun _ _ h hb => h.below hb
theorem st_below (w : World) : Stable (fun W => Below w.heap.size w W) := fun _ _ h hb => h.trans (hb.mono h.size)
theorem st_ex (ty : TypeId) (n R : Nat) : Stable (fun W => ∃ c, Rf ty n W R c) := fun _ _ ⟨c, h⟩ hb => ⟨c, h.below hb⟩
theorem st_rng (g o : Nat) (l : List Value) : Stable (fun W => W.rangeAt g o l) := fun _ _ h hb j u hj => cell_below (h j u hj) hb
theorem o_alloc {ty : TypeId} {n : Nat} {d : Option Tmp} {op : Oper} {a : Act} {w : World} {K : Act → World → Prop} {Q : Exit → Act → World → Prop} (hd : op.dst = d) (c : Array Value) (hc : Ok1 n c) (h : (execOp a.eval op).run Try.prog w = .ok (.value (.pointer (some ⟨w.heap.size, 0, none⟩))) (w.alloc (.cells c ty)))
    (hK : ∀ g W, w.heap.size = g → Rf ty n W g c → Below w.heap.size w W → g < W.heap.size → K (a.put d (.pointer (some ⟨g, 0, none⟩))) W) : op.wp Try.prog a w K Q := by
  subst hd
  unfold Oper.wp
  rw [h]
  exact hK _ _ rfl (hc.new ty w) ((Below.refl _ _).alloc (Nat.le_refl _) _) (by simp)
end Go.Proofs.Ytjffclcjijpmiaa

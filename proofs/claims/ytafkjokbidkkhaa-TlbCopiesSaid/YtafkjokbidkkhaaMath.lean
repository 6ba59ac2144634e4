/-
  Layer 6: entries and tables of four of them: what is found, filled, dropped, walked. No program.
-/
import Derived.WalkKit
namespace Go.Proofs.Ytafkjokbidkkhaa
open Go.RowKit

/-- An entry. -/
structure Ent where
  th : Bool
  pg : Int
  fr : Int
  wr : Bool
def E0 : Ent := ⟨false, 0, 0, false⟩
def Ent.eqb (a b : Ent) : Bool := a.th == b.th && (a.pg == b.pg && (a.fr == b.fr && a.wr == b.wr))
theorem Ent.eqb_iff {a b : Ent} : a.eqb b = true ↔ a = b := by
  obtain ⟨a1, a2, a3, a4⟩ := a
  obtain ⟨b1, b2, b3, b4⟩ := b
  simp [Ent.eqb]
theorem Ent.eqb_self (a : Ent) : a.eqb a = true := Ent.eqb_iff.2 rfl
/-- Is it an entry of that page? -/
def Ent.hit (e : Ent) (p : Int) : Bool := e.th && e.pg == p

/-- Four slots, and the next one. -/
structure Tl where
  s0 : Ent
  s1 : Ent
  s2 : Ent
  s3 : Ent
  nx : Nat
def T0 : Tl := ⟨E0, E0, E0, E0, 0⟩
def Tl.eqs (a b : Tl) : Bool := a.s0.eqb b.s0 && (a.s1.eqb b.s1 && (a.s2.eqb b.s2 && a.s3.eqb b.s3))
def Tl.eqb (a b : Tl) : Bool := a.eqs b && decide (a.nx = b.nx)
theorem Tl.eqb_iff {a b : Tl} : a.eqb b = true ↔ a = b := by
  obtain ⟨a1, a2, a3, a4, a5⟩ := a
  obtain ⟨b1, b2, b3, b4, b5⟩ := b
  simp [Tl.eqb, Tl.eqs, Ent.eqb_iff, and_assoc]
theorem Tl.eqs_self (a : Tl) : a.eqs a = true := by simp [Tl.eqs, Ent.eqb_self]
theorem Tl.eqb_self (a : Tl) : a.eqb a = true := Tl.eqb_iff.2 rfl
theorem Tl.eqb_comm (a b : Tl) : a.eqb b = b.eqb a := by
  by_cases h : a = b
  · subst h; rfl
  · have h1 : ¬ a.eqb b = true := fun e => h (Tl.eqb_iff.1 e)
    have h2 : ¬ b.eqb a = true := fun e => h (Tl.eqb_iff.1 e).symm
    simp only [Bool.not_eq_true] at h1 h2
    rw [h1, h2]
def Tl.g (t : Tl) (i : Nat) : Ent := if i = 0 then t.s0 else if i = 1 then t.s1 else if i = 2 then t.s2 else t.s3
def Tl.st (t : Tl) (i : Nat) (e : Ent) : Tl := if i = 0 then { t with s0 := e } else if i = 1 then { t with s1 := e } else if i = 2 then { t with s2 := e } else { t with s3 := e }
theorem lt4 {i : Nat} (h : i < 4) : i = 0 ∨ i = 1 ∨ i = 2 ∨ i = 3 := by omega
theorem Tl.g_st (t : Tl) {i j : Nat} (hi : i < 4) (hj : j < 4) (e : Ent) : (t.st i e).g j = if j = i then e else t.g j := by
  rcases lt4 hi with rfl | rfl | rfl | rfl <;> rcases lt4 hj with rfl | rfl | rfl | rfl <;> simp [Tl.st, Tl.g]
theorem Tl.nx_st (t : Tl) (i : Nat) (e : Ent) : (t.st i e).nx = t.nx := by unfold Tl.st; split; rfl; split; rfl; split <;> rfl
theorem Tl.ext4 {a b : Tl} (h : ∀ i, i < 4 → a.g i = b.g i) (hn : a.nx = b.nx) : a = b := by
  obtain ⟨a1, a2, a3, a4, a5⟩ := a
  obtain ⟨b1, b2, b3, b4, b5⟩ := b
  have h0 := h 0 (by omega)
  have h1 := h 1 (by omega)
  have h2 := h 2 (by omega)
  have h3 := h 3 (by omega)
  simp [Tl.g] at h0 h1 h2 h3 hn
  subst h0 h1 h2 h3 hn; rfl

/-- The first slot, of those from i on, that has an entry of that page. -/
def Tl.from_ (t : Tl) (p : Int) : Nat → Nat → Option Nat
  | 0, _ => none
  | n + 1, i => if (t.g i).hit p = true then some i else t.from_ p n (i + 1)
def Tl.fnd (t : Tl) (p : Int) : Option Nat := t.from_ p 4 0
theorem Tl.from_some {t : Tl} {p : Int} : ∀ {n i k : Nat}, t.from_ p n i = some k → i ≤ k ∧ k < i + n ∧ (t.g k).hit p = true ∧ ∀ j, i ≤ j → j < k → (t.g j).hit p = false
  | 0, _, _, h => by simp [Tl.from_] at h
  | n + 1, i, k, h => by
    unfold Tl.from_ at h
    split at h
    · rename_i h1
      cases h
      exact ⟨Nat.le_refl _, by omega, h1, fun j _ _ => by omega⟩
    · rename_i h1
      obtain ⟨a, b, c, d⟩ := Tl.from_some h
      refine ⟨by omega, by omega, c, fun j h2 h3 => ?_⟩
      by_cases e : j = i
      · subst e; simpa using h1
      · exact d j (by omega) h3
theorem Tl.from_none {t : Tl} {p : Int} : ∀ {n i : Nat}, t.from_ p n i = none → ∀ j, i ≤ j → j < i + n → (t.g j).hit p = false
  | 0, _, _ => fun j _ _ => by omega
  | n + 1, i, h => by
    unfold Tl.from_ at h
    split at h
    · cases h
    · rename_i h1
      intro j h2 h3
      by_cases e : j = i
      · subst e; simpa using h1
      · exact Tl.from_none h j (by omega) (by omega)
theorem Tl.fnd_some {t : Tl} {p : Int} {k : Nat} (h : t.fnd p = some k) : k < 4 ∧ (t.g k).hit p = true ∧ ∀ j, j < k → (t.g j).hit p = false := by
  obtain ⟨_, b, c, d⟩ := Tl.from_some h
  exact ⟨by omega, c, fun j hj => d j (Nat.zero_le _) hj⟩
theorem Tl.fnd_none {t : Tl} {p : Int} (h : t.fnd p = none) : ∀ j, j < 4 → (t.g j).hit p = false := fun j hj => Tl.from_none h j (Nat.zero_le _) (by omega)
theorem Tl.fnd_of {t : Tl} {p : Int} {k : Nat} (hk : k < 4) (h : (t.g k).hit p = true) (hn : ∀ j, j < k → (t.g j).hit p = false) : t.fnd p = some k := by
  cases hf : t.fnd p with
  | none => have := Tl.fnd_none hf k hk; rw [h] at this; cases this
  | some m =>
    obtain ⟨h1, h2, h3⟩ := Tl.fnd_some hf
    by_cases e : m = k
    · rw [e]
    · by_cases l : m < k
      · rw [hn m l] at h2; cases h2
      · rw [h3 k (by omega)] at h; cases h
theorem Tl.fnd_of_none {t : Tl} {p : Int} (h : ∀ j, j < 4 → (t.g j).hit p = false) : t.fnd p = none := by
  cases hf : t.fnd p with
  | none => rfl
  | some m =>
    obtain ⟨h1, h2, _⟩ := Tl.fnd_some hf
    rw [h m h1] at h2; cases h2

/-! ### what calls tell, and make -/
def Tl.lkE (t : Tl) (p : Int) : Ent := if (t.fnd p).isSome = true then t.g ((t.fnd p).getD 0) else E0
def Tl.lkI (t : Tl) (p : Int) : Nat := (t.fnd p).getD 0
def Tl.lkB (t : Tl) (p : Int) : Bool := (t.fnd p).isSome
/-- The document's Find. -/
def Tl.rfI (t : Tl) (p : Int) : Int := if (t.fnd p).isSome = true then ((t.fnd p).getD 0 : Nat) else -1
theorem Tl.rfI_ge (t : Tl) (p : Int) : decide (0 ≤ t.rfI p) = t.lkB p := by
  unfold Tl.rfI Tl.lkB
  cases h : (t.fnd p).isSome <;> simp
theorem Tl.lkI_lt (t : Tl) (p : Int) : t.lkI p < 4 := by
  unfold Tl.lkI
  cases h : t.fnd p with
  | none => simp
  | some k => simpa using (Tl.fnd_some h).1
def Tl.slt (t : Tl) (p : Int) : Nat := if t.lkB p = true then t.lkI p else t.nx
def Tl.nxt (t : Tl) (p : Int) : Nat := if t.lkB p = true then t.nx else (t.nx + 1) % 4
def Tl.fil (t : Tl) (p f : Int) (w : Bool) : Tl := ({ t with nx := t.nxt p } : Tl).st (t.slt p) ⟨true, p, f, w⟩
def Tl.drp (t : Tl) (p : Int) : Tl := if t.lkB p = true then t.st (t.lkI p) E0 else t
def b2n (b : Bool) : Nat := if b = true then 1 else 0
def Tl.many (t : Tl) : Nat := b2n t.s0.th + b2n t.s1.th + b2n t.s2.th + b2n t.s3.th
/-- Slots without an entry are zero as a whole; the next slot is one. -/
structure Ok (t : Tl) : Prop where
  nx : t.nx < 4
  zero : ∀ i, i < 4 → (t.g i).th = false → t.g i = E0
theorem T0_g (i : Nat) : T0.g i = E0 := by unfold Tl.g T0; split; rfl; split; rfl; split <;> rfl
theorem ok_T0 : Ok T0 := ⟨by decide, fun i _ _ => T0_g i⟩
theorem Tl.g_nx (t : Tl) (n i : Nat) : ({ t with nx := n } : Tl).g i = t.g i := rfl
theorem Ok.slt {t : Tl} (h : Ok t) (p : Int) : t.slt p < 4 := by
  unfold Tl.slt; split
  · exact t.lkI_lt p
  · exact h.nx
theorem Ok.nxt {t : Tl} (h : Ok t) (p : Int) : t.nxt p < 4 := by
  unfold Tl.nxt; split
  · exact h.nx
  · omega
theorem Ok.fil {t : Tl} (h : Ok t) (p f : Int) (w : Bool) : Ok (t.fil p f w) := by
  refine ⟨by unfold Tl.fil; rw [Tl.nx_st]; exact h.nxt p, fun i hi ht => ?_⟩
  unfold Tl.fil at ht ⊢
  rw [Tl.g_st _ (h.slt p) hi] at ht ⊢
  split
  · rename_i e; rw [if_pos e] at ht; cases ht
  · rename_i e; rw [if_neg e] at ht; exact h.zero i hi ht
theorem Ok.drp {t : Tl} (h : Ok t) (p : Int) : Ok (t.drp p) := by
  unfold Tl.drp; split
  · refine ⟨by rw [Tl.nx_st]; exact h.nx, fun i hi ht => ?_⟩
    rw [Tl.g_st _ (t.lkI_lt p) hi] at ht ⊢
    split
    · rfl
    · rename_i e; rw [if_neg e] at ht; exact h.zero i hi ht
  · exact h

/-! ### the slots that have entries -/
def wks (t : Tl) (k : Nat) : List Nat := (List.range k).filter fun i => (t.g i).th
theorem wks_succ (t : Tl) (k : Nat) : wks t (k + 1) = if (t.g k).th = true then wks t k ++ [k] else wks t k := by
  unfold wks
  rw [List.range_succ, List.filter_append]
  cases h : (t.g k).th <;> simp [h]
theorem wks_yes {t : Tl} {k : Nat} (h : (t.g k).th = true) : wks t (k + 1) = wks t k ++ [k] := by rw [wks_succ, if_pos h]
theorem wks_no {t : Tl} {k : Nat} (h : (t.g k).th = false) : wks t (k + 1) = wks t k := by rw [wks_succ, h]; simp
theorem wks_split (t : Tl) (k : Nat) : ∀ d, ∃ r, wks t (k + d) = wks t k ++ r
  | 0 => ⟨[], by simp⟩
  | d + 1 => by
    obtain ⟨r, hr⟩ := wks_split t k d
    rw [show k + (d + 1) = (k + d) + 1 by omega, wks_succ, hr]
    split
    · exact ⟨_, List.append_assoc _ _ _⟩
    · exact ⟨r, rfl⟩
theorem wks_mid {t : Tl} {k P : Nat} (hk : k < P) (hp : (t.g k).th = true) : ∃ r, wks t P = wks t k ++ k :: r := by
  obtain ⟨r, hr⟩ := wks_split t (k + 1) (P - (k + 1))
  rw [show k + 1 + (P - (k + 1)) = P by omega, wks_yes hp] at hr
  exact ⟨r, by rw [hr]; simp⟩
theorem wks_mem {t : Tl} {P k : Nat} : k ∈ wks t P ↔ k < P ∧ (t.g k).th = true := by simp [wks]
theorem wks_len (t : Tl) : (wks t 4).length = t.many := by
  have e : ∀ k, (wks t (k + 1)).length = (wks t k).length + b2n (t.g k).th := fun k => by
    rw [wks_succ]; cases h : (t.g k).th <;> simp [b2n]
  rw [e 3, e 2, e 1, e 0]
  simp [wks, Tl.many, Tl.g]
/-- The list rises: what comes behind a beginning is above all of it. -/
theorem wks_sorted (t : Tl) (P : Nat) : (wks t P).Pairwise (· < ·) := by
  unfold wks
  exact (List.pairwise_lt_range).filter _
theorem wks_next {t : Tl} {P x : Nat} {pre rest : List Nat} (h : wks t P = pre ++ x :: rest) : x < P ∧ (t.g x).th = true ∧ ∀ y ∈ pre, y < x := by
  have hm : x ∈ wks t P := by rw [h]; simp
  have hs := wks_sorted t P
  rw [h, List.pairwise_append] at hs
  exact ⟨(wks_mem.1 hm).1, (wks_mem.1 hm).2, fun y hy => hs.2.2 y hy x (by simp)⟩
end Go.Proofs.Ytafkjokbidkkhaa

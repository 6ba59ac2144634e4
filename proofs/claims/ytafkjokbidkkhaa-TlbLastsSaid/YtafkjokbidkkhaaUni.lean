/-
  Layer 6: no two slots have one page; what was filled lasts. No program.
-/
import Derived.Test.YtafkjokbidkkhaaNums
namespace Go.Proofs.Ytafkjokbidkkhaa
open Go.RowKit

/-- No two slots have one page. -/
def Uni (t : Tl) : Prop := ∀ i j, i < 4 → j < 4 → (t.g i).th = true → (t.g j).th = true → (t.g i).pg = (t.g j).pg → i = j
theorem uni_T0 : Uni T0 := fun i j _ _ h _ _ => by rw [T0_g] at h; cases h
theorem hit_iff {e : Ent} {p : Int} : e.hit p = true ↔ e.th = true ∧ e.pg = p := by simp [Ent.hit]
theorem lk_hit {t : Tl} {p : Int} (h : t.lkB p = true) : (t.g (t.lkI p)).th = true ∧ (t.g (t.lkI p)).pg = p := by
  unfold Tl.lkB at h
  cases hf : t.fnd p with
  | none => rw [hf] at h; cases h
  | some k =>
    have e : t.lkI p = k := by simp [Tl.lkI, hf]
    rw [e]
    exact hit_iff.1 (Tl.fnd_some hf).2.1
theorem lk_none {t : Tl} {p : Int} (h : t.lkB p = false) {j : Nat} (hj : j < 4) (ht : (t.g j).th = true) : (t.g j).pg ≠ p := by
  unfold Tl.lkB at h
  cases hf : t.fnd p with
  | some k => rw [hf] at h; cases h
  | none =>
    intro e
    have := Tl.fnd_none hf j hj
    rw [hit_iff.2 ⟨ht, e⟩] at this
    cases this
theorem g_fil (t : Tl) (hok : Ok t) (p f : Int) (w : Bool) {j : Nat} (hj : j < 4) : (t.fil p f w).g j = if j = t.slt p then ⟨true, p, f, w⟩ else t.g j := by
  unfold Tl.fil
  rw [Tl.g_st _ (hok.slt p) hj]
  rfl
theorem g_drp (t : Tl) (p : Int) {j : Nat} (hj : j < 4) : (t.drp p).g j = if t.lkB p = true ∧ j = t.lkI p then E0 else t.g j := by
  unfold Tl.drp
  split
  · rename_i h
    rw [Tl.g_st _ (t.lkI_lt p) hj]
    simp [h]
  · rename_i h
    rw [if_neg (fun e => h e.1)]
/-- A slot of another page is not the one that a fill takes, where the next slot is not that one. -/
theorem slt_other {t : Tl} (hu : Uni t) {p : Int} {j : Nat} (hj : j < 4) (ht : (t.g j).th = true) (hp : (t.g j).pg = p) (hl : t.lkB p = true) : j = t.slt p := by
  unfold Tl.slt
  rw [if_pos hl]
  obtain ⟨h1, h2⟩ := lk_hit hl
  exact hu j _ hj (t.lkI_lt p) ht h1 (by rw [hp, h2])
theorem Uni.fil {t : Tl} (hu : Uni t) (hok : Ok t) (p f : Int) (w : Bool) : Uni (t.fil p f w) := by
  have main : ∀ j, j < 4 → j ≠ t.slt p → (t.g j).th = true → (t.g j).pg ≠ p := fun j hj hne ht e => by
    cases hl : t.lkB p with
    | true => exact hne (slt_other hu hj ht e hl)
    | false => exact lk_none hl hj ht e
  intro i j hi hj h1 h2 h3
  rw [g_fil t hok p f w hi] at h1 h3
  rw [g_fil t hok p f w hj] at h2 h3
  by_cases ei : i = t.slt p
  · by_cases ej : j = t.slt p
    · omega
    · rw [if_pos ei] at h3
      rw [if_neg ej] at h2 h3
      exact absurd h3.symm (main j hj ej h2)
  · rw [if_neg ei] at h1 h3
    by_cases ej : j = t.slt p
    · rw [if_pos ej] at h3
      exact absurd h3 (main i hi ei h1)
    · rw [if_neg ej] at h2 h3
      exact hu i j hi hj h1 h2 h3
theorem Uni.drp {t : Tl} (hu : Uni t) (p : Int) : Uni (t.drp p) := by
  intro i j hi hj h1 h2 h3
  rw [g_drp t p hi] at h1 h3
  rw [g_drp t p hj] at h2 h3
  split at h1
  · cases h1
  · rename_i e1
    rw [if_neg e1] at h3
    split at h2
    · cases h2
    · rename_i e2
      rw [if_neg e2] at h3
      exact hu i j hi hj h1 h2 h3
theorem Uni.act {t : Tl} (hu : Uni t) (hok : Ok t) (k p f : Int) (w : Bool) : Uni (actT t k p f w) := by
  unfold actT
  split
  · exact hu.fil hok p f w
  · split
    · exact hu.drp p
    · exact uni_T0
theorem drp_none {t : Tl} (hu : Uni t) (p : Int) : (t.drp p).lkB p = false := by
  cases hl : (t.drp p).lkB p with
  | false => rfl
  | true =>
    exfalso
    obtain ⟨h1, h2⟩ := lk_hit hl
    have hk := (t.drp p).lkI_lt p
    generalize (t.drp p).lkI p = k at h1 h2 hk
    rw [g_drp t p hk] at h1 h2
    split at h1
    · cases h1
    · rename_i e
      rw [if_neg e] at h2
      cases hl2 : t.lkB p with
      | false => exact lk_none hl2 hk h1 h2
      | true =>
        obtain ⟨q1, q2⟩ := lk_hit hl2
        exact e ⟨hl2, hu k _ hk (t.lkI_lt p) h1 q1 (by rw [h2, q2])⟩
/-- What stands while others are filled behind an entry of page p: d of them at most took a new slot. -/
structure Las (p f : Int) (m : Nat) (t : Tl) : Prop where
  ok : Ok t
  uni : Uni t
  last : ∃ k d, k < 4 ∧ d ≤ m ∧ t.nx = (k + 1 + d) % 4 ∧ t.g k = ⟨true, p, f, true⟩
theorem las_start {t : Tl} (hok : Ok t) (hu : Uni t) (p f : Int) : Las p f 0 ((t.drp p).fil p f true) := by
  have hl := drp_none hu p
  have hok1 := hok.drp p
  have e1 : (t.drp p).slt p = (t.drp p).nx := by unfold Tl.slt; rw [if_neg (by rw [hl]; simp)]
  refine ⟨hok1.fil _ _ _, (hu.drp p).fil hok1 _ _ _, (t.drp p).nx, 0, hok1.nx, Nat.le_refl _, ?_, ?_⟩
  · unfold Tl.fil Tl.nxt
    rw [Tl.nx_st, if_neg (by rw [hl]; simp)]
  · rw [g_fil _ hok1 p f true hok1.nx, e1, if_pos rfl]
theorem las_step {p f : Int} {m : Nat} {t : Tl} (h : Las p f m t) (hm : m < 3) (q fr : Int) (w : Bool) (hq : q ≠ p) : Las p f (m + 1) (t.fil q fr w) := by
  obtain ⟨hok, hu, k, d, hk, hd, hn, hg⟩ := h
  refine ⟨hok.fil _ _ _, hu.fil hok _ _ _, ?_⟩
  have hne : k ≠ t.slt q := by
    unfold Tl.slt
    cases hl : t.lkB q with
    | true =>
      simp only [if_true]
      intro e
      have := (lk_hit hl).2
      rw [← e, hg] at this
      exact hq this.symm
    | false =>
      simp only [Bool.false_eq_true, if_false]
      omega
  have hgk : (t.fil q fr w).g k = ⟨true, p, f, true⟩ := by rw [g_fil t hok q fr w hk, if_neg hne, hg]
  cases hl : t.lkB q with
  | true =>
    refine ⟨k, d, hk, by omega, ?_, hgk⟩
    unfold Tl.fil Tl.nxt
    rw [Tl.nx_st, if_pos hl]
    exact hn
  | false =>
    refine ⟨k, d + 1, hk, by omega, ?_, hgk⟩
    unfold Tl.fil Tl.nxt
    rw [Tl.nx_st, if_neg (by rw [hl]; simp)]
    show (t.nx + 1) % 4 = _
    omega
theorem Las.more {p f : Int} {m : Nat} {t : Tl} (h : Las p f m t) : Las p f (m + 1) t := by
  obtain ⟨hok, hu, k, d, hk, hd, hn, hg⟩ := h
  exact ⟨hok, hu, k, d, hk, by omega, hn, hg⟩
theorem las_look {p f : Int} {m : Nat} {t : Tl} (h : Las p f m t) : t.lkB p = true ∧ t.lkE p = ⟨true, p, f, true⟩ := by
  obtain ⟨hok, hu, k, d, hk, hd, hn, hg⟩ := h
  have hl : t.lkB p = true := by
    cases hl : t.lkB p with
    | true => rfl
    | false => exact absurd (by rw [hg]) (lk_none hl hk (by rw [hg]))
  have e : k = t.lkI p := by
    obtain ⟨h1, h2⟩ := lk_hit hl
    exact hu k _ hk (t.lkI_lt p) (by rw [hg]) h1 (by rw [hg, h2])
  refine ⟨hl, ?_⟩
  have : t.lkE p = t.g (t.lkI p) := by unfold Tl.lkE Tl.lkI; exact if_pos hl
  rw [this, ← e, hg]
end Go.Proofs.Ytafkjokbidkkhaa

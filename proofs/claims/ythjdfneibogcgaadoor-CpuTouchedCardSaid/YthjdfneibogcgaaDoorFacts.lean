/-
  Layer 10: what a step changes, its touches tell: plain facts. No program.
-/
import Derived.Test.YthjdfneibogcgaaDoorSem
set_option linter.unusedVariables false
set_option linter.unusedSimpArgs false
namespace Go.Proofs.YthjdfneibogcgaaDoor
open Go.RowKit

/-- Does a touch go to a place? -/
def gB (l : List Tch) (p : Plc) : Bool := l.any fun t => decide (t.to = p)
theorem gB_app (a b : List Tch) (p : Plc) : gB (a ++ b) p = (gB a p || gB b p) := by simp [gB, List.any_append]
theorem gB_trap {s : Sta} {i : Ins} (hc : causeS s i ≠ 0) {p : Plc} (hp : gB trapT p = true) : gB (touS s i) p = true := by
  unfold touS
  rw [if_neg hc, gB_app, hp, Bool.or_true]
theorem gB_0 {s : Sta} {i : Ins} (hc : causeS s i = 0) (p : Plc) : gB (touS s i) p = (gB (aheadT i) p || gB (behindT i) p || gB (movedT i) p) := by
  unfold touS
  rw [if_pos hc, gB_app, gB_app]
theorem setS_r (s : Sta) (m a : Int) : (setS s m a).r = s.r := by
  unfold setS
  repeat' split
  all_goals rfl
theorem gB_pc (s : Sta) (i : Ins) : gB (touS s i) (on 2) = true := by
  by_cases hc : causeS s i = 0
  · rw [gB_0 hc]
    have : gB (movedT i) (on 2) = true := by
      unfold movedT
      split
      · simp [gB]
      split <;> simp [gB, on]
    rw [this, Bool.or_true]
  · exact gB_trap hc (by decide)
theorem reg_gB (s : Sta) (op : Int) (A B : Nat) (m t : Int) (k : Nat) (h : (doneS s ⟨op, A, B, m⟩ t).r k ≠ s.r k) : k = A ∧ ((planS s ⟨op, A, B, m⟩).kind = 2 ∨ (planS s ⟨op, A, B, m⟩).kind = 4 ∨ gB (touS s ⟨op, A, B, m⟩) (rg k) = true) := by
  unfold doneS at h
  by_cases hc : causeS s ⟨op, A, B, m⟩ = 0
  · rw [if_pos hc] at h
    unfold behindS at h
    dsimp only at h
    by_cases h27 : op = 27
    · rw [if_pos h27] at h
      rw [setS_r] at h
      exact absurd rfl h
    rw [if_neg h27] at h
    by_cases h25 : op = 25
    · rw [if_pos h25] at h
      exact absurd rfl h
    rw [if_neg h25] at h
    by_cases hm : hasMade op = true
    · rw [if_pos hm, Int.toNat_natCast] at h
      have hk : k = A := by
        by_cases e : k = A
        · exact e
        · exact absurd (show (upd s A (madeS s ⟨op, A, B, m⟩ t)).r k = s.r k from if_neg e) h
      subst hk
      refine ⟨rfl, ?_⟩
      clear h
      rw [gB_0 hc]
      unfold planS
      rw [if_pos hc]
      simp only [hasMade, decide_eq_true_eq] at hm
      clear hc
      obtain h1 | h1 | h1 | h1 : (op = 13 ∨ op = 15) ∨ op = 22 ∨ (op = 20 ∨ op = 21 ∨ op = 26) ∨ (2 ≤ op ∧ op ≤ 12) := by omega
      · left
        rcases h1 with rfl | rfl <;> simp [wantOf]
      · subst h1; right; left; simp [wantOf]
      · right; right
        have : gB (behindT ⟨op, k, B, m⟩) (rg k) = true := by rcases h1 with rfl | rfl | rfl <;> simp [behindT, gB]
        rw [this]; simp
      · right; right
        have : gB (behindT ⟨op, k, B, m⟩) (rg k) = true := by
          unfold behindT
          dsimp only
          split
          · simp [gB]
          split
          · simp [gB]
          · rw [if_pos (by omega)]; simp [gB]
        rw [this]; simp
    · rw [if_neg hm] at h
      exact absurd rfl h
  · rw [if_neg hc] at h
    exact absurd rfl h
/-- Which of the four words differ. -/
inductive F4 (s o : Sta) (T : List Tch) : Prop
  | none : o.epc = s.epc → o.cs = s.cs → o.vec = s.vec → o.tab = s.tab → F4 s o T
  | e : ¬ o.epc = s.epc → o.cs = s.cs → o.vec = s.vec → o.tab = s.tab → gB T (on 3) = true → F4 s o T
  | c : o.epc = s.epc → ¬ o.cs = s.cs → o.vec = s.vec → o.tab = s.tab → gB T (on 4) = true → F4 s o T
  | v : o.epc = s.epc → o.cs = s.cs → ¬ o.vec = s.vec → o.tab = s.tab → gB T (on 5) = true → (o.su = s.su ∧ o.pv = s.pv ∧ o.en = s.en) → F4 s o T
  | t : o.epc = s.epc → o.cs = s.cs → o.vec = s.vec → ¬ o.tab = s.tab → gB T (on 6) = true → (o.su = s.su ∧ o.pv = s.pv ∧ o.en = s.en) → F4 s o T
  | ec : ¬ o.epc = s.epc → ¬ o.cs = s.cs → o.vec = s.vec → o.tab = s.tab → gB T (on 3) = true → gB T (on 4) = true → F4 s o T
theorem upd_f (s : Sta) (a : Nat) (v : Int) : (upd s a v).epc = s.epc ∧ (upd s a v).cs = s.cs ∧ (upd s a v).vec = s.vec ∧ (upd s a v).tab = s.tab := ⟨rfl, rfl, rfl, rfl⟩
theorem four_gB (s : Sta) (i : Ins) (t : Int) : F4 s (doneS s i t) (touS s i) := by
  by_cases hc : causeS s i = 0
  · have e0 : doneS s i t = { behindS s i t with pc := toS s i } := if_pos hc
    rw [e0]
    by_cases h27 : i.op = 27
    · have eb : behindS s i t = setS s i.imm (s.r i.a.toNat) := if_pos h27
      rw [eb]
      have hT : ∀ p, gB (behindT i) p = true → gB (touS s i) p = true := fun p h => by rw [gB_0 hc, h]; simp
      have hB : i.imm < 4 → behindT i = [⟨on (keptK i.imm), [rg i.a]⟩] := fun h => by simp [behindT, h27, h]
      generalize s.r i.a.toNat = a
      by_cases h0 : i.imm = 0
      · have e : setS s i.imm a = { s with epc := a } := by simp [setS, h0]
        rw [e]
        by_cases hd : a = s.epc
        · exact .none hd rfl rfl rfl
        · exact .e hd rfl rfl rfl (hT _ (by rw [hB (by omega), h0]; simp [gB, keptK]))
      by_cases h1 : i.imm = 1
      · have e : setS s i.imm a = { s with cs := a } := by simp [setS, h1]
        rw [e]
        by_cases hd : a = s.cs
        · exact .none rfl hd rfl rfl
        · exact .c rfl hd rfl rfl (hT _ (by rw [hB (by omega), h1]; simp [gB, keptK]))
      by_cases h2 : i.imm = 2
      · have e : setS s i.imm a = { s with vec := a } := by simp [setS, h2]
        rw [e]
        by_cases hd : a = s.vec
        · exact .none rfl rfl hd rfl
        · exact .v rfl rfl hd rfl (hT _ (by rw [hB (by omega), h2]; simp [gB, keptK])) ⟨rfl, rfl, rfl⟩
      by_cases h3 : i.imm = 3
      · have e : setS s i.imm a = { s with tab := a } := by simp [setS, h3]
        rw [e]
        by_cases hd : a = s.tab
        · exact .none rfl rfl rfl hd
        · exact .t rfl rfl rfl hd (hT _ (by rw [hB (by omega), h3]; simp [gB, keptK])) ⟨rfl, rfl, rfl⟩
      have : (setS s i.imm a).epc = s.epc ∧ (setS s i.imm a).cs = s.cs ∧ (setS s i.imm a).vec = s.vec ∧ (setS s i.imm a).tab = s.tab := by
        unfold setS
        rw [if_neg h0, if_neg h1, if_neg h2, if_neg h3]
        split <;> exact ⟨rfl, rfl, rfl, rfl⟩
      exact .none this.1 this.2.1 this.2.2.1 this.2.2.2
    · have : (behindS s i t).epc = s.epc ∧ (behindS s i t).cs = s.cs ∧ (behindS s i t).vec = s.vec ∧ (behindS s i t).tab = s.tab := by
        unfold behindS
        rw [if_neg h27]
        split
        · exact ⟨rfl, rfl, rfl, rfl⟩
        split
        · exact upd_f _ _ _
        · exact ⟨rfl, rfl, rfl, rfl⟩
      exact .none this.1 this.2.1 this.2.2.1 this.2.2.2
  · have e0 : doneS s i t = trapS s (causeS s i) := if_neg hc
    rw [e0]
    by_cases h1 : s.pc = s.epc <;> by_cases h2 : causeS s i = s.cs
    · exact .none h1 h2 rfl rfl
    · exact .c h1 h2 rfl rfl (gB_trap hc (by decide))
    · exact .e h1 h2 rfl rfl (gB_trap hc (by decide))
    · exact .ec h1 h2 rfl rfl (gB_trap hc (by decide)) (gB_trap hc (by decide))
theorem mode_gB (s : Sta) (i : Ins) (t : Int) : ((doneS s i t).su = s.su ∧ (doneS s i t).pv = s.pv ∧ (doneS s i t).en = s.en) ∨ gB (touS s i) (on 7) = true := by
  by_cases hc : causeS s i = 0
  · have e0 : doneS s i t = { behindS s i t with pc := toS s i } := if_pos hc
    rw [e0]
    by_cases h27 : i.op = 27
    · have eb : behindS s i t = setS s i.imm (s.r i.a.toNat) := if_pos h27
      rw [eb]
      by_cases h4 : i.imm = 4
      · right
        rw [gB_0 hc]
        have : gB (behindT i) (on 7) = true := by simp [behindT, h27, h4, gB]
        rw [this]; simp
      · left
        unfold setS
        dsimp only
        rw [if_neg h4]
        repeat' split
        all_goals exact ⟨rfl, rfl, rfl⟩
    · by_cases h25 : i.op = 25
      · right
        rw [gB_0 hc]
        have : gB (movedT i) (on 7) = true := by simp [movedT, h25, gB]
        rw [this]; simp
      · left
        unfold behindS
        rw [if_neg h27, if_neg h25]
        split <;> exact ⟨rfl, rfl, rfl⟩
  · exact .inr (gB_trap hc (by decide))
theorem kind_same (s : Sta) (i : Ins) (t : Int) (h : (planS s i).kind = 2 ∨ (planS s i).kind = 4) : ((doneS s i t).epc = s.epc ∧ (doneS s i t).cs = s.cs ∧ (doneS s i t).vec = s.vec ∧ (doneS s i t).tab = s.tab) ∧ ((doneS s i t).su = s.su ∧ (doneS s i t).pv = s.pv ∧ (doneS s i t).en = s.en) := by
  by_cases hc : causeS s i = 0
  · have e0 : doneS s i t = { behindS s i t with pc := toS s i } := if_pos hc
    rw [e0]
    unfold planS at h
    rw [if_pos hc] at h
    have hop : i.op = 13 ∨ i.op = 15 ∨ i.op = 22 := by
      by_cases h1 : i.op = 13
      · exact .inl h1
      by_cases h2 : i.op = 15
      · exact .inr (.inl h2)
      by_cases h3 : i.op = 22
      · exact .inr (.inr h3)
      exfalso
      unfold wantOf at h
      rw [if_neg h1, if_neg h2] at h
      by_cases h4 : i.op = 14
      · rw [if_pos h4] at h; rcases h with h | h <;> exact absurd h (by dsimp only; decide)
      rw [if_neg h4] at h
      by_cases h5 : i.op = 16
      · rw [if_pos h5] at h; rcases h with h | h <;> exact absurd h (by dsimp only; decide)
      rw [if_neg h5, if_neg h3] at h
      by_cases h6 : i.op = 23
      · rw [if_pos h6] at h; rcases h with h | h <;> exact absurd h (by dsimp only; decide)
      rw [if_neg h6] at h
      by_cases h7 : i.op = 1
      · rw [if_pos h7] at h; rcases h with h | h <;> exact absurd h (by dsimp only; decide)
      rw [if_neg h7] at h
      by_cases h8 : i.op = 28
      · rw [if_pos h8] at h; rcases h with h | h <;> exact absurd h (by dsimp only; decide)
      rw [if_neg h8] at h; rcases h with h | h <;> exact absurd h (by dsimp only; decide)
    have hb : behindS s i t = upd s i.a.toNat (madeS s i t) := by
      unfold behindS
      rw [if_neg (by omega), if_neg (by omega), if_pos (by simp [hasMade]; omega)]
    rw [hb]
    exact ⟨⟨rfl, rfl, rfl, rfl⟩, rfl, rfl, rfl⟩
  · unfold planS at h
    rw [if_neg hc] at h
    rcases h with h | h <;> exact absurd h (by dsimp only; decide)
/-- How many registers below r differ, if it is A alone. -/
theorem cn_ex (f g : Nat → Int) (A : Nat) (h : ∀ k, ¬ f k = g k → k = A) : ∃ cn : Nat → Int, cn 0 = 0 ∧ (∀ r, f r = g r → cn (r + 1) = cn r) ∧ (∀ r, ¬ f r = g r → cn r = 0 ∧ cn (r + 1) = 1) ∧ ∀ r, 0 ≤ cn r ∧ cn r ≤ 1 := by
  refine ⟨fun r => if A < r ∧ ¬ f A = g A then 1 else 0, by simp, fun r hr => ?_, fun r hr => ?_, fun r => by dsimp only; split <;> omega⟩
  · dsimp only
    by_cases hA : r = A
    · subst hA
      rw [if_neg (by omega), if_neg (by omega)]
    · by_cases h1 : A < r
      · by_cases h2 : f A = g A
        · rw [if_neg (fun h => h.2 h2), if_neg (fun h => h.2 h2)]
        · rw [if_pos ⟨by omega, h2⟩, if_pos ⟨h1, h2⟩]
      · rw [if_neg (by omega), if_neg (by omega)]
  · obtain rfl := h r hr
    dsimp only
    exact ⟨if_neg (by omega), if_pos ⟨by omega, hr⟩⟩
end Go.Proofs.YthjdfneibogcgaaDoor

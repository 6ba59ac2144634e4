/-
  Layer 3: put of package shadow: a byte's set, its page made private or shared again: what the world holds behind it, and the walks.
-/
import Derived.Test.YtepmndadbikijaaLeaf
import Derived.Test.YtepmndadbikijaaUnion
import Derived.Test.YtepmndadbikijaaCount
import Derived.Maps.OwnSet
namespace Go.Proofs.Ytepmndadbikijaa
open Go.RowKit
set_option maxHeartbeats 1000000

theorem map_tight {w : World} {P : Program} {k : TypeId} {R : Value → Option (DataW Unit × List MemPlace)} {b n : Nat} {D : DataW Unit} (h : w.ownsMap P k R b n D) {m : Nat} (hm : Maps.size D ≤ m) : w.ownsMap P k R b m D := by
  obtain ⟨es, clock, hb, F, hs, rfl⟩ := h
  refine ⟨es, clock, hb, F, ?_, rfl⟩
  simpa [Maps.size, length_sorted] using hm
theorem cells_set {P : Nat} {l : List Int} (h : l.length = 64 * P) {p k : Nat} (hp : p < P) (hk : k < 64) (x : Int) :
    (((pg l p).map (Value.int .u32)).toArray).setIfInBounds k (.int .u32 x) = ((pg (l.set (64 * p + k) x) p).map (Value.int .u32)).toArray := by
  rw [pg_set_same h hp hk]; simp
theorem counts_set {P : Nat} {l : List Int} (h : l.length = 64 * P) {p k : Nat} (hp : p < P) (h32 : P ≤ 32) (hk : k < 64) (x : Int) (m : Option Nat) {c : Nat} (hc : c = cnt (l.set (64 * p + k) x) p) :
    (shCells (cnt l) P m).setIfInBounds p (.int .i64 (c : Int)) = shCells (cnt (l.set (64 * p + k) x)) P m := by
  rw [shCells_count _ _ _ (by omega)]
  congr 1
  funext q
  by_cases e : q = p
  · subst e; rw [if_pos rfl, hc]
  · rw [if_neg e, cnt_set_other h hp hk e]
theorem priv_other {P : Nat} {l : List Int} (h : l.length = 64 * P) {p k : Nat} (hp : p < P) (hk : k < 64) (x : Int) {q : Nat} (e : q ≠ p) : priv (l.set (64 * p + k) x) q = priv l q := by unfold priv; rw [cnt_set_other h hp hk e]

section
variable {w w' : World} {S mb P : Nat} {l : List Int} {G : Nat → Nat} {D : DataW Unit} {p k : Nat} {x : Int}
/-- Private ahead of it, and behind it. -/
theorem put_keep (h : ShIs w S mb P l G D) (hp : p < P) (hk : k < 64) (hx : S16 x) (hq : priv l p = true) (hq' : priv (l.set (64 * p + k) x) p = true) (t : Turned (fun j => j = S ∨ j = G p) w w')
    (hS : w'.heap[S]? = some (.cells (shCells (cnt (l.set (64 * p + k) x)) P (some mb)) 72 (0, 0))) (hG : w'.heap[G p]? = some (.cells ((pg (l.set (64 * p + k) x) p).map (Value.int .u32)).toArray 70 (0, 0))) :
    Sh w' S P (l.set (64 * p + k) x) (shB S mb l G) := by
  have hl := h.bytes.len
  have hpr : ∀ q, priv (l.set (64 * p + k) x) q = priv l q := fun q => by
    by_cases e : q = p
    · subst e; rw [hq, hq']
    · exact priv_other hl hp hk x e
  have hps : privs (l.set (64 * p + k) x) P = privs l P := by unfold privs; congr 1; exact funext hpr
  refine ⟨mb, G, D, ?_, h.bytes.set _ hx, hS, ?_, ⟨fun j => ?_, fun q h2 => ?_, ?_⟩, fun q h2 => ?_, fun q r h2 h3 => ?_⟩
  · funext j; unfold shB; simp [hpr]
  · rw [hps]; exact t.map h.map (by rintro (e | e); exact h.ne1 e.symm; exact (h.ne2 hq).2 e.symm)
  · rw [h.pd.has, hpr]
  · exact h.pd.at_ q (by rw [← hpr]; exact h2)
  · rw [hps]; exact h.pd.size
  · rw [hpr] at h2
    by_cases e : q = p
    · subst e; exact hG
    · rw [pg_set_other hl hp hk e]
      exact t.keep (h.page q h2) (by rintro (e' | e'); exact (h.ne2 h2).1 e'; exact e (h.inj q p h2 hq e'))
  · rw [hpr] at h2 h3; exact h.inj q r h2 h3
/-- Private ahead of it, shared behind it. -/
theorem put_drop (h : ShIs w S mb P l G D) (hp : p < P) (hk : k < 64) (hx : S16 x) (hq : priv l p = true) (hq' : priv (l.set (64 * p + k) x) p = false) (t : Turned (fun j => j = S ∨ j = G p ∨ j = mb) w w')
    (hS : w'.heap[S]? = some (.cells (shCells (cnt (l.set (64 * p + k) x)) P (some mb)) 72 (0, 0))) {n : Nat} (hm : w'.ownsMap Try.prog 3 ptrElem mb n (D.del (.int .i64 (p : Int)))) :
    ∃ F', Sh w' S P (l.set (64 * p + k) x) F' ∧ ∀ j, F' j → shB S mb l G j := by
  have hl := h.bytes.len
  have hpr : ∀ q, priv (l.set (64 * p + k) x) q = (priv l q && !(q == p)) := fun q => by
    by_cases e : q = p
    · subst e; rw [hq']; simp
    · rw [priv_other hl hp hk x e]; simp [e]
  have hsz : Maps.size (D.del (.int .i64 (p : Int))) = (privs (l.set (64 * p + k) x) P).length := by
    have h1 := Maps.size_del (k := .int .i64 (p : Int)) (h.map.tidy numLaw)
    have h2 := privs_set hl hp hk x
    rw [h.pd.has, h.pd.size] at h1
    simp [hq] at h1 h2
    simp [hq'] at h2
    omega
  refine ⟨_, ⟨mb, G, _, rfl, h.bytes.set _ hx, hS, map_tight hm (by rw [hsz]; exact Nat.le_refl _), ⟨fun j => ?_, fun q h2 z => ?_, hsz⟩, fun q h2 => ?_, fun q r h2 h3 => ?_⟩, ?_⟩
  · by_cases e : j = (p : Int)
    · subst e; rw [Maps.has_del_same]; simp [hpr]
    · rw [Maps.has_del_other (by simpa using e), h.pd.has, hpr]
      by_cases h0 : 0 ≤ j
      · have : ¬ j.toNat = p := by omega
        simp [h0, this]
      · simp [h0]
  · rw [hpr] at h2
    simp at h2
    rw [Maps.atKey_del_other (by simp; omega)]
    exact h.pd.at_ q h2.1 z
  · rw [hpr] at h2
    simp at h2
    rw [pg_set_other hl hp hk h2.2]
    refine t.keep (h.page q h2.1) ?_
    rintro (e | e | e)
    · exact (h.ne2 h2.1).1 e
    · exact h2.2 (h.inj q p h2.1 hq e)
    · exact (h.ne2 h2.1).2 e
  · rw [hpr] at h2 h3
    simp at h2 h3
    exact h.inj q r h2.1 h3.1
  · rintro j (e | e | ⟨q, h2, e⟩)
    · exact .inl e
    · exact .inr (.inl e)
    · rw [hpr] at h2
      simp at h2
      exact .inr (.inr ⟨q, h2.1, e⟩)
/-- Shared ahead of it, private behind it, in the new block g. -/
theorem put_new (h : ShIs w S mb P l G D) (hp : p < P) (hk : k < 64) (hx : S16 x) (hq : priv l p = false) (hq' : priv (l.set (64 * p + k) x) p = true) {g : Nat} (hg : w.heap.size ≤ g) (t : Turned (fun j => j = S ∨ j = mb) w w')
    (hS : w'.heap[S]? = some (.cells (shCells (cnt (l.set (64 * p + k) x)) P (some mb)) 72 (0, 0))) (hG : w'.heap[g]? = some (.cells ((pg (l.set (64 * p + k) x) p).map (Value.int .u32)).toArray 70 (0, 0)))
    {n : Nat} (hm : w'.ownsMap Try.prog 3 ptrElem mb n (D.put (.int .i64 (p : Int)) (.lit (.int .i64 (g : Int))))) :
    ∃ F', Sh w' S P (l.set (64 * p + k) x) F' ∧ ∀ j, F' j → shB S mb l G j ∨ w.heap.size ≤ j := by
  have hl := h.bytes.len
  have hD := h.map.isMap
  have hpr : ∀ q, q ≠ p → priv (l.set (64 * p + k) x) q = priv l q := fun q e => priv_other hl hp hk x e
  have hsz : Maps.size (D.put (.int .i64 (p : Int)) (.lit (.int .i64 (g : Int)))) = (privs (l.set (64 * p + k) x) P).length := by
    rw [Maps.size_put (h.map.tidy numLaw)]
    have h2 := privs_set hl hp hk x
    rw [h.pd.has, h.pd.size]
    simp [hq] at h2 ⊢
    simp [hq'] at h2
    omega
  refine ⟨_, ⟨mb, fun q => if q = p then g else G q, _, rfl, h.bytes.set _ hx, hS, map_tight hm (by rw [hsz]; exact Nat.le_refl _), ⟨fun j => ?_, fun q h2 z => ?_, hsz⟩, fun q h2 => ?_, fun q r h2 h3 e => ?_⟩, ?_⟩
  · by_cases e : j = (p : Int)
    · subst e; rw [Maps.has_put_same hD (isKey _)]; simp [hq']
    · rw [Maps.has_put_other (by simpa using e), h.pd.has]
      by_cases h0 : 0 ≤ j
      · rw [hpr _ (show j.toNat ≠ p by omega)]
      · simp [h0]
  · by_cases e : q = p
    · subst e; rw [Maps.atKey_put_same hD (isKey _)]; simp
    · rw [Maps.atKey_put_other (by simp; omega), h.pd.at_ q (by rw [← hpr q e]; exact h2)]; simp [e]
  · by_cases e : q = p
    · subst e; simpa using hG
    · rw [hpr q e] at h2
      rw [if_neg e, pg_set_other hl hp hk e]
      refine t.keep (h.page q h2) ?_
      rintro (e' | e')
      · exact (h.ne2 h2).1 e'
      · exact (h.ne2 h2).2 e'
  · have lt : ∀ q, priv l q = true → G q < w.heap.size := fun q hq2 => h.lt _ (.inr (.inr ⟨q, hq2, rfl⟩))
    by_cases e1 : q = p <;> by_cases e2 : r = p
    · omega
    · subst e1
      rw [hpr r e2] at h3
      have := lt r h3
      simp [e2] at e
      omega
    · subst e2
      rw [hpr q e1] at h2
      have := lt q h2
      simp [e1] at e
      omega
    · rw [hpr q e1] at h2
      rw [hpr r e2] at h3
      simp [e1, e2] at e
      exact h.inj q r h2 h3 e
  · rintro j (e | e | ⟨q, h2, e⟩)
    · exact .inl (.inl e)
    · exact .inl (.inr (.inl e))
    · by_cases e1 : q = p
      · subst e1; simp at e; right; omega
      · rw [hpr q e1] at h2
        simp [e1] at e
        exact .inl (.inr (.inr ⟨q, h2, e⟩))
theorem set_same {l : List Int} {i : Nat} (hi : i < l.length) : l.set i (at0 l i) = l := by
  refine List.ext_getElem? fun j => ?_
  rw [List.getElem?_set]
  by_cases e : i = j
  · subst e; unfold at0; rw [List.getElem?_eq_getElem hi]; simp [hi]
  · rw [if_neg e]
end
end Go.Proofs.Ytepmndadbikijaa

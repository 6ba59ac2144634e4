/-
  Layer 10: lists of places and of touches, as they lie in a world.
-/
import Derived.Test.YthjdfneibogcgaaDoorRegion
namespace Go.Proofs.YthjdfneibogcgaaDoor
open Go.RowKit
set_option linter.unusedVariables false

def plc (p : Plc) : List Value := [.int .i64 p.kind, .int .i64 p.n]
theorem plc_len : ∀ l : List Plc, (l.flatMap plc).length = l.length * 2
  | [] => rfl
  | p :: r => by simp [plc, plc_len r]; omega
theorem plc_at : ∀ (l : List Plc) (j : Nat) (p : Plc), l[j]? = some p → (l.flatMap plc)[j * 2]? = some (.int .i64 p.kind) ∧ (l.flatMap plc)[j * 2 + 1]? = some (.int .i64 p.n)
  | [], j, p, h => by simp at h
  | q :: r, 0, p, h => by simp at h; subst h; exact ⟨rfl, rfl⟩
  | q :: r, j + 1, p, h => by
    have := plc_at r j p (by simpa using h)
    rw [show (j + 1) * 2 = j * 2 + 1 + 1 by omega]
    simpa [plc] using this
theorem plc_one (l : List Plc) : ∀ u ∈ l.flatMap plc, u.oneCell' = true := by
  intro u hu
  simp only [List.mem_flatMap, plc, List.mem_cons, List.not_mem_nil, or_false] at hu
  obtain ⟨p, _, rfl | rfl⟩ := hu <;> rfl
/-- A list of places. -/
def PlIs (w : World) (v : Value) (l : List Plc) : Prop := Gs 49 2 w v l.length (l.flatMap plc)
/-- The cells of touches. -/
def TcC (w : World) : List Tch → List Value → Prop
  | [], cs => cs = []
  | t :: r, cs => ∃ v cs', cs = .int .i64 t.to.kind :: .int .i64 t.to.n :: v :: cs' ∧ PlIs w v t.fr ∧ TcC w r cs'
/-- A list of touches. -/
def TsIs (w : World) (v : Value) (l : List Tch) : Prop := ∃ cs, Gs 70 3 w v l.length cs ∧ TcC w l cs
/-- What lies below N stays; of what lies above, all but the lists of touches. -/
structure Kp (N : Nat) (w w' : World) : Prop where
  b : Below N w w'
  o : ∀ k cs t, Blk w k cs t → t ≠ 64 → t ≠ 70 → Blk w' k cs t
section
variable {w w' w'' : World} {N : Nat} {v : Value}
theorem Kp.refl (N : Nat) (w : World) : Kp N w w := ⟨Below.refl _ _, fun _ _ _ h _ _ => h⟩
theorem Kp.trans (h : Kp N w w') (h' : Kp N w' w'') : Kp N w w'' := ⟨h.b.trans h'.b, fun k cs t hb h1 h2 => h'.o k cs t (h.o k cs t hb h1 h2) h1 h2⟩
theorem Kp.of_below (hb : Below w.heap.size w w') (hN : N ≤ w.heap.size) : Kp N w w' := ⟨hb.mono hN, fun k cs t h _ _ => h.below hb⟩
theorem Kp.below (h : Kp N w w') (hb : Below w'.heap.size w' w'') (hN : N ≤ w'.heap.size) : Kp N w w'' := h.trans (Kp.of_below hb hN)
theorem Kp.alloc (h : Kp N w w') (hN : N ≤ w'.heap.size) (o : Obj) : Kp N w (w'.alloc o) := h.below (bel_alloc w' o) hN
  where bel_alloc (w : World) (o : Obj) : Below w.heap.size w (w.alloc o) := (Below.refl _ _).alloc (Nat.le_refl _) _
theorem Kp.drew (h : Kp N w w') : Kp N w w'.drew := ⟨h.b.drew, fun k cs t hb h1 h2 => (h.o k cs t hb h1 h2).drew⟩
theorem Kp.mono {M : Nat} (h : Kp N w w') (hm : M ≤ N) : Kp M w w' := ⟨h.b.mono hm, h.o⟩
theorem Kp.size (h : Kp N w w') : w.heap.size ≤ w'.heap.size := h.b.size
/-- A list of touches turns. -/
theorem Kp.turned {F : Nat → Prop} (h : Turned F w w') (hN : N ≤ w.heap.size) (hF : ∀ k, F k → N ≤ k ∧ ∃ cs t, Blk w k cs t ∧ (t = 64 ∨ t = 70)) : Kp N w w' :=
  ⟨h.below hN (fun k hk => (hF k hk).1), fun k cs t hb h1 h2 => hb.turned h (fun hk => by
    obtain ⟨_, cs', t', hb', ht⟩ := hF k hk
    unfold Blk at hb hb'
    rw [hb] at hb'
    simp only [Option.some.injEq, Obj.cells.injEq] at hb'
    rcases ht with e | e
    · exact h1 (hb'.2.1.trans e)
    · exact h2 (hb'.2.1.trans e))⟩
theorem PlIs.kp {l : List Plc} (h : PlIs w v l) (hk : Kp N w w') : PlIs w' v l := Gs.keep h fun k hb => by
  obtain ⟨cur, hc⟩ := Gs.in_ h hb
  rw [hk.o k cur _ hc (by decide) (by decide)]
  exact hc.symm
theorem PlIs.below {l : List Plc} (h : PlIs w v l) (hb : Below w.heap.size w w') : PlIs w' v l := Gs.below h hb
theorem PlIs.drew {l : List Plc} (h : PlIs w v l) : PlIs w.drew v l := Gs.below h (Below.refl _ _).drew
theorem PlIs.nil (w : World) : PlIs w (.slice none 0 0) [] := Gs.nil _ _ _
theorem PlIs.one {l : List Plc} (h : PlIs w v l) : v.oneCell' = true := Gs.one h
theorem PlIs.lit (w : World) (l : List Plc) (hl : l.length ≤ maxLen) : PlIs (w.alloc (.cells (l.flatMap plc).toArray 49)) (.slice (some ⟨w.heap.size, 0, none⟩) l.length l.length) l := by
  have := Gs.lit w 49 (sz := 2) (n := l.length) (cs := (l.flatMap plc).toArray) (by rw [List.size_toArray]; exact plc_len l) hl
  exact this
theorem TcC.kp (hk : Kp N w w') : ∀ (l : List Tch) (cs : List Value), TcC w l cs → TcC w' l cs
  | [], _, h => h
  | _ :: r, _, ⟨v, cs', e, hp, hr⟩ => ⟨v, cs', e, hp.kp hk, TcC.kp hk r cs' hr⟩
theorem TcC.app {t : Tch} {fv : Value} (hp : PlIs w fv t.fr) : ∀ (l : List Tch) (cs : List Value), TcC w l cs → TcC w (l ++ [t]) (cs ++ [.int .i64 t.to.kind, .int .i64 t.to.n, fv])
  | [], _, h => by cases h; exact ⟨fv, [], rfl, hp, rfl⟩
  | _ :: r, _, ⟨v, cs', e, hq, hr⟩ => ⟨v, cs' ++ _, by rw [e]; rfl, hq, TcC.app hp r cs' hr⟩
theorem TcC.len : ∀ (l : List Tch) (cs : List Value), TcC w l cs → cs.length = l.length * 3
  | [], _, h => by cases h; rfl
  | _ :: r, _, ⟨v, cs', e, _, hr⟩ => by rw [e]; simp [TcC.len r cs' hr]; omega
theorem TcC.one : ∀ (l : List Tch) (cs : List Value), TcC w l cs → ∀ u ∈ cs, u.oneCell' = true
  | [], _, h, u, hu => by cases h; cases hu
  | _ :: r, _, ⟨v, cs', e, hp, hr⟩, u, hu => by
    rw [e] at hu
    simp only [List.mem_cons] at hu
    rcases hu with rfl | rfl | rfl | hu
    · rfl
    · rfl
    · exact hp.one
    · exact TcC.one r cs' hr u hu
theorem TcC.at_ : ∀ (l : List Tch) (cs : List Value) (j : Nat) (t : Tch), TcC w l cs → l[j]? = some t → ∃ v, cs[j * 3]? = some (.int .i64 t.to.kind) ∧ cs[j * 3 + 1]? = some (.int .i64 t.to.n) ∧ cs[j * 3 + 2]? = some v ∧ PlIs w v t.fr
  | [], _, j, t, _, h => by simp at h
  | q :: r, _, 0, t, ⟨v, cs', e, hp, hr⟩, h => by
    simp at h; subst h; rw [e]
    exact ⟨v, rfl, rfl, rfl, hp⟩
  | q :: r, _, j + 1, t, ⟨v, cs', e, hp, hr⟩, h => by
    obtain ⟨v', h1, h2, h3, h4⟩ := TcC.at_ r cs' j t hr (by simpa using h)
    rw [e, show (j + 1) * 3 = j * 3 + 1 + 1 + 1 by omega]
    exact ⟨v', by simpa using h1, by simpa using h2, by simpa using h3, h4⟩
theorem TsIs.nil (w : World) : TsIs w (.slice none 0 0) [] := ⟨[], Gs.nil _ _ _, rfl⟩
theorem TsIs.one {l : List Tch} (h : TsIs w v l) : v.oneCell' = true := by obtain ⟨cs, h1, _⟩ := h; exact Gs.one h1
theorem TsIs.below {l : List Tch} (h : TsIs w v l) (hb : Below w.heap.size w w') : TsIs w' v l := by
  obtain ⟨cs, h1, h2⟩ := h
  exact ⟨cs, h1.below hb, TcC.kp (Kp.of_below (N := 0) hb (Nat.zero_le _)) _ _ h2⟩
theorem TsIs.drew {l : List Tch} (h : TsIs w v l) : TsIs w.drew v l := h.below (Below.refl _ _).drew
theorem TsIs.alloc {l : List Tch} (h : TsIs w v l) (o : Obj) : TsIs (w.alloc o) v l := h.below ((Below.refl _ _).alloc (Nat.le_refl _) _)
theorem TsIs.lt {l : List Tch} (h : TsIs w v l) {k : Nat} (hk : blkOf v = some k) : k < w.heap.size := by obtain ⟨cs, h1, _⟩ := h; exact h1.lt hk
theorem TsIs.shape {l : List Tch} (h : TsIs w v l) : ∃ ao c, v = .slice ao l.length c ∧ l.length ≤ c ∧ l.length ≤ maxLen := by obtain ⟨cs, h1, _⟩ := h; exact h1.shape
theorem PlIs.shape {l : List Plc} (h : PlIs w v l) : ∃ ao c, v = .slice ao l.length c ∧ l.length ≤ c ∧ l.length ≤ maxLen := Gs.shape h
/-- One touch more. -/
theorem TsIs.more {l : List Tch} {v' fv : Value} {cs cs' : List Value} {t : Tch} (h : TcC w l cs) (hg : Gs 70 3 w' v' (l.length + 1) (cs ++ [.int .i64 t.to.kind, .int .i64 t.to.n, fv])) (hp : PlIs w fv t.fr) (hk : Kp N w w') : TsIs w' v' (l ++ [t]) :=
  ⟨_, by simpa using hg, TcC.kp hk _ _ (TcC.app hp l cs h)⟩
end
/-- The touches that a method makes lie behind T, above N. -/
structure At (N : Nat) (w : World) (T : Nat) (l : List Tch) : Prop where
  v : ∃ v, Blk w T #[v] 64 ∧ TsIs w v l ∧ ∀ k, blkOf v = some k → N ≤ k
  n : N ≤ T
theorem At.below {N : Nat} {w w' : World} {T : Nat} {l : List Tch} (h : At N w T l) (hb : Below w.heap.size w w') : At N w' T l := by
  obtain ⟨⟨v, h1, h2, h3⟩, hn⟩ := h
  exact ⟨⟨v, h1.below hb, h2.below hb, h3⟩, hn⟩
theorem At.drew {N : Nat} {w : World} {T : Nat} {l : List Tch} (h : At N w T l) : At N w.drew T l := h.below (Below.refl _ _).drew
theorem At.alloc {N : Nat} {w : World} {T : Nat} {l : List Tch} (h : At N w T l) (o : Obj) : At N (w.alloc o) T l := h.below ((Below.refl _ _).alloc (Nat.le_refl _) _)
theorem At.lt {N : Nat} {w : World} {T : Nat} {l : List Tch} (h : At N w T l) : N < w.heap.size := by
  obtain ⟨⟨v, h1, _, _⟩, hn⟩ := h
  have := h1.lt; omega
theorem at_new (w : World) : At w.heap.size (w.alloc (.cells #[.slice none 0 0] 64)) w.heap.size [] :=
  ⟨⟨_, blk_new _ _ _, TsIs.nil _, fun k hk => by simp [blkOf] at hk⟩, Nat.le_refl _⟩
end Go.Proofs.YthjdfneibogcgaaDoor

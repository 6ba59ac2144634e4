/-
  Layer 14: a chain's notes; roots that are one place. No walk.
-/
import Derived.Test.YtiohlmccnllklaaDoorG18
import Derived.Test.YtiohlmccnllklaaDoorG19
import Derived.Test.YtiohlmccnllklaaDoorG07
set_option linter.unusedVariables false
set_option linter.unusedSimpArgs false
namespace Go.Proofs.YtiohlmccnllklaaDoor.T
theorem ch_sum (l : List Pl) (st : Nat → Int) : ∀ i, sumF (chN l st i) ≤ 2 * i
  | 0 => by simp [chN, sumF]
  | i + 1 => by
    have h := ch_sum l st i
    rw [chN_snoc, sumF_app]
    have : sumF [(⟨st (i + 1), lat l (i + 1), chF l (i + 1)⟩ : No)] ≤ 2 := by
      simp only [sumF, List.flatMap_cons, List.flatMap_nil, List.append_nil]
      unfold chF
      split <;> simp
    omega
theorem ch_len (l : List Pl) (st : Nat → Int) (i : Nat) : (chN l st i).length = i := by simp [chN]
/-- The steps of a chain. -/
def stF (gs : List Int) : Nat → Int
  | 0 => 0
  | k + 1 => stF gs k + 1 + gs.getD (k + 1) 0
theorem stF_step {gs : List Int} (h : ∀ x ∈ gs, 0 ≤ x ∧ x < 256) (k : Nat) : stF gs k < stF gs (k + 1) ∧ stF gs (k + 1) ≤ stF gs k + 256 := by
  have : 0 ≤ gs.getD (k + 1) 0 ∧ gs.getD (k + 1) 0 < 256 := by
    rw [List.getD_eq_getElem?_getD]
    cases e : gs[k + 1]? with
    | none => simp
    | some x => exact h x (List.mem_of_getElem? e)
  have e : stF gs (k + 1) = stF gs k + 1 + gs.getD (k + 1) 0 := rfl
  rw [e]
  omega
theorem stF_lt {gs : List Int} (h : ∀ x ∈ gs, 0 ≤ x ∧ x < 256) : ∀ a b, a < b → stF gs a < stF gs b := by
  intro a b hab
  induction b with
  | zero => omega
  | succ b ih =>
    have h1 := stF_step h b
    rcases Nat.lt_or_ge a b with e | e
    · have := ih e; omega
    · obtain rfl : a = b := by omega
      omega
theorem stF_le {gs : List Int} (h : ∀ x ∈ gs, 0 ≤ x ∧ x < 256) : ∀ k, 0 ≤ stF gs k ∧ stF gs k ≤ 256 * k
  | 0 => by simp [stF]
  | k + 1 => by
    have h1 := stF_step h k
    have h2 := stF_le h k
    omega
theorem ch_st (l : List Pl) {st : Nat → Int} {k : Nat} (hs : st k < st (k + 1)) (hz : lat l (k + 1) ≠ none0) : stM (chN l st k, st k) (st (k + 1), [(lat l (k + 1), chF l (k + 1))]) = (chN l st (k + 1), st (k + 1)) := by
  have e : tsN (st (k + 1)) [(lat l (k + 1), chF l (k + 1))] = [⟨st (k + 1), lat l (k + 1), chF l (k + 1)⟩] := by
    unfold tsN
    rw [List.filter_cons_of_pos (by simpa using hz)]; rfl
  unfold stM
  rw [if_neg (by simp only; omega), e, chN_snoc]
  rfl
end Go.Proofs.YtiohlmccnllklaaDoor.T
namespace Go.Proofs.YtiohlmccnllklaaDoor.Q
open Go.RowKit
set_option maxRecDepth 100000
set_option linter.unusedVariables false
set_option linter.unusedSimpArgs false

theorem lat_at {l : List T.Pl} {k : Nat} {p : T.Pl} (h : l[k]? = some p) : T.lat l k = p := by
  unfold T.lat
  rw [List.getD_eq_getElem?_getD, h]; rfl
theorem lat_pi {l : List T.Pl} (h : ∀ p ∈ l, Pi p) (k : Nat) : Pi (T.lat l k) := by
  unfold T.lat
  rw [List.getD_eq_getElem?_getD]
  cases e : l[k]? with
  | none => simp [Pi, I64, T.none0]
  | some p => exact h p (List.mem_of_getElem? e)
/-- One place is told. -/
def OneO (W : World) (q : T.Pl) (e : Ending) (w' : World) : Prop :=
  ∃ g o c, e = .returned (.slice (some ⟨g, o, none⟩) 1 c) ∧ w'.cell? ⟨g, o, none⟩ = some (.int .i64 q.1) ∧ w'.cell? ⟨g, o + 1, none⟩ = some (.int .i64 q.2) ∧ Below W.heap.size W w'
theorem Roots_one {w0 : World} {S mb : Nat} {m : List T.No × Int} {W : World} (h : HsW w0 S mb m W) (hu : T.Up m.1) (hl : m.1.length ≤ 900) (hfp : ∀ n ∈ m.1, ∀ q ∈ n.fr, Pi q) (hpn : ∀ n ∈ m.1, I64 n.st)
    (hsum : T.sumF m.1 ≤ 100000) {p q : T.Pl} (hp : Pi p) {s : Int} (hs : I64 s) (hr : ∀ x, T.Root m.1 (p, s) x ↔ x = q) :
    Calls Tryd.prog 14 #[.pointer (some ⟨S, 0, none⟩), .agg #[.int .i64 p.1, .int .i64 p.2], .int .i64 s] W fun e w' => OneO W q e w' := by
  obtain ⟨V, h1, _⟩ := h.h
  refine (Roots_any h1 hu (by omega) hfp hpn (Sl := m.1.map T.No.st) (fun n hn => List.mem_map.2 ⟨n, hn, rfl⟩) (by rw [List.length_map]; omega) hsum hp hs).mono ?_
  rintro e w' ⟨v, l, rfl, hown, hris, hroot, _, hb⟩
  obtain rfl := T.ris_one hris q (fun x => (hroot x).trans (hr x))
  obtain ⟨g, o, c, x, e1, l1, _, r1⟩ := (hown.pls).at_ (show 0 < [q].length by simp)
  obtain ⟨q1, q2⟩ := rng2 r1
  simp at l1
  subst l1
  exact ⟨g, o, c, by rw [e1]; rfl, by simpa using q1, by simpa using q2, hb⟩
theorem ts_lit {w : World} {A B : Nat} {p : T.Pl} {fr : List T.Pl} (ha : Blk w A (fr.flatMap plc).toArray 33) (hb : Blk w B #[.int .i64 p.1, .int .i64 p.2, .slice (some ⟨A, 0, none⟩) fr.length fr.length] 54) (hp : Pi p) (hq : ∀ q ∈ fr, Pi q) (hl : fr.length ≤ maxLen) : TsIn w (.slice (some ⟨B, 0, none⟩) 1 1) [(p, fr)] :=
  TsIn.lit (l := [(p, fr)]) (cs := [.int .i64 p.1, .int .i64 p.2, .slice (some ⟨A, 0, none⟩) fr.length fr.length]) hb ⟨_, [], rfl, PlsIn.lit ha hl hq, rfl⟩ rfl (by simp [maxLen]) (by simpa using hp)
/-- An add of one touch whose places are laid out. -/
theorem add_lit {w0 : World} {S mb : Nat} {m : List T.No × Int} {W : World} (h : HsW w0 S mb m W) {A : Nat} {p : T.Pl} {fr : List T.Pl} (ha : Blk W A (fr.flatMap plc).toArray 33) (hp : Pi p) (hq : ∀ q ∈ fr, Pi q) {s : Int} (hs : I64 s) (hl : m.1.length ≤ 1000) (hfl : fr.length ≤ 1000) :
    Calls Tryd.prog 18 #[.pointer (some ⟨S, 0, none⟩), .int .i64 s, .slice (some ⟨W.heap.size, 0, none⟩) 1 1] (W.alloc (.cells #[.int .i64 p.1, .int .i64 p.2, .slice (some ⟨A, 0, none⟩) fr.length fr.length] 54)) fun e w' =>
      e = .returned (.int .i64 (if s < m.2 then 2 else 0)) ∧ HsW w0 S mb (T.stM m (s, [(p, fr)])) w' ∧ Kp w0 W w' := by
  have b1 := ha.alloc (.cells #[.int .i64 p.1, .int .i64 p.2, .slice (some ⟨A, 0, none⟩) fr.length fr.length] 54)
  have b2 := blk_new W #[.int .i64 p.1, .int .i64 p.2, .slice (some ⟨A, 0, none⟩) fr.length fr.length] 54
  have hb := bel1 W (.cells #[.int .i64 p.1, .int .i64 p.2, .slice (some ⟨A, 0, none⟩) fr.length fr.length] 54)
  refine (Add_W (h.below hb) (ts := [(p, fr)]) (fun W' hk => ts_lit (hk.k b1 (by decide) (by decide)) (hk.k b2 (by decide) (by decide)) hp hq (by unfold maxLen; omega)) (by simp; omega) (by simp; omega) hs).mono ?_
  rintro e w' ⟨rfl, h1, h2⟩
  exact ⟨rfl, h1, h2.b, fun hk e1 e2 => h2.k (hk.below hb) e1 e2, Nat.le_trans hb.size h2.s⟩
/-- What a chain's walk holds. -/
structure ChI (w : World) (S mb : Nat) (l : List T.Pl) (gs : List Int) (k : Nat) (W : World) : Prop where
  h : HsW w S mb (T.chN l (T.stF gs) k, T.stF gs k) W
theorem ChI.below {w : World} {S mb : Nat} {l : List T.Pl} {gs : List Int} {k : Nat} {W W' : World} (h : ChI w S mb l gs k W) (hb : Below W.heap.size W W') : ChI w S mb l gs k W' := ⟨h.h.below hb⟩
theorem ChI.add {w : World} {S mb : Nat} {l : List T.Pl} {gs : List Int} {k : Nat} {W : World} (h : ChI w S mb l gs k W) (hg : ∀ x ∈ gs, 0 ≤ x ∧ x < 256) (hk : k ≤ 20) (hp : ∀ p ∈ l, Pi p) (hz : T.lat l (k + 1) ≠ T.none0) {A : Nat} (ha : Blk W A ((T.chF l (k + 1)).flatMap plc).toArray 33) :
    Calls Tryd.prog 18 #[.pointer (some ⟨S, 0, none⟩), .int .i64 (T.stF gs (k + 1)), .slice (some ⟨W.heap.size, 0, none⟩) 1 1] (W.alloc (.cells #[.int .i64 (T.lat l (k + 1)).1, .int .i64 (T.lat l (k + 1)).2, .slice (some ⟨A, 0, none⟩) (T.chF l (k + 1)).length (T.chF l (k + 1)).length] 54)) fun e w' =>
      e = .returned (.int .i64 0) ∧ ChI w S mb l gs (k + 1) w' := by
  have h1 := T.stF_step hg k
  have h2 := T.stF_le hg (k + 1)
  refine (add_lit h.h ha (lat_pi hp _) (fun q hq => ?_) (s := T.stF gs (k + 1)) ⟨by omega, by omega⟩ (by simp only [T.ch_len]; omega) (by unfold T.chF; split <;> simp)).mono ?_
  · unfold T.chF at hq
    split at hq
    · simp only [List.mem_cons, List.not_mem_nil, or_false] at hq
      rcases hq with rfl | rfl <;> exact lat_pi hp _
    · simp only [List.mem_cons, List.not_mem_nil, or_false] at hq
      subst hq; exact lat_pi hp _
  · rintro e w' ⟨rfl, h3, _⟩
    rw [if_neg (by simp only; omega)]
    rw [T.ch_st l h1.1 hz] at h3
    exact ⟨rfl, ⟨h3⟩⟩
theorem ch_fr {l : List T.Pl} (hp : ∀ p ∈ l, Pi p) {st : Nat → Int} {k : Nat} : ∀ n ∈ T.chN l st k, ∀ q ∈ n.fr, Pi q := fun n hn q hq => by
  obtain ⟨j, hj, e⟩ := List.mem_iff_getElem.1 hn
  have e1 := (T.chN_at (List.getElem?_eq_getElem hj)).2
  rw [e] at e1
  rw [e1] at hq
  unfold T.chF at hq
  simp only at hq
  split at hq
  · simp only [List.mem_cons, List.not_mem_nil, or_false] at hq
    rcases hq with rfl | rfl <;> exact lat_pi hp _
  · simp only [List.mem_cons, List.not_mem_nil, or_false] at hq
    subst hq; exact lat_pi hp _
theorem ch_sts {l : List T.Pl} {gs : List Int} (hg : ∀ x ∈ gs, 0 ≤ x ∧ x < 256) {k : Nat} (hk : k ≤ 20) : ∀ n ∈ T.chN l (T.stF gs) k, I64 n.st := fun n hn => by
  obtain ⟨j, hj, e⟩ := List.mem_iff_getElem.1 hn
  obtain ⟨h1, e1⟩ := T.chN_at (List.getElem?_eq_getElem hj)
  rw [e] at e1
  rw [e1]
  have := T.stF_le hg (j + 1)
  exact ⟨by simp only; omega, by simp only; omega⟩
theorem ChI.root {w : World} {S mb : Nat} {l : List T.Pl} {gs : List Int} {k : Nat} {W : World} (h : ChI w S mb l gs k W) (hg : ∀ x ∈ gs, 0 ≤ x ∧ x < 256) (h0 : 0 < k) (hk : k ≤ 20) (hp : ∀ p ∈ l, Pi p) (hn : ∀ a b, a < b → b < l.length → T.lat l a ≠ T.lat l b) (hi : k < l.length) :
    (Calls Tryd.prog 14 #[.pointer (some ⟨S, 0, none⟩), .agg #[.int .i64 (T.lat l k).1, .int .i64 (T.lat l k).2], .int .i64 (T.stF gs k + 1)] W fun e w' => OneO W (T.lat l 0) e w') ∧
    (Calls Tryd.prog 14 #[.pointer (some ⟨S, 0, none⟩), .agg #[.int .i64 (T.lat l k).1, .int .i64 (T.lat l k).2], .int .i64 (T.stF gs k)] W fun e w' => OneO W (T.lat l k) e w') := by
  have h1 := T.stF_le hg k
  have h2 := T.ch_sum l (T.stF gs) k
  have hu := T.chN_up (l := l) (st := T.stF gs) (by simp [T.stF]) (T.stF_lt hg) k
  exact ⟨Roots_one h.h hu (by simp only [T.ch_len]; omega) (ch_fr hp) (ch_sts hg hk) (by simp only; omega) (lat_pi hp _) ⟨by omega, by omega⟩ (fun x => T.ch_root hn hi (T.stF_lt hg) x h0),
    Roots_one h.h hu (by simp only [T.ch_len]; omega) (ch_fr hp) (ch_sts hg hk) (by simp only; omega) (lat_pi hp _) ⟨by omega, by omega⟩ (fun x => T.ch_self hn hi x h0)⟩
end Go.Proofs.YtiohlmccnllklaaDoor.Q

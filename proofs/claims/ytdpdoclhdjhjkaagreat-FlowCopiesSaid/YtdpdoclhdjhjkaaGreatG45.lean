/-
  Layer 12, pure: what a call leaves where it is refused. No program. Layer 12, pure: what a label left out changes. No program.
-/
import Derived.Test.YtdpdoclhdjhjkaaGreatG24
set_option linter.unusedVariables false
set_option linter.unusedSimpArgs false
namespace Go.Proofs.YtdpdoclhdjhjkaaGreat
open Go.RowKit
set_option linter.unusedVariables false

/-- The error of a call. -/
def stepE (f : T.Fl) (a : Ac) : Int := if a.k = 1 then (f.mark a.p a.n a.s).2 else (f.apply a.ts).2
theorem keep_err {mo : Int} {ss : List Int} (h : L2.Sets mo ss) {x : Int} (hx : 0 ≤ x ∧ x < 65536) (he : (T.keep mo ss x).2 ≠ 0) : T.keep mo ss x = (ss, 120) ∧ (ss.length : Int) = mo := by
  unfold T.keep at he ⊢
  have h1 := L2.keepR_err (most := mo) (ss := ss) ⟨hx.1, hx.2⟩ he
  refine ⟨by rw [h1], ?_⟩
  have hl := h.len
  by_cases hm : x ∈ ss
  · rw [L2.keepR_old hx.2 hm] at h1; simp at h1
  · by_cases hf : mo ≤ (ss.length : Int)
    · omega
    · rw [L2.keepR_new hx.2 hm (by omega)] at h1; simp at h1
theorem keep_sets {mo : Int} {ss : List Int} (h : L2.Sets mo ss) {x : Int} (hx : 0 ≤ x) : L2.Sets mo (T.keep mo ss x).1 := h.keep hx
theorem keeps_err {mo : Int} {l : List T.Pr} (hl : T.Small l) : ∀ (ts : List T.Tc) {ss : List Int}, L2.Sets mo ss → (T.keeps mo l ss ts).2 ≠ 0 → (T.keeps mo l ss ts).2 = 120 ∧ ((T.keeps mo l ss ts).1.length : Int) = mo
  | [], ss, _, h => absurd rfl h
  | t :: r, ss, hs, h => by
    unfold T.keeps at h ⊢
    by_cases e : t.1 = T.none0
    · rw [if_pos e] at h ⊢
      exact keeps_err hl r hs h
    · rw [if_neg e] at h ⊢
      have hb := hl.tog (s := 0) (by omega) t.2
      by_cases k0 : (T.keep mo ss (T.tog l 0 t.2)).2 = 0
      · simp only [if_pos k0] at h ⊢
        exact keeps_err hl r (keep_sets hs hb.1) h
      · simp only [if_neg k0] at h ⊢
        obtain ⟨h1, h2⟩ := keep_err hs hb k0
        rw [h1]
        exact ⟨rfl, h2⟩
/-- Where a call is refused: for sets that are full there are as many as may be, and no place has another set; else nothing is another. -/
theorem step_err {f : T.Fl} (h : FOk f) (a : Ac) (ha : a.Ok) (he : stepE f a ≠ 0) : (stepE f a = 120 ∧ ((stepS f a).ss.length : Int) = f.mo ∧ (stepS f a).ps = f.ps) ∨ (stepE f a ≠ 120 ∧ stepS f a = f) := by
  unfold stepE stepS at *
  by_cases hk : a.k = 1
  · simp only [if_pos hk] at he ⊢
    unfold T.Fl.mark at he ⊢
    by_cases c1 : T.may f.fr f.se a.p = false ∨ 65536 ≤ a.s
    · simp only [if_pos c1] at he ⊢
      exact .inr ⟨by decide, trivial⟩
    · simp only [if_neg c1] at he ⊢
      by_cases c2 : a.n < 0 ∨ 65536 < a.n ∨ (0 < a.n ∧ T.may f.fr f.se (a.p.1, a.p.2 + a.n - 1) = false)
      · simp only [if_pos c2] at he ⊢
        exact .inr ⟨by decide, trivial⟩
      · simp only [if_neg c2] at he ⊢
        by_cases c3 : (T.keep f.mo f.ss a.s).2 = 0
        · simp only [if_pos c3] at he; exact absurd rfl he
        · simp only [if_neg c3] at he ⊢
          have hx := ha.s
          obtain ⟨h1, h2⟩ := keep_err h.sets (x := a.s) ⟨hx.1, by omega⟩ c3
          exact .inl ⟨by rw [h1], h2, trivial⟩
  · simp only [if_neg hk] at he ⊢
    unfold T.Fl.apply at he ⊢
    by_cases c1 : T.mayAll f.fr f.se a.ts = false
    · simp only [if_pos c1] at he ⊢
      exact .inr ⟨by decide, trivial⟩
    · simp only [if_neg c1] at he ⊢
      by_cases c3 : (T.keeps f.mo f.ps f.ss a.ts).2 = 0
      · simp only [if_pos c3] at he; exact absurd rfl he
      · simp only [if_neg c3] at he ⊢
        obtain ⟨h1, h2⟩ := keeps_err h.small a.ts h.sets c3
        exact .inl ⟨h1, h2, trivial⟩
end Go.Proofs.YtdpdoclhdjhjkaaGreat
namespace Go.Proofs.YtdpdoclhdjhjkaaGreat
open Go.RowKit
set_option linter.unusedVariables false

/-- A set without a label. -/
def clr (l : Nat) (x : Int) : Int := ((x.toNat &&& (4294967295 ^^^ 2 ^ l) : Nat) : Int)
theorem clr_zero (l : Nat) : clr l 0 = 0 := by simp [clr]
theorem clr_or (l : Nat) (a b : Int) : clr l (L2.orI a b) = L2.orI (clr l a) (clr l b) := by
  unfold clr L2.orI
  simp only [Int.toNat_natCast]
  rw [Nat.and_or_distrib_right]
theorem clr_bd (l : Nat) {x : Int} (h : 0 ≤ x ∧ x < 65536) : 0 ≤ clr l x ∧ clr l x < 65536 := by
  unfold clr
  have := Nat.and_le_left (n := x.toNat) (m := 4294967295 ^^^ 2 ^ l)
  omega
/-- Two lists of pairs: in the second a label is left out. -/
def Ls (l : Nat) (ps qs : List T.Pr) : Prop := ∀ p, T.get qs p = clr l (T.get ps p)
theorem ls_nil (l : Nat) : Ls l [] [] := fun p => by simp [clr_zero]
theorem Ls.tog {l : Nat} {ps qs : List T.Pr} (h : Ls l ps qs) (s : Int) (r : List T.Pl) : T.tog qs (clr l s) r = clr l (T.tog ps s r) := by
  induction r generalizing s with
  | nil => rfl
  | cons p r ih =>
    rw [T.tog, T.tog, h p, ← ih, clr_or]
theorem Ls.tog0 {l : Nat} {ps qs : List T.Pr} (h : Ls l ps qs) (r : List T.Pl) : T.tog qs 0 r = clr l (T.tog ps 0 r) := by
  have := h.tog 0 r
  rwa [clr_zero] at this
theorem Ls.marks {l : Nat} {ps qs : List T.Pr} (h : Ls l ps qs) (hp : T.Ris ps) (hq : T.Ris qs) (p : T.Pl) (s : Int) (n : Nat) : Ls l (T.marks p s n ps) (T.marks p (clr l s) n qs) := fun q => by
  rw [T.marks_get hq, T.marks_get hp]
  split
  · rfl
  · exact h q
theorem Ls.put {l : Nat} {ps qs : List T.Pr} (h : Ls l ps qs) (hp : T.Ris ps) (hq : T.Ris qs) (p : T.Pl) (s : Int) : Ls l (T.put ps p s) (T.put qs p (clr l s)) := fun q => by
  rw [hq.get_put, hp.get_put]
  split
  · rfl
  · exact h q
theorem Ls.lays {l : Nat} {ps qs : List T.Pr} (h : Ls l ps qs) (ts : List T.Tc) {o u : List T.Pr} (ho : Ls l o u) (hp : T.Ris o) (hq : T.Ris u) : Ls l (T.lays ps o ts) (T.lays qs u ts) := by
  induction ts generalizing o u with
  | nil => exact ho
  | cons t r ih =>
    rw [T.lays, T.lays]
    by_cases e : t.1 = T.none0
    · rw [if_pos e, if_pos e]; exact ih ho hp hq
    · rw [if_neg e, if_neg e, h.tog0]
      exact ih (ho.put hp hq _ _) (hp.put _ _) (hq.put _ _)
/-- Where there is room each set is kept. -/
theorem keep_room {mo : Int} {ss : List Int} (h : (ss.length : Int) < mo) {x : Int} (hx : x < 65536) : (T.keep mo ss x).2 = 0 ∧ ((T.keep mo ss x).1).length ≤ ss.length + 1 := by
  unfold T.keep
  by_cases hm : x ∈ ss
  · rw [L2.keepR_old hx hm]; exact ⟨rfl, by simp⟩
  · rw [L2.keepR_new hx hm h]; exact ⟨rfl, by simp⟩
theorem keeps_room {mo : Int} {l : List T.Pr} (hl : T.Small l) : ∀ (ts : List T.Tc) {ss : List Int}, (ss.length : Int) + ts.length ≤ mo → (T.keeps mo l ss ts).2 = 0 ∧ ((T.keeps mo l ss ts).1).length ≤ ss.length + ts.length
  | [], ss, _ => ⟨rfl, by simp [T.keeps]⟩
  | t :: r, ss, h => by
    simp only [List.length_cons] at h ⊢
    unfold T.keeps
    by_cases e : t.1 = T.none0
    · rw [if_pos e]
      have := keeps_room (mo := mo) hl r (ss := ss) (by omega)
      exact ⟨this.1, by omega⟩
    · rw [if_neg e]
      have hb := hl.tog (s := 0) (by omega) t.2
      obtain ⟨k0, k1⟩ := keep_room (mo := mo) (ss := ss) (by omega) hb.2
      simp only [if_pos k0]
      have := keeps_room (mo := mo) hl r (ss := (T.keep mo ss (T.tog l 0 t.2)).1) (by omega)
      exact ⟨this.1, by omega⟩
/-- The same call with the label left out. -/
def lessA (l : Nat) (a : Ac) : Ac := { a with s := clr l a.s }
/-- Two flows: in the second a label is left out. -/
structure Lf (l : Nat) (f g : T.Fl) : Prop where
  fr : g.fr = f.fr
  se : g.se = f.se
  ls : Ls l f.ps g.ps
theorem clr_big (l : Nat) (hl : l < 16) {x : Int} (h : W32 x) : 65536 ≤ clr l x ↔ 65536 ≤ x := by
  obtain ⟨h0, h1⟩ := h
  obtain ⟨n, rfl⟩ : ∃ n : Nat, x = n := ⟨x.toNat, by omega⟩
  unfold clr
  rw [Int.toNat_natCast]
  have hm : (4294967295 ^^^ 2 ^ l) / 65536 = 65535 := by
    have : ∀ k : Fin 16, (4294967295 ^^^ 2 ^ k.val) / 65536 = 65535 := by decide
    exact this ⟨l, hl⟩
  have e : (n &&& (4294967295 ^^^ 2 ^ l)) / 65536 = n / 65536 := by
    have h3 : (n &&& (4294967295 ^^^ 2 ^ l)) >>> 16 = (n >>> 16) &&& ((4294967295 ^^^ 2 ^ l) >>> 16) := Nat.shiftRight_and_distrib
    rw [Nat.shiftRight_eq_div_pow, Nat.shiftRight_eq_div_pow, Nat.shiftRight_eq_div_pow] at h3
    rw [show (65536 : Nat) = 2 ^ 16 from rfl, h3, show (2 : Nat) ^ 16 = 65536 from rfl, hm, show (65535 : Nat) = 2 ^ 16 - 1 from rfl, Nat.and_two_pow_sub_one_eq_mod]
    omega
  omega
theorem less_step {l : Nat} (hl : l < 16) {f g : T.Fl} (hf : FOk f) (hg : FOk g) (h : Lf l f g) (a : Ac) (ha : a.Ok) (h1 : (f.ss.length : Int) + a.ts.length < f.mo) (h2 : (g.ss.length : Int) + a.ts.length < g.mo) :
    stepE g (lessA l a) = stepE f a ∧ Lf l (stepS f a) (stepS g (lessA l a)) ∧ (stepS f a).ss.length ≤ f.ss.length + a.ts.length + 1 ∧ (stepS g (lessA l a)).ss.length ≤ g.ss.length + a.ts.length + 1 := by
  unfold stepE stepS
  by_cases hk : a.k = 1
  · have hk2 : (lessA l a).k = 1 := hk
    simp only [if_pos hk, if_pos hk2]
    simp only [lessA]
    unfold T.Fl.mark
    rw [h.fr, h.se]
    have hb := clr_big l hl ha.s
    by_cases c1 : T.may f.fr f.se a.p = false ∨ 65536 ≤ a.s
    · have c1' : T.may f.fr f.se a.p = false ∨ 65536 ≤ clr l a.s := by rw [hb]; exact c1
      simp only [if_pos c1, if_pos c1']
      exact ⟨trivial, h, by omega, by omega⟩
    · have c1' : ¬ (T.may f.fr f.se a.p = false ∨ 65536 ≤ clr l a.s) := by rw [hb]; exact c1
      simp only [if_neg c1, if_neg c1']
      by_cases c2 : a.n < 0 ∨ 65536 < a.n ∨ (0 < a.n ∧ T.may f.fr f.se (a.p.1, a.p.2 + a.n - 1) = false)
      · simp only [if_pos c2]
        exact ⟨trivial, h, by omega, by omega⟩
      · simp only [if_neg c2]
        obtain ⟨k0, k1⟩ := keep_room (mo := f.mo) (ss := f.ss) (by omega) (x := a.s) (by omega)
        obtain ⟨m0, m1⟩ := keep_room (mo := g.mo) (ss := g.ss) (by omega) (x := clr l a.s) (by omega)
        simp only [if_pos k0, if_pos m0]
        exact ⟨trivial, ⟨rfl, rfl, h.ls.marks hf.ris hg.ris _ _ _⟩, by omega, by omega⟩
  · have hk2 : ¬ (lessA l a).k = 1 := hk
    simp only [if_neg hk, if_neg hk2]
    simp only [lessA]
    unfold T.Fl.apply
    rw [h.fr, h.se]
    by_cases c1 : T.mayAll f.fr f.se a.ts = false
    · simp only [if_pos c1]
      exact ⟨trivial, h, by omega, by omega⟩
    · simp only [if_neg c1]
      obtain ⟨k0, k1⟩ := keeps_room (mo := f.mo) hf.small a.ts (ss := f.ss) (by omega)
      obtain ⟨m0, m1⟩ := keeps_room (mo := g.mo) hg.small a.ts (ss := g.ss) (by omega)
      simp only [if_pos k0, if_pos m0]
      exact ⟨trivial, ⟨rfl, rfl, h.ls.lays a.ts h.ls hf.ris hg.ris⟩, by omega, by omega⟩
end Go.Proofs.YtdpdoclhdjhjkaaGreat

/-
  Layer 14: plain lists: notes, a place's last note ahead of a step, where a place came from. No program. Layer 14: plain lists: notes that adds make; a chain of notes. No program.
-/
import Derived.Test.YtiohlmccnllklaaGreatDoorH01
set_option linter.unusedVariables false
set_option linter.unusedSimpArgs false
namespace Go.Proofs.YtiohlmccnllklaaGreatDoor.T
set_option linter.unusedVariables false

/-- A note: its step, its place, whence. -/
structure No where
  st : Int
  pl : Pl
  fr : List Pl
abbrev Pt := Pl × Int

def ofP (ns : List No) (p : Pl) : List No := ns.filter fun n => decide (n.pl = p)
def bef (s : Int) (n : No) : Bool := decide (n.st < s)
def lastN (ns : List No) (p : Pl) (s : Int) : Option No := ((ofP ns p).filter (bef s)).getLast?
/-- Steps never get less, none is below 0. -/
def Up (ns : List No) : Prop := ns.Pairwise (fun a b => a.st ≤ b.st) ∧ ∀ n ∈ ns, 0 ≤ n.st

theorem Up.of {ns : List No} (h : Up ns) (p : Pl) : Up (ofP ns p) := ⟨h.1.filter _, fun n hn => h.2 n (List.mem_filter.1 hn).1⟩
theorem filter_take : ∀ {l : List No}, l.Pairwise (fun a b => a.st ≤ b.st) → ∀ s, l.filter (bef s) = l.take (l.filter (bef s)).length
  | [], _, s => rfl
  | x :: r, h, s => by
    have hr := List.pairwise_cons.1 h
    by_cases e : bef s x = true
    · rw [List.filter_cons_of_pos e, List.length_cons, List.take_succ_cons, ← filter_take hr.2 s]
    · have : r.filter (bef s) = [] := List.filter_eq_nil_iff.2 fun y hy => by
        have := hr.1 y hy
        simp only [bef, decide_eq_true_eq] at *
        omega
      rw [List.filter_cons_of_neg e, this]; rfl
/-- How many notes there are ahead of a step. -/
def cnt (l : List No) (s : Int) : Nat := (l.filter (bef s)).length
theorem cnt_le (l : List No) (s : Int) : cnt l s ≤ l.length := List.length_filter_le _ _
theorem last_cnt {l : List No} (h : l.Pairwise (fun a b => a.st ≤ b.st)) (s : Int) : (l.filter (bef s)).getLast? = if cnt l s = 0 then none else l[cnt l s - 1]? := by
  rw [List.getLast?_eq_getElem?]
  have e := filter_take h s
  by_cases e0 : cnt l s = 0
  · rw [if_pos e0]
    unfold cnt at e0
    rw [List.length_eq_zero_iff.1 e0]; rfl
  · rw [if_neg e0]
    unfold cnt at *
    conv => lhs; rw [e]
    rw [List.getElem?_take, List.length_take, if_pos (by have := List.length_filter_le (bef s) l; omega)]
    congr 1
    have := List.length_filter_le (bef s) l
    omega
/-- The place of the first that is not ahead: all below it are, none from it on is. -/
theorem cnt_at {l : List No} (h : l.Pairwise (fun a b => a.st ≤ b.st)) (s : Int) {i : Nat} {n : No} (hi : l[i]? = some n) : n.st < s ↔ i < cnt l s := by
  have e := filter_take h s
  have hl := (List.getElem?_eq_some_iff.1 hi).1
  constructor
  · intro hn
    -- all of the first i + 1 are ahead
    have hall : ∀ j, j ≤ i → ∀ m, l[j]? = some m → m.st < s := by
      intro j hj m hm
      rcases Nat.lt_or_ge j i with hlt | hge
      · have := List.pairwise_iff_getElem.1 h j i (by omega) hl hlt
        rw [List.getElem?_eq_some_iff] at hi hm
        obtain ⟨_, rfl⟩ := hi
        obtain ⟨_, rfl⟩ := hm
        omega
      · obtain rfl : j = i := by omega
        rw [hi] at hm; cases hm; exact hn
    have h2 : (l.take (i + 1)).filter (bef s) = l.take (i + 1) := List.filter_eq_self.2 fun m hm => by
      obtain ⟨j, hj, e2⟩ := List.mem_iff_getElem.1 hm
      rw [List.length_take] at hj
      rw [List.getElem_take] at e2
      simp only [bef, decide_eq_true_eq]
      exact hall j (by omega) m (by rw [List.getElem?_eq_getElem (by omega), e2])
    have h3 : (l.take (i + 1)).length ≤ cnt l s := by
      unfold cnt
      conv => rhs; rw [← List.take_append_drop (i + 1) l, List.filter_append, List.length_append, h2]
      omega
    rw [List.length_take] at h3
    omega
  · intro hc
    have hm : n ∈ l.filter (bef s) := by
      rw [e]
      have : (l.take (l.filter (bef s)).length)[i]? = some n := by rw [List.getElem?_take]; unfold cnt at hc; rw [if_pos hc, hi]
      exact List.mem_of_getElem? this
    have := (List.mem_filter.1 hm).2
    simpa [bef] using this

theorem lastN_mem {ns : List No} {p : Pl} {s : Int} {n : No} (h : lastN ns p s = some n) : n ∈ ns ∧ n.pl = p ∧ n.st < s := by
  have h1 := List.mem_of_getLast? h
  have h2 := List.mem_filter.1 h1
  have h3 := List.mem_filter.1 h2.1
  exact ⟨h3.1, by simpa using h3.2, by simpa [bef] using h2.2⟩
/-- The last note is found again, from just behind it on. -/
theorem lastN_again {ns : List No} (hu : Up ns) {p : Pl} {s : Int} {n : No} (h : lastN ns p s = some n) : lastN ns p (n.st + 1) = some n := by
  have hw := (hu.of p).1
  have e : (ofP ns p).filter (bef s) = (ofP ns p).filter (bef (n.st + 1)) := by
    apply List.filter_congr
    intro m hm
    have h1 := (lastN_mem h).2.2
    simp only [bef, decide_eq_decide]
    refine ⟨fun hs => ?_, fun hs => by omega⟩
    -- m is ahead of s, so it is no later than the last one
    have hm2 : m ∈ (ofP ns p).filter (bef s) := List.mem_filter.2 ⟨hm, by simpa [bef] using hs⟩
    have hlast : ((ofP ns p).filter (bef s)).getLast? = some n := h
    have hp := hw.filter (bef s)
    obtain ⟨ys, hys⟩ := List.getLast?_eq_some_iff.1 hlast
    rw [hys] at hm2 hp
    rcases List.mem_append.1 hm2 with hm3 | hm3
    · have := (List.pairwise_append.1 hp).2.2 m hm3 n (by simp)
      omega
    · rw [List.mem_singleton.1 hm3]; omega
  unfold lastN at *
  rw [← e]; exact h
theorem lastN_app {ns ms : List No} {p : Pl} {s S : Int} (h : ∀ m ∈ ms, S ≤ m.st) (hs : s ≤ S) : lastN (ns ++ ms) p s = lastN ns p s := by
  unfold lastN ofP
  have : (ms.filter fun n => decide (n.pl = p)).filter (bef s) = [] := List.filter_eq_nil_iff.2 fun m hm => by
    have := h m (List.mem_filter.1 hm).1
    simp only [bef, decide_eq_true_eq]
    omega
  rw [List.filter_append, List.filter_append, this, List.append_nil]
/-- Where the last one stands in all. -/
theorem lastN_at {ns : List No} {p : Pl} {s : Int} {i : Nat} {n : No} (hi : ns[i]? = some n) (h1 : n.pl = p ∧ n.st < s) (h2 : ∀ (j : Nat) (m : No), i < j → ns[j]? = some m → ¬ (m.pl = p ∧ m.st < s)) : lastN ns p s = some n := by
  unfold lastN ofP
  rw [List.filter_filter]
  have hl := (List.getElem?_eq_some_iff.1 hi).1
  have e : ns = ns.take i ++ n :: ns.drop (i + 1) := by
    have : ns[i] = n := by rw [List.getElem?_eq_getElem hl] at hi; exact Option.some.inj hi
    rw [← this]; simp
  have h3 : (ns.drop (i + 1)).filter (fun a => bef s a && decide (a.pl = p)) = [] := List.filter_eq_nil_iff.2 fun m hm => by
    obtain ⟨j, hj, e2⟩ := List.mem_iff_getElem.1 hm
    have := h2 (i + 1 + j) m (by omega) (by rw [← e2, List.getElem_drop, List.getElem?_eq_getElem])
    simp only [bef, Bool.and_eq_true, decide_eq_true_eq]
    exact fun ⟨a, b⟩ => this ⟨b, a⟩
  conv => lhs; rw [e]
  rw [List.filter_append, List.filter_cons_of_pos (by simp [bef, h1.1, h1.2]), h3]
  simp
theorem lastN_none {ns : List No} {p : Pl} {s : Int} (h : ∀ (j : Nat) (m : No), ns[j]? = some m → ¬ (m.pl = p ∧ m.st < s)) : lastN ns p s = none := by
  unfold lastN ofP
  rw [List.filter_filter]
  have : ns.filter (fun a => bef s a && decide (a.pl = p)) = [] := List.filter_eq_nil_iff.2 fun m hm => by
    obtain ⟨j, hj, e2⟩ := List.mem_iff_getElem.1 hm
    have := h j m (by rw [← e2, List.getElem?_eq_getElem])
    simp only [bef, Bool.and_eq_true, decide_eq_true_eq]
    exact fun ⟨a, b⟩ => this ⟨b, a⟩
  rw [this]; rfl

/-! ### where a place came from -/
def kids (ns : List No) (a : Pt) : List Pt := match lastN ns a.1 a.2 with | none => [] | some n => n.fr.map fun q => (q, n.st)
inductive Rch (ns : List No) (a : Pt) : Pt → Prop
  | refl : Rch ns a a
  | step {b c : Pt} : Rch ns a b → c ∈ kids ns b → Rch ns a c
theorem Rch.trans {ns : List No} {a b c : Pt} (h : Rch ns a b) (k : Rch ns b c) : Rch ns a c := by
  induction k with
  | refl => exact h
  | step _ hk ih => exact ih.step hk
def Root (ns : List No) (a : Pt) (q : Pl) : Prop := ∃ s, Rch ns a (q, s) ∧ lastN ns q s = none
/-- Strictly rising. -/
def RisP (l : List Pl) : Prop := l.Pairwise fun a b => lt a b = true
theorem RisP.ext : ∀ {l m : List Pl}, RisP l → RisP m → (∀ q, q ∈ l ↔ q ∈ m) → l = m
  | [], [], _, _, _ => rfl
  | [], y :: s, _, _, h => absurd ((h y).2 (by simp)) (by simp)
  | x :: r, [], _, _, h => absurd ((h x).1 (by simp)) (by simp)
  | x :: r, y :: s, hl, hm, h => by
    have a := List.pairwise_cons.1 hl
    have b := List.pairwise_cons.1 hm
    have hxy : x = y := by
      rcases List.mem_cons.1 ((h x).1 (by simp)) with e | e
      · exact e
      · rcases List.mem_cons.1 ((h y).2 (by simp)) with e2 | e2
        · exact e2.symm
        · have := lt_trans (a.1 y e2) (b.1 x e)
          rw [lt_irrefl] at this; cases this
    subst hxy
    rw [RisP.ext a.2 b.2 fun q => ?_]
    have nx : ∀ {t : List Pl}, (∀ z ∈ t, lt x z = true) → x ∉ t := fun ht hx => by
      have := ht x hx; rw [lt_irrefl] at this; cases this
    by_cases e : q = x
    · subst e
      exact ⟨fun hq => absurd hq (nx a.1), fun hq => absurd hq (nx b.1)⟩
    · have := h q
      simpa [e] using this
theorem nodup_len {α : Type} [DecidableEq α] : ∀ {l m : List α}, l.Nodup → (∀ x ∈ l, x ∈ m) → l.length ≤ m.length
  | [], _, _, _ => Nat.zero_le _
  | x :: r, m, h, hs => by
    have hn := List.nodup_cons.1 h
    have hx := hs x (by simp)
    have := nodup_len (m := m.erase x) hn.2 fun y hy => (List.mem_erase_of_ne (fun e => hn.1 (by rw [← e]; exact hy))).2 (hs y (by simp [hy]))
    rw [List.length_erase_of_mem hx] at this
    have hp : 0 < m.length := List.length_pos_of_mem hx
    simp only [List.length_cons]; omega

/-! ### as the program goes: what was found is told by place and note -/
def nst (ns : List No) (a : Pt) : Int := match lastN ns a.1 a.2 with | none => -1 | some n => n.st
def key (ns : List No) (a : Pt) : Pt := (a.1, nst ns a)
theorem key_none {ns : List No} (hu : Up ns) {b : Pt} {q : Pl} (h : key ns b = (q, -1)) : b.1 = q ∧ lastN ns b.1 b.2 = none := by
  unfold key nst at h
  cases e : lastN ns b.1 b.2 with
  | none => rw [e] at h; simp only [Prod.mk.injEq] at h; exact ⟨h.1, rfl⟩
  | some n =>
    rw [e] at h
    simp only [Prod.mk.injEq] at h
    have := hu.2 n (lastN_mem e).1
    omega
theorem kids_key {ns : List No} (hu : Up ns) {a b : Pt} (h : key ns a = key ns b) : kids ns a = kids ns b := by
  obtain ⟨p, s⟩ := a
  obtain ⟨q, t⟩ := b
  have hp : p = q := congrArg Prod.fst h
  subst hp
  have hs : nst ns (p, s) = nst ns (p, t) := congrArg Prod.snd h
  unfold nst at hs
  unfold kids
  dsimp only at *
  cases e1 : lastN ns p s with
  | none =>
    rw [e1] at hs
    cases e2 : lastN ns p t with
    | none => rfl
    | some n => rw [e2] at hs; have := hu.2 n (lastN_mem e2).1; simp only at hs; omega
  | some m =>
    rw [e1] at hs
    cases e2 : lastN ns p t with
    | none => rw [e2] at hs; have := hu.2 m (lastN_mem e1).1; simp only at hs; omega
    | some n =>
      rw [e2] at hs
      simp only at hs
      have a1 := lastN_again hu e1
      have a2 := lastN_again hu e2
      rw [hs, a2] at a1
      cases a1; rfl
/-- What holds of what was found and of roots, all the way. -/
structure Inv (U : List Pt) (F : List Pt) (R : List Pl) : Prop where
  nf : F.Nodup
  nr : R.Nodup
  iff : ∀ q, q ∈ R ↔ (q, -1) ∈ F
  un : ∀ k ∈ F, k ∈ U
theorem Inv.len {U F : List Pt} {R : List Pl} (h : Inv U F R) : F.length ≤ U.length ∧ R.length ≤ U.length := by
  have h1 := nodup_len h.nf h.un
  refine ⟨h1, ?_⟩
  have h2 : (R.map fun q => ((q, -1) : Pt)).Nodup := List.pairwise_map.2 (h.nr.imp fun hne e => hne (congrArg Prod.fst e))
  have := nodup_len h2 fun k hk => by
    obtain ⟨q, hq, rfl⟩ := List.mem_map.1 hk
    exact h.un _ ((h.iff q).1 hq)
  simpa using this
/-- All that may be found: A: the places that may be asked for. -/
def univ (ns : List No) (A : List Pl) : List Pt := (A.map fun q => (q, -1)) ++ ns.map fun n => (n.pl, n.st)
theorem key_univ {ns : List No} {A : List Pl} {a : Pt} (ha : a.1 ∈ A) : key ns a ∈ univ ns A := by
  unfold key nst univ
  cases e : lastN ns a.1 a.2 with
  | none => exact List.mem_append.2 (.inl (List.mem_map.2 ⟨a.1, ha, rfl⟩))
  | some n =>
    obtain ⟨h1, h2, _⟩ := lastN_mem e
    exact List.mem_append.2 (.inr (List.mem_map.2 ⟨n, h1, by rw [h2]⟩))
/-- What going back from a makes. -/
structure Dfs (ns : List No) (U : List Pt) (F : List Pt) (R : List Pl) (a : Pt) (F' : List Pt) (R' : List Pl) : Prop where
  sub : ∀ k ∈ F, k ∈ F'
  here : key ns a ∈ F'
  shut : ∀ b, key ns b ∈ F' → key ns b ∉ F → ∀ c ∈ kids ns b, key ns c ∈ F'
  rch : ∀ k ∈ F', k ∉ F → ∃ b, Rch ns a b ∧ key ns b = k
  inv : Inv U F' R'
/-- .. behind the first i of a note's places. -/
structure DfsI (ns : List No) (U : List Pt) (F1 : List Pt) (a : Pt) (cs : List Pt) (i : Nat) (F' : List Pt) (R' : List Pl) : Prop where
  sub : ∀ k ∈ F1, k ∈ F'
  here : ∀ j c, j < i → cs[j]? = some c → key ns c ∈ F'
  shut : ∀ b, key ns b ∈ F' → key ns b ∉ F1 → ∀ c ∈ kids ns b, key ns c ∈ F'
  rch : ∀ k ∈ F', k ∉ F1 → ∃ b, Rch ns a b ∧ key ns b = k
  inv : Inv U F' R'
theorem Dfs.found {ns : List No} {U F : List Pt} {R : List Pl} {a : Pt} (h : Inv U F R) (hk : key ns a ∈ F) : Dfs ns U F R a F R :=
  ⟨fun _ h => h, hk, fun _ h1 h2 => absurd h1 h2, fun _ h1 h2 => absurd h1 h2, h⟩
theorem Inv.none {U F : List Pt} {R : List Pl} {ns : List No} {a : Pt} (h : Inv U F R) (hn : lastN ns a.1 a.2 = none) (hk : key ns a ∉ F) (hU : key ns a ∈ U) : Inv U (key ns a :: F) (R ++ [a.1]) := by
  have e : key ns a = (a.1, -1) := by unfold key nst; rw [hn]
  rw [e] at hk hU ⊢
  refine ⟨List.nodup_cons.2 ⟨hk, h.nf⟩, ?_, fun q => ?_, fun k hk' => ?_⟩
  · refine List.nodup_append.2 ⟨h.nr, by simp, fun x hx y hy exy => ?_⟩
    rw [List.mem_singleton.1 hy] at exy
    subst exy
    exact hk ((h.iff _).1 hx)
  · rw [List.mem_append, h.iff, List.mem_singleton, List.mem_cons]
    constructor
    · rintro (h1 | rfl)
      · exact .inr h1
      · exact .inl rfl
    · rintro (h1 | h1)
      · exact .inr (congrArg Prod.fst h1)
      · exact .inl h1
  · rcases List.mem_cons.1 hk' with rfl | h1
    · exact hU
    · exact h.un k h1
theorem Inv.some {U F : List Pt} {R : List Pl} {ns : List No} (hu : Up ns) {a : Pt} {n : No} (h : Inv U F R) (hn : lastN ns a.1 a.2 = some n) (hk : key ns a ∉ F) (hU : key ns a ∈ U) : Inv U (key ns a :: F) R := by
  refine ⟨List.nodup_cons.2 ⟨hk, h.nf⟩, h.nr, fun q => ?_, fun k hk' => ?_⟩
  · rw [h.iff, List.mem_cons]
    constructor
    · exact .inr
    · rintro (h1 | h1)
      · have := (key_none hu h1.symm).2
        rw [hn] at this; cases this
      · exact h1
  · rcases List.mem_cons.1 hk' with rfl | h1
    · exact hU
    · exact h.un k h1
theorem Dfs.leaf {ns : List No} {U F : List Pt} {R : List Pl} {a : Pt} (h : Inv U F R) (hn : lastN ns a.1 a.2 = none) (hu : Up ns) (hk : key ns a ∉ F) (hU : key ns a ∈ U) : Dfs ns U F R a (key ns a :: F) (R ++ [a.1]) := by
  refine ⟨fun k hk' => by simp [hk'], by simp, fun b h1 h2 c hc => ?_, fun k h1 h2 => ?_, h.none hn hk hU⟩
  · rcases List.mem_cons.1 h1 with e | e
    · rw [kids_key hu e] at hc
      unfold kids at hc
      rw [hn] at hc; cases hc
    · exact absurd e h2
  · rcases List.mem_cons.1 h1 with e | e
    · exact ⟨a, .refl, e.symm⟩
    · exact absurd e h2
theorem DfsI.start {ns : List No} {U F : List Pt} {R : List Pl} {a : Pt} {n : No} (hu : Up ns) (h : Inv U F R) (hn : lastN ns a.1 a.2 = some n) (hk : key ns a ∉ F) (hU : key ns a ∈ U) : DfsI ns U (key ns a :: F) a (kids ns a) 0 (key ns a :: F) R :=
  ⟨fun _ h => h, fun j c h => absurd h (Nat.not_lt_zero _), fun b h1 h2 => absurd h1 h2, fun k h1 h2 => absurd h1 h2, h.some hu hn hk hU⟩
theorem DfsI.step {ns : List No} {U F1 : List Pt} {a : Pt} {i : Nat} {F2 F3 : List Pt} {R2 R3 : List Pl} {c : Pt} (h : DfsI ns U F1 a (kids ns a) i F2 R2) (hc : (kids ns a)[i]? = some c) (k : Dfs ns U F2 R2 c F3 R3) : DfsI ns U F1 a (kids ns a) (i + 1) F3 R3 := by
  refine ⟨fun x hx => k.sub x (h.sub x hx), fun j d hj hd => ?_, fun b h1 h2 d hd => ?_, fun x h1 h2 => ?_, k.inv⟩
  · rcases Nat.lt_or_ge j i with hlt | hge
    · exact k.sub _ (h.here j d hlt hd)
    · obtain rfl : j = i := by omega
      rw [hc] at hd; cases hd; exact k.here
  · by_cases e : key ns b ∈ F2
    · exact k.sub _ (h.shut b e h2 d hd)
    · exact k.shut b h1 e d hd
  · by_cases e : x ∈ F2
    · exact h.rch x e h2
    · obtain ⟨b, hb, e2⟩ := k.rch x h1 e
      exact ⟨b, (Rch.refl.step (List.mem_of_getElem? hc)).trans hb, e2⟩
theorem DfsI.end_ {ns : List No} {U F : List Pt} {R : List Pl} {a : Pt} (hu : Up ns) {F2 : List Pt} {R2 : List Pl} (h : DfsI ns U (key ns a :: F) a (kids ns a) (kids ns a).length F2 R2) : Dfs ns U F R a F2 R2 := by
  refine ⟨fun k hk => h.sub k (by simp [hk]), h.sub _ (by simp), fun b h1 h2 c hc => ?_, fun k h1 h2 => ?_, h.inv⟩
  · by_cases e : key ns b = key ns a
    · rw [kids_key hu e] at hc
      obtain ⟨j, hj, e2⟩ := List.mem_iff_getElem.1 hc
      exact h.here j c hj (by rw [List.getElem?_eq_getElem hj, e2])
    · exact h.shut b h1 (by simp [e, h2]) c hc
  · by_cases e : k = key ns a
    · exact ⟨a, .refl, e.symm⟩
    · exact h.rch k h1 (by simp [e, h2])
theorem Inv.nil (U : List Pt) : Inv U [] [] := ⟨by simp, by simp, fun q => by simp, fun k hk => by cases hk⟩
theorem Dfs.roots {ns : List No} {U : List Pt} {a : Pt} {F' : List Pt} {R' : List Pl} (hu : Up ns) (h : Dfs ns U [] [] a F' R') (q : Pl) : q ∈ R' ↔ Root ns a q := by
  rw [h.inv.iff]
  constructor
  · intro hq
    obtain ⟨b, hb, e⟩ := h.rch _ hq (by simp)
    obtain ⟨e1, e2⟩ := key_none hu e
    exact ⟨b.2, by rw [← e1]; exact hb, by rw [← e1]; exact e2⟩
  · rintro ⟨s, hr, hn⟩
    have all : ∀ b, Rch ns a b → key ns b ∈ F' := fun b hb => by
      induction hb with
      | refl => exact h.here
      | step _ hk ih => exact h.shut _ ih (by simp) _ hk
    have := all _ hr
    unfold key nst at this
    rw [hn] at this; exact this

/-! ### as the document's answer goes: what is still to be looked at -/
structure Bfs (ns : List No) (a : Pt) (n : Nat) (W : List Pt) (O : List Pl) : Prop where
  fst : a ∈ W
  le : n ≤ W.length
  rch : ∀ b ∈ W, Rch ns a b
  shut : ∀ j b, j < n → W[j]? = some b → ∀ c ∈ kids ns b, c ∈ W
  ris : RisP O
  out : ∀ q, q ∈ O ↔ ∃ j b, j < n ∧ W[j]? = some b ∧ b.1 = q ∧ lastN ns b.1 b.2 = none
  nd : W.Nodup
theorem Bfs.start (ns : List No) (a : Pt) : Bfs ns a 0 [a] [] :=
  ⟨by simp, by simp, fun b hb => by rw [List.mem_singleton.1 hb]; exact .refl, fun j b h => absurd h (Nat.not_lt_zero _), List.Pairwise.nil, fun q => by
    constructor
    · intro h; cases h
    · rintro ⟨j, b, h, _⟩; exact absurd h (Nat.not_lt_zero _), by simp⟩
theorem Bfs.root {ns : List No} {a : Pt} {n : Nat} {W : List Pt} {O O' : List Pl} {b : Pt} (h : Bfs ns a n W O) (hb : W[n]? = some b) (hn : lastN ns b.1 b.2 = none) (hr : RisP O') (ho : ∀ q, q ∈ O' ↔ q ∈ O ∨ q = b.1) : Bfs ns a (n + 1) W O' := by
  have hl := (List.getElem?_eq_some_iff.1 hb).1
  refine ⟨h.fst, by omega, h.rch, fun j d hj hd c hc => ?_, hr, fun q => ?_, h.nd⟩
  · rcases Nat.lt_or_ge j n with hlt | hge
    · exact h.shut j d hlt hd c hc
    · obtain rfl : j = n := by omega
      rw [hb] at hd; cases hd
      unfold kids at hc; rw [hn] at hc; cases hc
  · rw [ho, h.out]
    constructor
    · rintro (⟨j, d, h1, h2⟩ | rfl)
      · exact ⟨j, d, by omega, h2⟩
      · exact ⟨n, b, by omega, hb, rfl, hn⟩
    · rintro ⟨j, d, h1, h2, h3, h4⟩
      rcases Nat.lt_or_ge j n with hlt | hge
      · exact .inl ⟨j, d, hlt, h2, h3, h4⟩
      · obtain rfl : j = n := by omega
        rw [hb] at h2; cases h2; exact .inr h3.symm
/-- .. while a note's places are gone through: i of them. -/
structure BfsI (ns : List No) (a : Pt) (n : Nat) (b : Pt) (i : Nat) (W : List Pt) (O : List Pl) : Prop where
  fst : a ∈ W
  at_ : W[n]? = some b
  rch : ∀ b ∈ W, Rch ns a b
  shut : ∀ j b, j < n → W[j]? = some b → ∀ c ∈ kids ns b, c ∈ W
  here : ∀ j c, j < i → (kids ns b)[j]? = some c → c ∈ W
  ris : RisP O
  out : ∀ q, q ∈ O ↔ ∃ j b, j < n ∧ W[j]? = some b ∧ b.1 = q ∧ lastN ns b.1 b.2 = none
  nd : W.Nodup
theorem Bfs.goes {ns : List No} {a : Pt} {n : Nat} {W : List Pt} {O : List Pl} {b : Pt} (h : Bfs ns a n W O) (hb : W[n]? = some b) : BfsI ns a n b 0 W O :=
  ⟨h.fst, hb, h.rch, h.shut, fun j c hj => absurd hj (Nat.not_lt_zero _), h.ris, h.out, h.nd⟩
theorem BfsI.old {ns : List No} {a : Pt} {n i : Nat} {W : List Pt} {O : List Pl} {b c : Pt} (h : BfsI ns a n b i W O) (hc : (kids ns b)[i]? = some c) (hm : c ∈ W) : BfsI ns a n b (i + 1) W O :=
  ⟨h.fst, h.at_, h.rch, h.shut, fun j d hj hd => by
    rcases Nat.lt_or_ge j i with hlt | hge
    · exact h.here j d hlt hd
    · obtain rfl : j = i := by omega
      rw [hc] at hd; cases hd; exact hm, h.ris, h.out, h.nd⟩
theorem BfsI.new {ns : List No} {a : Pt} {n i : Nat} {W : List Pt} {O : List Pl} {b c : Pt} (h : BfsI ns a n b i W O) (hc : (kids ns b)[i]? = some c) (hm : c ∉ W) : BfsI ns a n b (i + 1) (W ++ [c]) O := by
  have hl := (List.getElem?_eq_some_iff.1 h.at_).1
  have keep : ∀ j, j ≤ n → (W ++ [c])[j]? = W[j]? := fun j hj => List.getElem?_append_left (by omega)
  refine ⟨by simp [h.fst], by rw [keep n (Nat.le_refl _)]; exact h.at_, fun d hd => ?_, fun j d hj hd e he => ?_, fun j d hj hd => ?_, h.ris, fun q => ?_, ?_⟩
  · rcases List.mem_append.1 hd with hd | hd
    · exact h.rch d hd
    · rw [List.mem_singleton.1 hd]
      exact (h.rch b (List.mem_of_getElem? h.at_)).step (List.mem_of_getElem? hc)
  · rw [keep j (by omega)] at hd
    simp [h.shut j d hj hd e he]
  · rcases Nat.lt_or_ge j i with hlt | hge
    · simp [h.here j d hlt hd]
    · obtain rfl : j = i := by omega
      rw [hc] at hd; cases hd; simp
  · rw [h.out]
    constructor
    · rintro ⟨j, d, h1, h2, h3⟩; exact ⟨j, d, h1, by rw [keep j (by omega)]; exact h2, h3⟩
    · rintro ⟨j, d, h1, h2, h3⟩; exact ⟨j, d, h1, by rw [keep j (by omega)] at h2; exact h2, h3⟩
  · refine List.nodup_append.2 ⟨h.nd, by simp, fun x hx y hy exy => ?_⟩
    rw [List.mem_singleton.1 hy] at exy
    subst exy; exact hm hx
theorem BfsI.end_ {ns : List No} {a : Pt} {n : Nat} {W : List Pt} {O : List Pl} {b : Pt} {m : No} (h : BfsI ns a n b (kids ns b).length W O) (hm : lastN ns b.1 b.2 = some m) : Bfs ns a (n + 1) W O := by
  have hl := (List.getElem?_eq_some_iff.1 h.at_).1
  refine ⟨h.fst, by omega, h.rch, fun j d hj hd c hc => ?_, h.ris, fun q => ?_, h.nd⟩
  · rcases Nat.lt_or_ge j n with hlt | hge
    · exact h.shut j d hlt hd c hc
    · obtain rfl : j = n := by omega
      rw [h.at_] at hd; cases hd
      obtain ⟨k, hk, e2⟩ := List.mem_iff_getElem.1 hc
      exact h.here k c hk (by rw [List.getElem?_eq_getElem hk, e2])
  · rw [h.out]
    constructor
    · rintro ⟨j, d, h1, h2⟩; exact ⟨j, d, by omega, h2⟩
    · rintro ⟨j, d, h1, h2, h3, h4⟩
      rcases Nat.lt_or_ge j n with hlt | hge
      · exact ⟨j, d, hlt, h2, h3, h4⟩
      · obtain rfl : j = n := by omega
        rw [h.at_] at h2; cases h2
        rw [hm] at h4; cases h4
theorem Bfs.roots {ns : List No} {a : Pt} {W : List Pt} {O : List Pl} (h : Bfs ns a W.length W O) (q : Pl) : q ∈ O ↔ Root ns a q := by
  rw [h.out]
  constructor
  · rintro ⟨j, b, _, h2, h3, h4⟩
    exact ⟨b.2, by rw [← h3]; exact h.rch b (List.mem_of_getElem? h2), by rw [← h3]; exact h4⟩
  · rintro ⟨s, hr, hn⟩
    have all : ∀ b, Rch ns a b → b ∈ W := fun b hb => by
      induction hb with
      | refl => exact h.fst
      | step _ hk ih =>
        obtain ⟨j, hj, e2⟩ := List.mem_iff_getElem.1 ih
        exact h.shut j _ hj (by rw [List.getElem?_eq_getElem hj, e2]) _ hk
    obtain ⟨j, hj, e2⟩ := List.mem_iff_getElem.1 (all _ hr)
    exact ⟨j, (q, s), hj, by rw [List.getElem?_eq_getElem hj, e2], rfl, hn⟩
/-- All that may be looked at. -/
def whens (ns : List No) (a : Pt) : List Pt := a :: ns.flatMap fun n => n.fr.map fun q => (q, n.st)
theorem rch_whens {ns : List No} {a b : Pt} (h : Rch ns a b) : b ∈ whens ns a := by
  induction h with
  | refl => simp [whens]
  | @step b c _ hk ih =>
    unfold kids at hk
    cases e : lastN ns b.1 b.2 with
    | none => rw [e] at hk; cases hk
    | some n =>
      rw [e] at hk
      exact List.mem_cons_of_mem _ (List.mem_flatMap.2 ⟨n, (lastN_mem e).1, hk⟩)
/-- How many places all notes have. -/
def sumF (ns : List No) : Nat := (ns.flatMap No.fr).length
theorem whens_len (ns : List No) (a : Pt) : (whens ns a).length = sumF ns + 1 := by
  unfold whens sumF
  rw [List.length_cons]
  congr 1
  induction ns with
  | nil => rfl
  | cons n r ih => rw [List.flatMap_cons, List.flatMap_cons, List.length_append, List.length_append, ih, List.length_map]
theorem Bfs.len {ns : List No} {a : Pt} {n : Nat} {W : List Pt} {O : List Pl} (h : Bfs ns a n W O) : W.length ≤ sumF ns + 1 := by
  rw [← whens_len ns a]
  exact nodup_len h.nd fun b hb => rch_whens (h.rch b hb)
theorem BfsI.len {ns : List No} {a : Pt} {n i : Nat} {b : Pt} {W : List Pt} {O : List Pl} (h : BfsI ns a n b i W O) : W.length ≤ sumF ns + 1 := by
  rw [← whens_len ns a]
  exact nodup_len h.nd fun b hb => rch_whens (h.rch b hb)

/-! ### one place more, each once -/
structure WithI (l : List Pl) (p : Pl) (i : Nat) (put : Bool) (O : List Pl) : Prop where
  no : ∀ x ∈ l.take i, x ≠ p
  f : put = false → O = l.take i ∧ ∀ x ∈ l.take i, lt x p = true
  t : put = true → ∃ j, j < i ∧ i ≤ l.length ∧ O = l.take j ++ p :: (l.take i).drop j ∧ (∀ x ∈ l.take j, lt x p = true) ∧ ∀ x ∈ l.drop j, lt p x = true
theorem WithI.start (l : List Pl) (p : Pl) : WithI l p 0 false [] := ⟨fun x hx => by simp at hx, fun _ => ⟨rfl, fun x hx => by simp at hx⟩, fun h => by cases h⟩
theorem WithI.ahead {l : List Pl} {p : Pl} {i : Nat} {O : List Pl} {x : Pl} (hl : RisP l) (h : WithI l p i false O) (hx : l[i]? = some x) (ha : lt p x = true) : WithI l p (i + 1) true ((O ++ [p]) ++ [x]) := by
  obtain ⟨h1, h2⟩ := h.f rfl
  have hlt := (List.getElem?_eq_some_iff.1 hx).1
  have hxe : l[i] = x := by rw [List.getElem?_eq_getElem hlt] at hx; exact Option.some.inj hx
  refine ⟨fun y hy => ?_, fun h => (by cases h), fun _ => ⟨i, by omega, by omega, ?_, h2, fun y hy => ?_⟩⟩
  · rw [List.take_add_one, hx] at hy
    rcases List.mem_append.1 hy with hy | hy
    · exact h.no y hy
    · simp at hy; subst hy; exact (lt_ne ha).symm
  · rw [h1, List.take_add_one, hx, List.drop_append_of_le_length (by rw [List.length_take]; omega), List.drop_of_length_le (by rw [List.length_take]; omega)]
    simp
  · rw [List.drop_eq_getElem_cons hlt, hxe] at hy
    rcases List.mem_cons.1 hy with rfl | hy
    · exact ha
    · obtain ⟨j, hj, e⟩ := List.mem_iff_getElem.1 hy
      rw [List.getElem_drop] at e
      have := List.pairwise_iff_getElem.1 hl i (i + 1 + j) hlt (by rw [List.length_drop] at hj; omega) (by omega)
      rw [hxe, e] at this
      exact lt_trans ha this
theorem WithI.next {l : List Pl} {p : Pl} {i : Nat} {put : Bool} {O : List Pl} {x : Pl} (h : WithI l p i put O) (hx : l[i]? = some x) (hne : x ≠ p) (ha : put = false → lt p x = false) : WithI l p (i + 1) put (O ++ [x]) := by
  have hlt := (List.getElem?_eq_some_iff.1 hx).1
  refine ⟨fun y hy => ?_, fun e => ?_, fun e => ?_⟩
  · rw [List.take_add_one, hx] at hy
    rcases List.mem_append.1 hy with hy | hy
    · exact h.no y hy
    · simp at hy; subst hy; exact hne
  · obtain ⟨h1, h2⟩ := h.f e
    refine ⟨by rw [h1, List.take_add_one, hx]; rfl, fun y hy => ?_⟩
    rw [List.take_add_one, hx] at hy
    rcases List.mem_append.1 hy with hy | hy
    · exact h2 y hy
    · simp at hy; subst hy
      exact lt_tri (ha e) (fun e => hne e.symm)
  · obtain ⟨j, h1, h2, h3, h4, h5⟩ := h.t e
    refine ⟨j, by omega, by omega, ?_, h4, h5⟩
    rw [h3, List.take_add_one, hx, List.drop_append_of_le_length (by rw [List.length_take]; omega)]
    simp
theorem WithI.done_t {l : List Pl} {p : Pl} {O : List Pl} (hl : RisP l) (h : WithI l p l.length true O) : RisP O ∧ ∀ q, q ∈ O ↔ q ∈ l ∨ q = p := by
  obtain ⟨j, h1, h2, h3, h4, h5⟩ := h.t rfl
  rw [List.take_length] at h3
  have hr : RisP (l.take j ++ l.drop j) := by rw [List.take_append_drop]; exact hl
  have hp := List.pairwise_append.1 hr
  rw [h3]
  refine ⟨List.pairwise_append.2 ⟨hp.1, List.pairwise_cons.2 ⟨h5, hp.2.1⟩, fun x hx y hy => ?_⟩, fun q => ?_⟩
  · rcases List.mem_cons.1 hy with rfl | hy
    · exact h4 x hx
    · exact hp.2.2 x hx y hy
  · have : q ∈ l ↔ q ∈ l.take j ∨ q ∈ l.drop j := by
      conv => lhs; rw [← List.take_append_drop j l]
      exact List.mem_append
    rw [this, List.mem_append, List.mem_cons]
    constructor
    · rintro (h | h | h)
      · exact .inl (.inl h)
      · exact .inr h
      · exact .inl (.inr h)
    · rintro ((h | h) | h)
      · exact .inl h
      · exact .inr (.inr h)
      · exact .inr (.inl h)
theorem WithI.done_f {l : List Pl} {p : Pl} {O : List Pl} (hl : RisP l) (h : WithI l p l.length false O) : RisP (O ++ [p]) ∧ ∀ q, q ∈ O ++ [p] ↔ q ∈ l ∨ q = p := by
  obtain ⟨h1, h2⟩ := h.f rfl
  rw [List.take_length] at h1 h2
  rw [h1]
  exact ⟨List.pairwise_append.2 ⟨hl, by simp, fun x hx y hy => by rw [List.mem_singleton.1 hy]; exact h2 x hx⟩, fun q => by simp⟩
theorem WithI.len {l : List Pl} {p : Pl} {i : Nat} {put : Bool} {O : List Pl} (h : WithI l p i put O) (hi : i ≤ l.length) : O.length ≤ i + 1 := by
  cases put with
  | false => rw [(h.f rfl).1, List.length_take]; omega
  | true =>
    obtain ⟨j, h1, h2, h3, _⟩ := h.t rfl
    rw [h3, List.length_append, List.length_cons, List.length_drop, List.length_take, List.length_take]; omega

/-! ### how deep one goes back: Sl has the steps of all notes -/
def mu (Sl : List Int) (s : Int) : Nat := (Sl.filter fun t => decide (t < s)).length
theorem mu_le (Sl : List Int) (s : Int) : mu Sl s ≤ Sl.length := List.length_filter_le _ _
theorem mu_lt {Sl : List Int} {s t : Int} (ht : t ∈ Sl) (h : t < s) : mu Sl t < mu Sl s := by
  unfold mu
  induction Sl with
  | nil => cases ht
  | cons x r ih =>
    have le : (r.filter fun u => decide (u < t)).length ≤ (r.filter fun u => decide (u < s)).length := by
      have e : (r.filter fun u => decide (u < t)) = (r.filter fun u => decide (u < s)).filter fun u => decide (u < t) := by
        rw [List.filter_filter]
        apply List.filter_congr
        intro u _
        by_cases hu : u < t
        · simp [hu]; omega
        · simp [hu]
      rw [e]; exact List.length_filter_le _ _
    by_cases e : x = t
    · subst e
      rw [List.filter_cons_of_neg (by simp), List.filter_cons_of_pos (by simpa using h), List.length_cons]; omega
    · have hm : t ∈ r := by
        rcases List.mem_cons.1 ht with e2 | e2
        · exact absurd e2.symm e
        · exact e2
      have := ih hm
      by_cases hx : x < t
      · rw [List.filter_cons_of_pos (by simpa using hx), List.filter_cons_of_pos (by simp; omega), List.length_cons, List.length_cons]; omega
      · rw [List.filter_cons_of_neg (by simpa using hx)]
        by_cases hx2 : x < s
        · rw [List.filter_cons_of_pos (by simpa using hx2), List.length_cons]; omega
        · rw [List.filter_cons_of_neg (by simpa using hx2)]; exact this
/-- What is noted behind a step changes nothing of what is asked ahead of it. -/
theorem rch_ahead {ns : List No} {p : Pl} {S : Int} {b : Pt} (h : Rch ns (p, S) b) : b.2 ≤ S := by
  induction h with
  | refl => exact Int.le_refl _
  | @step b c _ hk ih =>
    unfold kids at hk
    cases e : lastN ns b.1 b.2 with
    | none => rw [e] at hk; cases hk
    | some n =>
      rw [e] at hk
      obtain ⟨q, _, rfl⟩ := List.mem_map.1 hk
      have := (lastN_mem e).2.2
      simp only; omega
theorem root_later {ns ms : List No} {p : Pl} {S : Int} (h : ∀ m ∈ ms, S ≤ m.st) (q : Pl) : Root (ns ++ ms) (p, S) q ↔ Root ns (p, S) q := by
  have kk : ∀ b : Pt, b.2 ≤ S → kids (ns ++ ms) b = kids ns b := fun b hb => by unfold kids; rw [lastN_app h hb]
  constructor
  · rintro ⟨s, hr, hn⟩
    refine ⟨s, ?_, by rw [← hn, lastN_app h (rch_ahead hr)]⟩
    clear hn
    generalize ((q, s) : Pt) = x at hr
    induction hr with
    | refl => exact .refl
    | @step b c hb hk ih => exact ih.step (by rw [← kk b (rch_ahead hb)]; exact hk)
  · rintro ⟨s, hr, hn⟩
    refine ⟨s, ?_, by rw [← hn, lastN_app h (rch_ahead hr)]⟩
    clear hn
    generalize ((q, s) : Pt) = x at hr
    induction hr with
    | refl => exact .refl
    | @step b c hb hk ih => exact ih.step (by rw [kk b (rch_ahead hb)]; exact hk)
end Go.Proofs.YtiohlmccnllklaaGreatDoor.T
namespace Go.Proofs.YtiohlmccnllklaaGreatDoor.T
set_option linter.unusedVariables false

abbrev Ad := Int × List Tc
/-- The notes of touches at a step. -/
def tsN (s : Int) (ts : List Tc) : List No := (ts.filter fun t => decide (t.1 ≠ none0)).map fun t => ⟨s, t.1, t.2⟩
def stM (m : List No × Int) (a : Ad) : List No × Int := if a.1 < m.2 then m else (m.1 ++ tsN a.1 a.2, if tsN a.1 a.2 = [] then m.2 else a.1)
def mdN (l : List Ad) : List No × Int := l.foldl stM ([], 0)
theorem mdN_snoc {l : List Ad} {k : Nat} {a : Ad} (h : l[k]? = some a) : mdN (l.take (k + 1)) = stM (mdN (l.take k)) a := by
  unfold mdN
  rw [List.take_add_one, h]
  simp [List.foldl_append]
theorem tsN_st {s : Int} {ts : List Tc} {n : No} (h : n ∈ tsN s ts) : n.st = s := by
  obtain ⟨t, _, rfl⟩ := List.mem_map.1 h
  rfl
theorem tsN_app (s : Int) (l m : List Tc) : tsN s (l ++ m) = tsN s l ++ tsN s m := by simp [tsN]
theorem tsN_snoc {s : Int} {ts : List Tc} {k : Nat} {t : Tc} (h : ts[k]? = some t) : tsN s (ts.take (k + 1)) = tsN s (ts.take k) ++ if t.1 = none0 then [] else [⟨s, t.1, t.2⟩] := by
  rw [List.take_add_one, h, tsN_app]
  congr 1
  by_cases e : t.1 = none0 <;> simp [tsN, e]
theorem tsN_len (s : Int) (ts : List Tc) : (tsN s ts).length ≤ ts.length := by
  unfold tsN
  rw [List.length_map]; exact List.length_filter_le _ _
theorem sumF_app (l m : List No) : sumF (l ++ m) = sumF l + sumF m := by simp [sumF]
theorem tsN_sum {s : Int} : ∀ {ts : List Tc} {c : Nat}, (∀ t ∈ ts, t.2.length ≤ c) → sumF (tsN s ts) ≤ ts.length * c
  | [], c, _ => by simp [tsN, sumF]
  | t :: r, c, h => by
    have ih := tsN_sum (s := s) (ts := r) (c := c) fun x hx => h x (by simp [hx])
    have e : tsN s (t :: r) = tsN s [t] ++ tsN s r := tsN_app s [t] r
    rw [e, sumF_app, List.length_cons, Nat.add_mul]
    have h1 := h t (by simp)
    have : sumF (tsN s [t]) ≤ c := by
      by_cases e : t.1 = none0 <;> simp [tsN, sumF, e, h1]
    omega
/-- What holds of notes that were added. -/
structure Good (m : List No × Int) : Prop where
  up : Up m.1
  nn : 0 ≤ m.2
  le : ∀ n ∈ m.1, n.st ≤ m.2
theorem Good.nil : Good ([], 0) := ⟨⟨by simp, fun n h => by cases h⟩, Int.le_refl _, fun n h => by cases h⟩
theorem Good.add {m : List No × Int} (h : Good m) {s : Int} (hs : m.2 ≤ s) (ts : List Tc) : Good (m.1 ++ tsN s ts, if tsN s ts = [] then m.2 else s) := by
  by_cases e : tsN s ts = []
  · rw [if_pos e, e, List.append_nil]; exact h
  · rw [if_neg e]
    refine ⟨⟨List.pairwise_append.2 ⟨h.up.1, List.pairwise_of_forall_mem_list fun a ha b hb => ?_, fun a ha b hb => ?_⟩, fun n hn => ?_⟩, ?_, fun n hn => ?_⟩
    · rw [tsN_st ha, tsN_st hb]; exact Int.le_refl _
    · rw [tsN_st hb]; have := h.le a ha; omega
    · rcases List.mem_append.1 hn with hn | hn
      · exact h.up.2 n hn
      · rw [tsN_st hn]; have := h.nn; omega
    · have := h.nn; simp only; omega
    · rcases List.mem_append.1 hn with hn | hn
      · have := h.le n hn; simp only; omega
      · rw [tsN_st hn]; exact Int.le_refl _
theorem Good.st {m : List No × Int} (h : Good m) (a : Ad) : Good (stM m a) := by
  unfold stM
  split
  · exact h
  · exact h.add (by omega) _
theorem good_md : ∀ (l : List Ad) {m : List No × Int}, Good m → Good (l.foldl stM m)
  | [], _, h => h
  | a :: r, _, h => good_md r (h.st a)
theorem mdN_good (l : List Ad) : Good (mdN l) := good_md l .nil
/-- What is noted later stands behind, and is of later adds. -/
theorem md_more : ∀ (l : List Ad) (m : List No × Int), ∃ ms, (l.foldl stM m).1 = m.1 ++ ms ∧ ∀ n ∈ ms, ∃ a ∈ l, n.st = a.1
  | [], m => ⟨[], by simp, fun n h => by cases h⟩
  | a :: r, m => by
    obtain ⟨ms, h1, h2⟩ := md_more r (stM m a)
    by_cases e : a.1 < m.2
    · have e2 : stM m a = m := by unfold stM; rw [if_pos e]
      rw [e2] at h1
      refine ⟨ms, by rw [List.foldl_cons, e2]; exact h1, fun n hn => ?_⟩
      obtain ⟨b, hb, e3⟩ := h2 n hn
      exact ⟨b, by simp [hb], e3⟩
    · have e2 : (stM m a).1 = m.1 ++ tsN a.1 a.2 := by unfold stM; rw [if_neg e]
      rw [e2] at h1
      refine ⟨tsN a.1 a.2 ++ ms, by rw [List.foldl_cons, h1, List.append_assoc], fun n hn => ?_⟩
      rcases List.mem_append.1 hn with hn | hn
      · exact ⟨a, by simp, tsN_st hn⟩
      · obtain ⟨b, hb, e3⟩ := h2 n hn
        exact ⟨b, by simp [hb], e3⟩
theorem md_steps {l : List Ad} {n : No} (h : n ∈ (mdN l).1) : n.st ∈ l.map Prod.fst := by
  obtain ⟨ms, h1, h2⟩ := md_more l ([], 0)
  have e : (mdN l).1 = ms := by unfold mdN; rw [h1]; rfl
  rw [e] at h
  obtain ⟨a, ha, e2⟩ := h2 n h
  exact List.mem_map.2 ⟨a, ha, e2.symm⟩
/-- No more than is done here. -/
def NVast (l : List Ad) : Prop := ∀ a ∈ l, a.2.length ≤ 10 ∧ ∀ t ∈ a.2, t.2.length ≤ 6
theorem md_len : ∀ (l : List Ad) (m : List No × Int), NVast l → (l.foldl stM m).1.length ≤ m.1.length + 10 * l.length ∧ sumF (l.foldl stM m).1 ≤ sumF m.1 + 60 * l.length
  | [], m, _ => by simp
  | a :: r, m, h => by
    have ih := md_len r (stM m a) fun x hx => h x (by simp [hx])
    obtain ⟨h1, h2⟩ := h a (by simp)
    have h3 := tsN_len a.1 a.2
    have h4 := tsN_sum (s := a.1) h2
    rw [List.foldl_cons, List.length_cons]
    have : (stM m a).1.length ≤ m.1.length + 10 ∧ sumF (stM m a).1 ≤ sumF m.1 + 60 := by
      unfold stM
      split
      · omega
      · simp only [List.length_append, sumF_app]; omega
    omega
theorem mdN_len {l : List Ad} (h : NVast l) : (mdN l).1.length ≤ 10 * l.length ∧ sumF (mdN l).1 ≤ 60 * l.length := by
  have := md_len l ([], 0) h
  simpa [mdN, sumF] using this
/-- Steps that never get less: what is added from a place on is no earlier than its step. -/
theorem md_cut {l : List Ad} (hl : l.Pairwise fun a b => a.1 ≤ b.1) (c : Nat) : ∃ ms, (mdN l).1 = (mdN (l.take c)).1 ++ ms ∧ ∀ n ∈ ms, ∀ a, l[c]? = some a → a.1 ≤ n.st := by
  obtain ⟨ms, h1, h2⟩ := md_more (l.drop c) (mdN (l.take c))
  refine ⟨ms, ?_, fun n hn a ha => ?_⟩
  · rw [← h1]; unfold mdN; rw [← List.foldl_append, List.take_append_drop]
  · obtain ⟨b, hb, e⟩ := h2 n hn
    rw [e]
    have hlt := (List.getElem?_eq_some_iff.1 ha).1
    have hae : l[c] = a := by rw [List.getElem?_eq_getElem hlt] at ha; exact Option.some.inj ha
    rw [List.drop_eq_getElem_cons hlt, hae] at hb
    have hp := hl.sublist (List.drop_sublist c l)
    rw [List.drop_eq_getElem_cons hlt, hae] at hp
    rcases List.mem_cons.1 hb with rfl | hb
    · exact Int.le_refl _
    · exact (List.pairwise_cons.1 hp).1 b hb

/-! ### a chain -/
def lat (l : List Pl) (j : Nat) : Pl := l.getD j none0
def chF (l : List Pl) (j : Nat) : List Pl := if j = 2 then [lat l 0, lat l 1] else [lat l (j - 1)]
/-- The notes of the first i. -/
def chN (l : List Pl) (st : Nat → Int) (i : Nat) : List No := (List.range i).map fun j => ⟨st (j + 1), lat l (j + 1), chF l (j + 1)⟩
theorem chN_snoc (l : List Pl) (st : Nat → Int) (i : Nat) : chN l st (i + 1) = chN l st i ++ [⟨st (i + 1), lat l (i + 1), chF l (i + 1)⟩] := by
  simp [chN, List.range_succ]
theorem chN_at {l : List Pl} {st : Nat → Int} {i j : Nat} {n : No} (h : (chN l st i)[j]? = some n) : j < i ∧ n = ⟨st (j + 1), lat l (j + 1), chF l (j + 1)⟩ := by
  unfold chN at h
  rw [List.getElem?_map] at h
  by_cases e : j < i
  · rw [List.getElem?_range e] at h
    exact ⟨e, (Option.some.inj h).symm⟩
  · rw [List.getElem?_eq_none (by simp; omega)] at h; cases h
theorem chN_get {l : List Pl} {st : Nat → Int} {i j : Nat} (h : j < i) : (chN l st i)[j]? = some ⟨st (j + 1), lat l (j + 1), chF l (j + 1)⟩ := by
  unfold chN
  rw [List.getElem?_map, List.getElem?_range h]; rfl
section
variable {l : List Pl} {st : Nat → Int} {i : Nat} (hn : ∀ a b, a < b → b < l.length → lat l a ≠ lat l b) (hi : i < l.length)
include hn hi
theorem ch_last {j : Nat} (h1 : 0 < j) (h2 : j ≤ i) {s : Int} (hs : st j < s) : lastN (chN l st i) (lat l j) s = some ⟨st j, lat l j, chF l j⟩ := by
  obtain ⟨k, rfl⟩ : ∃ k, j = k + 1 := ⟨j - 1, by omega⟩
  refine lastN_at (i := k) (chN_get (by omega)) ⟨rfl, hs⟩ (fun q m hq hm => ?_)
  obtain ⟨hlt, rfl⟩ := chN_at hm
  exact fun ⟨e, _⟩ => hn (k + 1) (q + 1) (by omega) (by omega) e.symm
theorem ch_last0 (s : Int) : lastN (chN l st i) (lat l 0) s = none := by
  refine lastN_none fun q m hm => ?_
  obtain ⟨hlt, rfl⟩ := chN_at hm
  exact fun ⟨e, _⟩ => hn 0 (q + 1) (by omega) (by omega) e.symm
theorem ch_early {j : Nat} (h1 : 0 < j) (h2 : j ≤ i) {s : Int} (hs : s ≤ st j) : lastN (chN l st i) (lat l j) s = none := by
  obtain ⟨k, rfl⟩ : ∃ k, j = k + 1 := ⟨j - 1, by omega⟩
  refine lastN_none fun q m hm => ?_
  obtain ⟨hlt, rfl⟩ := chN_at hm
  rintro ⟨e, e2⟩
  by_cases e3 : q = k
  · subst e3; simp only at e2; omega
  · rcases Nat.lt_or_ge q k with h | h
    · exact hn (q + 1) (k + 1) (by omega) (by omega) e
    · exact hn (k + 1) (q + 1) (by omega) (by omega) e.symm
theorem ch_kids {j : Nat} (h1 : 0 < j) (h2 : j ≤ i) {s : Int} (hs : st j < s) : kids (chN l st i) (lat l j, s) = (chF l j).map fun q => (q, st j) := by
  unfold kids
  simp only [ch_last hn hi h1 h2 hs]
variable (hst : ∀ a b, a < b → st a < st b)
include hst
theorem ch_down {j : Nat} (h2 : j ≤ i) {s : Int} (hs : j = 0 ∨ st j < s) {b : Pt} (h : Rch (chN l st i) (lat l j, s) b) : ∃ k, k ≤ i ∧ b.1 = lat l k ∧ (k = 0 ∨ st k < b.2) := by
  induction h with
  | refl => exact ⟨j, h2, rfl, hs⟩
  | @step b c _ hk ih =>
    obtain ⟨k, h3, h4, h5⟩ := ih
    obtain ⟨b1, b2⟩ := b
    simp only at h4 h5
    subst h4
    by_cases e0 : k = 0
    · subst e0
      unfold kids at hk
      simp only [ch_last0 hn hi] at hk
      cases hk
    · have hs' : st k < b2 := by rcases h5 with e | e; exact absurd e e0; exact e
      rw [ch_kids hn hi (by omega) h3 hs'] at hk
      obtain ⟨q, hq, rfl⟩ := List.mem_map.1 hk
      unfold chF at hq
      split at hq
      · rename_i e2
        subst e2
        simp only [List.mem_cons, List.not_mem_nil, or_false] at hq
        rcases hq with rfl | rfl
        · exact ⟨0, by omega, rfl, .inl rfl⟩
        · exact ⟨1, by omega, rfl, .inr (hst 1 2 (by omega))⟩
      · simp only [List.mem_cons, List.not_mem_nil, or_false] at hq
        subst hq
        exact ⟨k - 1, by omega, rfl, .inr (hst _ _ (by omega))⟩
theorem ch_up : ∀ (j : Nat), j ≤ i → ∀ s, (j = 0 ∨ st j < s) → ∃ t, Rch (chN l st i) (lat l j, s) (lat l 0, t)
  | 0, _, s, _ => ⟨s, .refl⟩
  | j + 1, h2, s, hs => by
    have hs' : st (j + 1) < s := by rcases hs with e | e; exact absurd e (by omega); exact e
    have hk := ch_kids hn hi (by omega) h2 hs'
    by_cases e2 : j + 1 = 2
    · exact ⟨st (j + 1), Rch.refl.step (by rw [hk]; unfold chF; rw [if_pos e2]; simp)⟩
    · obtain ⟨t, ht⟩ := ch_up j (by omega) (st (j + 1)) (.inr (hst _ _ (by omega)))
      exact ⟨t, (Rch.refl.step (by rw [hk]; unfold chF; rw [if_neg e2]; simp)).trans ht⟩
theorem ch_root (q : Pl) (h0 : 0 < i) : Root (chN l st i) (lat l i, st i + 1) q ↔ q = lat l 0 := by
  constructor
  · rintro ⟨s, hr, hl⟩
    obtain ⟨k, h3, h4, h5⟩ := ch_down hn hi hst (Nat.le_refl _) (.inr (by omega)) hr
    simp only at h4 h5
    by_cases e : k = 0
    · rw [h4, e]
    · rcases h5 with h5 | h5
      · exact absurd h5 e
      · rw [h4, ch_last hn hi (by omega) h3 h5] at hl
        cases hl
  · rintro rfl
    obtain ⟨t, ht⟩ := ch_up hn hi hst i (Nat.le_refl _) (st i + 1) (.inr (by omega))
    exact ⟨t, ht, ch_last0 hn hi t⟩
omit hst in
theorem ch_self (q : Pl) (h0 : 0 < i) : Root (chN l st i) (lat l i, st i) q ↔ q = lat l i := by
  have hl := ch_early (st := st) hn hi h0 (Nat.le_refl _) (Int.le_refl _)
  constructor
  · rintro ⟨s, hr, _⟩
    have : ∀ b, Rch (chN l st i) (lat l i, st i) b → b = (lat l i, st i) := fun b hb => by
      induction hb with
      | refl => rfl
      | step _ hk ih =>
        subst ih
        unfold kids at hk
        simp only [hl] at hk
        cases hk
    exact congrArg Prod.fst (this _ hr)
  · rintro rfl
    exact ⟨st i, .refl, hl⟩
end
theorem ris_one {O : List Pl} (h : RisP O) (q : Pl) (hq : ∀ x, x ∈ O ↔ x = q) : O = [q] := h.ext (m := [q]) (by simp [RisP]) fun x => by rw [hq]; simp
theorem chN_up {l : List Pl} {st : Nat → Int} (h0 : 0 ≤ st 0) (hst : ∀ a b, a < b → st a < st b) (i : Nat) : Up (chN l st i) := by
  refine ⟨List.pairwise_iff_getElem.2 fun a b ha hb hab => ?_, fun n hm => ?_⟩
  · have e1 := (chN_at (List.getElem?_eq_getElem ha)).2
    have e2 := (chN_at (List.getElem?_eq_getElem hb)).2
    rw [e1, e2]
    have := hst (a + 1) (b + 1) (by omega)
    simp only; omega
  · obtain ⟨j, hj, e⟩ := List.mem_iff_getElem.1 hm
    have e1 := (chN_at (List.getElem?_eq_getElem hj)).2
    rw [← e, e1]
    have := hst 0 (j + 1) (by omega)
    simp only; omega
end Go.Proofs.YtiohlmccnllklaaGreatDoor.T

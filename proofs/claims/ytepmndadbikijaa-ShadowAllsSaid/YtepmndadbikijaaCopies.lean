/-
  Layer 3: the walk of ShadowCopies.
-/
import Derived.Test.YtepmndadbikijaaLaws2
import Derived.Test.YtepmndadbikijaaOverF
namespace Go.Proofs.Ytepmndadbikijaa
open Go.RowKit Go.Shelf
set_option maxHeartbeats 1000000
set_option linter.unusedSimpArgs false
attribute [local go_sem] Oper.semAt_some

/-- A loop that is left by a break: one text for what follows. -/
theorem wp_over_b {α : Type} {P : Program} {n id : Nat} {g : Operand} {ps : Array Tmp} {assign body : Code} {Q : Exit → Act → World → Prop} {a : Act} {w : World}
    {gf : Nat} {lb : Array Value} (hg : a.eval g = .func (.func gf) #[] lb) (eg : ∀ args w, (callFunc gf args).run P w = .ok (.enter gf args) w)
    {encs : α → Array Value} {M : Nat → Prop} {full : List α} (hseq : Gives P gf lb encs M full w)
    (hM : ∀ k, M k → k < w.heap.size) (hps : ∀ x, (encs x).size = ps.size)
    (I : List α → World → Prop) (Ix : Code → List α → World → Prop) (hI : OwnFrom w.heap.size I) (hIx : ∀ c, OwnFrom w.heap.size (Ix c)) (h0 : I [] w) (fa : Array Value → α → Array Value)
    (hassign : ∀ (l m : Nat) (x : α) (W : World) (K : Act → World → Prop), K { tmps := fa a.tmps x, defers := [] } W →
      assign.wpIn (Fence.wide.inRound l) m P (Exit.then K (fun _ _ _ => False)) { tmps := (ps.zip (encs x)).foldl (fun t (p, v) => t.setIfInBounds p v) a.tmps, defers := [] } W)
    (hbody : ∀ (l m : Nat) (pre : List α) (x : α) (rest : List α) (W : World), full = pre ++ x :: rest → I pre W → body.wpIn (Fence.wide.inRound l) m P (RoundP M I Ix (pre ++ [x]) W) { tmps := fa a.tmps x, defers := [] } W)
    (hbr : ∀ a w, Q .normal a w → Q (.exit id) a w) (hid : ∀ c pre W, Ix c pre W → c = .exit id)
    (hrest : ∀ (D : Nat) (W : World), w.heap.size ≤ D → (I full W ∨ ∃ c pre rest, full = pre ++ rest ∧ Ix c pre W) → W.heap[D]? = some (.deferred (some [])) → Q .normal { a with defers := { target := .collected D, args := #[] } :: a.defers } W) :
    (Code.rangeFunc g ps assign body).wpIn Fence.wide n P Q a w :=
  wp_over_f hg eg hseq hM hps I Ix hI hIx h0 fa hassign hbody (fun D W hD hI hK => hrest D W hD (.inl hI) hK)
    (fun D c pre rest W hD hf hx hK => by obtain rfl := hid c pre W hx; exact wpIn_exit (hbr _ _ (hrest D W hD (.inr ⟨_, pre, rest, hf, hx⟩) hK)))
/-- An operation of a drawn region is taken first, its slot named. -/
theorem take_d {P : Program} {md : Region.Mode} {ops : Array Oper} {Q : Exit → Act → World → Prop} {S : World → Prop} {i : Nat} {oi : Oper} {d : Option Tmp} {v : Value} {fuel : Nat} {listed : Array Bool} {a : Act} {w : World} (hi : ops[i]? = some oi) (hd : oi.dst = d)
    (hs : Region.noSelect ops = true) (hf : Region.free md ops listed i = true) (hr : (Region.ready md ops listed).contains i = true)
    (hQ : ∀ c a w, Q (.panic c) (a.put oi.dst v) w → Q (.panic c) a w) (hy : YieldsIf P ops S oi v a) (hS : S w)
    (h : wpAnyH P md ops Q S fuel (listed.setIfInBounds i true) (a.put d v) w) : wpAnyH P md ops Q S (fuel + 1) listed a w := by
  subst hd
  exact wpAnyH_take hi hs hf hr hQ hy hS h
/-- What lies behind the mutation. -/
structure Cps (w : World) (S C T B P g c g' c' : Nat) (l m : List Int) (W : World) : Prop where
  hs : ∃ F, Sh W S P m F
  hc : ∃ F, Sh W C P l F
  ht : ∃ F, Sh W T P l F ∧ ∀ k, F k → k < W.heap.size
  hb : W.heap[B]? = some (.cells #[.pointer (some ⟨T, 0, none⟩)] 22 (0, 0))
  rl : Rw W g c l
  rm : Rw W g' c' m
  res : W.heap[w.heap.size + 1]? = some (.cells #[.bool false] 4 (0, 0))
  below : Below w.heap.size w W
section
variable {w W W' : World} {S C T B P g c g' c' : Nat} {l m : List Int}
theorem Cps.after (h : Cps w S C T B P g c g' c' l m W) (hb : Below W.heap.size W W') : Cps w S C T B P g c g' c' l m W' := by
  have z := hb.size
  obtain ⟨F1, h1⟩ := h.hs
  obtain ⟨F2, h2⟩ := h.hc
  obtain ⟨F3, h3, h4⟩ := h.ht
  exact ⟨⟨F1, h1.below hb⟩, ⟨F2, h2.below hb⟩, ⟨F3, h3.below hb, fun k hk => Nat.lt_of_lt_of_le (h4 k hk) z⟩, (hb.block _ (Array.getElem?_eq_some_iff.1 h.hb).1).trans h.hb, h.rl.below hb, h.rm.below hb, (hb.block _ (Array.getElem?_eq_some_iff.1 h.res).1).trans h.res, h.below.trans (hb.mono h.below.size)⟩
end
/-- What lies ahead of the mutation; F: the shadow's blocks. -/
structure Pre (w : World) (S C T B P g c : Nat) (l : List Int) (x : Array Value) (F : Nat → Prop) (W : World) : Prop where
  hs : Sh W S P l F
  hF : ∀ k, F k → w.heap.size + 2 ≤ k
  hc : ∃ Fc, Sh W C P l Fc ∧ ∀ k, Fc k → ¬ F k
  ht : ∃ Ft, Sh W T P l Ft ∧ ∀ k, Ft k → ¬ F k
  hb : W.heap[B]? = some (.cells #[.pointer (some ⟨T, 0, none⟩)] 22 (0, 0))
  nb : ¬ F B
  rl : Rw W g c l
  ng : ¬ F g
  xb : W.heap[w.heap.size]? = some (.cells x 47 (0, 0))
  res : W.heap[w.heap.size + 1]? = some (.cells #[.bool false] 4 (0, 0))
  below : Below w.heap.size w W
section
variable {w W W' W1 W2 : World} {S C T B P g c g' c' : Nat} {l m : List Int} {x : Array Value} {F : Nat → Prop}
theorem Pre.after (h : Pre w S C T B P g c l x F W) (hb : Below W.heap.size W W') : Pre w S C T B P g c l x F W' := by
  obtain ⟨F2, h2, h2'⟩ := h.hc
  obtain ⟨F3, h3, h3'⟩ := h.ht
  exact ⟨h.hs.below hb, h.hF, ⟨F2, h2.below hb, h2'⟩, ⟨F3, h3.below hb, h3'⟩, (hb.block _ (Array.getElem?_eq_some_iff.1 h.hb).1).trans h.hb, h.nb, h.rl.below hb, h.ng,
    (hb.block _ (Array.getElem?_eq_some_iff.1 h.xb).1).trans h.xb, (hb.block _ (Array.getElem?_eq_some_iff.1 h.res).1).trans h.res, h.below.trans (hb.mono h.below.size)⟩
theorem Pre.mut (h : Pre w S C T B P g c l x F W) (hr : Rw W1 g' c' m) (hg : g' = g ∨ W.heap.size ≤ g') (hb : Below W.heap.size W W1) (hp : PutPost W1 S P m F W2) : Cps w S C T B P g c g' c' l m W2 := by
  have h1 := h.after hb
  obtain ⟨F', p1, p2, p3⟩ := hp
  have hn : ¬ F g' := by
    rcases hg with rfl | hg
    · exact h.ng
    · intro hf; have := h.hs.lt _ hf; omega
  obtain ⟨F2, h2, h2'⟩ := h1.hc
  obtain ⟨F3, h3, h3'⟩ := h1.ht
  refine ⟨⟨F', p1⟩, ⟨F2, h2.kept p2 h2'⟩, ⟨F3, h3.kept p2 h3', fun k hk => Nat.lt_of_lt_of_le (h3.lt k hk) p2.size⟩, p2.keep h1.hb h.nb, h1.rl.kept p2 h.ng, hr.kept p2 hn, p2.keep h1.res (fun hf => by have := h.hF _ hf; omega), h1.below.trans (p2.below h1.below.size (fun k hk => by have := h.hF k hk; omega))⟩
theorem Copy_sh (h : Sh W S P l F) : Calls Try.prog 21 #[.pointer (some ⟨S, 0, none⟩)] W fun e w' => ∃ S' F', e = .returned (.pointer (some ⟨S', 0, none⟩)) ∧ Sh w' S' P l F' ∧ (∀ k, F' k → W.heap.size ≤ k) ∧ Below W.heap.size W w' := by
  obtain ⟨mb, G, D, rfl, h⟩ := h
  exact Copy_any h
theorem StepsIn.after {v : Value} {xs : List Step4} (h : StepsIn W v xs) (hb : Below W.heap.size W W') : StepsIn W' v xs := by
  rcases h with h | ⟨a, c, h1, h2, h3, h4, h5⟩
  · exact .inl h
  · exact .inr ⟨a, c, h1, h2, h3, fun i s hs => by obtain ⟨q0, q1, q2, q3⟩ := h4 i s hs; exact ⟨below_cell hb q0, below_cell hb q1, below_cell hb q2, below_cell hb q3⟩, h5⟩
/-- How ShadowCopies comes to the mutation. -/
theorem pre_start {o1 : Array Value} (hB : Both ((w.alloc (.cells o1 47)).alloc (.cells #[.bool false] 4)) S P l g c W) {F' Ft : Nat → Prop} (hC : Sh W1 C P l F') (hCn : ∀ k, F' k → W.heap.size ≤ k) (hb1 : Below W.heap.size W W1)
    (hbx : W2.heap[B]? = some (.cells #[.pointer (some ⟨T, 0, none⟩)] 22 (0, 0))) (hT : Sh W2 T P l Ft) (hTn : ∀ k, Ft k → W1.heap.size ≤ k) (hBn : W1.heap.size ≤ B) (hb2 : Below W1.heap.size W1 W2) : ∃ F, Pre w S C T B P g c l o1 F W2 := by
  obtain ⟨F, h1, h2, h3, h4, h5, h6⟩ := hB
  have z0 : ((w.alloc (.cells o1 47)).alloc (.cells #[.bool false] 4)).heap.size = w.heap.size + 2 := by simp
  have e1 := heap_alloc_new w (.cells o1 47)
  have e2 := heap_alloc_new (w.alloc (.cells o1 47)) (.cells #[.bool false] 4)
  rw [World.size_alloc] at e2
  have e1' := (Below.heap_alloc (w.alloc (.cells o1 47)) (.cells #[.bool false] 4) w.heap.size (by simp)).trans e1
  have hlt := h1.lt
  have zW := h6.size
  have z1 := hb1.size
  have hb12 : Below W.heap.size W W2 := hb1.trans (hb2.mono z1)
  have hbA : Below w.heap.size w ((w.alloc (.cells o1 47)).alloc (.cells #[.bool false] 4)) := ((Below.refl _ _).alloc (Nat.le_refl _) _).alloc (by simp) _
  have hbW2 := h6.trans (hb12.mono zW)
  refine ⟨F, h1.below hb12, fun k hk => by have := h2 k hk; omega, ⟨F', hC.below hb2, fun k hk hf => by have := hCn k hk; have := hlt k hf; omega⟩, ⟨Ft, hT, fun k hk hf => by have := hTn k hk; have := hlt k hf; omega⟩, hbx, fun hf => by have := hlt _ hf; omega,
    h4.below hb12, h3, (hbW2.block _ (by omega)).trans e1', (hbW2.block _ (by omega)).trans e2, hbA.trans (hbW2.mono (by omega))⟩
end
/-- The slice that is filled from All, in its variable. -/
structure Had (W6 : World) (P bx : Nat) (h : List Int) (W : World) : Prop where
  len : h.length = 64 * P
  row : Rw W W6.heap.size (64 * P) h
  hx : W.heap[bx]? = some (.cells #[.slice (some ⟨W6.heap.size, 0, none⟩) (64 * P) (64 * P)] 42 (0, 0))
  ne : W6.heap.size < bx
  below : Below W6.heap.size W6 W
/-- What has come of the list. -/
def SoFar (P : Nat) (l h : List Int) (pre : List Nat) : Prop := ∀ j, j < 64 * P → at0 h j = if j ∈ pre then at0 l j else 0
section
variable {W6 W W' : World} {P bx : Nat} {l h : List Int} {pre : List Nat}
theorem Had.after (H : Had W6 P bx h W) (hb : Below W.heap.size W W') : Had W6 P bx h W' :=
  ⟨H.len, H.row.below hb, (hb.block _ (Array.getElem?_eq_some_iff.1 H.hx).1).trans H.hx, H.ne, H.below.trans (hb.mono H.below.size)⟩
theorem Had.set (H : Had W6 P bx h W) (j : Nat) (x : Int) : Had W6 P bx (h.set j x) (W.setCell ⟨W6.heap.size, j, none⟩ (.int .u32 x)) :=
  ⟨by simp [H.len], H.row.set j x, (Below.heap_setCell _ _ _ _ (show bx ≠ W6.heap.size by have := H.ne; omega)).trans H.hx, H.ne, H.below.setCell (p := ⟨W6.heap.size, j, none⟩) (Nat.le_refl _) _⟩
theorem had_own {β : Type} (f : β → List Int → Prop) {B : Nat} (hB : W6.heap.size < B) : OwnFrom B (fun (s : β) W => ∃ h, f s h ∧ Had W6 P bx h W) := by
  rintro s W W' row ⟨h, hf, H⟩ hg hr
  have hbl : W'.heap[bx]? = some (.cells #[.slice (some ⟨W6.heap.size, 0, none⟩) (64 * P) (64 * P)] 42 (0, 0)) :=
    (hg.block bx (Array.getElem?_eq_some_iff.1 H.hx).1 (fun e => by
      obtain ⟨h1, o', h2, h3⟩ := hr bx e.symm
      rw [H.hx] at h2; cases h2
      simp [Obj.isCells] at h3)).trans H.hx
  exact ⟨h, hf, H.len, H.row.kept (Turned.of_grown (F := fun k => B ≤ k) hg (fun k e => (hr k e).1)) (by omega), hbl, H.ne, H.below.grown hg H.below.size (fun k e => by have := (hr k e).1; omega)⟩
theorem SoFar.next (hs : SoFar P l h pre) (hl : h.length = 64 * P) {x : Nat} (hx : x < 64 * P) : SoFar P l (h.set x (at0 l x)) (pre ++ [x]) := fun j hj => by
  rw [at_set (by omega)]
  by_cases e : j = x
  · subst e; simp
  · have := hs j hj; simp [e, this]
theorem SoFar.all (hs : SoFar P l h (els l (64 * P))) (hl : h.length = 64 * P) (hll : l.length = 64 * P) : h = l :=
  ext_at hl hll fun i hi => by
    rw [hs i hi]
    by_cases e : i ∈ els l (64 * P)
    · simp [e]
    · rw [if_neg e]
      have : nz l i = false := by
        cases h : nz l i with
        | false => rfl
        | true => exact absurd (mem_els.2 ⟨hi, h⟩) e
      simp [nz] at this
      exact this.symm
theorem had_start (W6 W7 : World) (P : Nat) (l : List Int)
    (hown : W7.ownsRow 0 26 1 (.slice (some ⟨W6.heap.size, 0, none⟩) (64 * P) (64 * P)) (64 * P) (madeCells (Value.int .u32 0).cells (64 * P * 1)).toList) (hgrow : W6.grownBy W7 none) :
    Below W6.heap.size W6 W7 ∧ ∃ h, SoFar P l h [] ∧ Had W6 P W7.heap.size h (W7.alloc (.cells #[.slice (some ⟨W6.heap.size, 0, none⟩) (64 * P) (64 * P)] 42)) := by
  have hb : Below W6.heap.size W6 W7 := (Below.refl _ _).grown hgrow (Nat.le_refl _) (fun k e => by cases e)
  rw [made_zero] at hown
  have hR : Rw W7 W6.heap.size (64 * P) (List.replicate (64 * P) 0) := by unfold Rw; simpa using hown
  refine ⟨hb, List.replicate (64 * P) 0, fun j hj => by simp [at0, hj], by simp, hR.below ((Below.refl _ _).alloc (Nat.le_refl _) _), heap_alloc_new _ _, hR.lt, hb.alloc hb.size _⟩
end
/-- The variable that counts the first round. -/
def One (W9 : World) (q : Int) (W : World) : Prop := Below W9.heap.size W9 W ∧ W.heap[W9.heap.size]? = some (.cells #[.int .i64 q] 3 (0, 0))
theorem one_own {β : Type} (W9 : World) (f : β → Prop) (q : Int) {B : Nat} (hB : W9.heap.size < B) : OwnFrom B (fun (s : β) W => f s ∧ One W9 q W) := fun s W W' row hs hg hr =>
  ⟨hs.1, hs.2.1.grown hg hs.2.1.size (fun k e => by have := (hr k e).1; omega), (hg.block _ (Array.getElem?_eq_some_iff.1 hs.2.2).1 (fun e => by have := (hr _ e.symm).1; omega)).trans hs.2.2⟩
theorem els_none_iff {P : Nat} {l : List Int} (hl : l.length = 64 * P) : els l (64 * P) = [] ↔ privs l P = [] := by
  constructor
  · intro h
    cases hp : privs l P with
    | nil => rfl
    | cons p r =>
      have hm : p ∈ privs l P := by rw [hp]; simp
      obtain ⟨h1, h2⟩ := mem_privs.1 hm
      obtain ⟨k, hk, hz⟩ := priv_has hl h2
      have : 64 * p + k ∈ els l (64 * P) := mem_els.2 ⟨by omega, hz⟩
      rw [h] at this; cases this
  · intro h
    cases he : els l (64 * P) with
    | nil => rfl
    | cons i r =>
      have hm : i ∈ els l (64 * P) := by rw [he]; simp
      obtain ⟨h1, h2⟩ := mem_els.1 hm
      have h3 := is_priv (p := i / 64) (k := i % 64) hl (by omega) (by rw [show 64 * (i / 64) + i % 64 = i by omega]; exact h2)
      have : i / 64 ∈ privs l P := mem_privs.2 ⟨by omega, h3⟩
      rw [h] at this; cases this
/-- What lies behind both loops. -/
structure Tl (w : World) (S C T B P g c g' c' : Nat) (l m : List Int) (hg bx ob D0 D1 : Nat) (q : Int) (W : World) : Prop where
  cp : Cps w S C T B P g c g' c' l m W
  row : Rw W hg (64 * P) l
  hx : W.heap[bx]? = some (.cells #[.slice (some ⟨hg, 0, none⟩) (64 * P) (64 * P)] 42 (0, 0))
  ho : W.heap[ob]? = some (.cells #[.int .i64 q] 3 (0, 0))
  d0 : W.heap[D0]? = some (.deferred (some []))
  d1 : W.heap[D1]? = some (.deferred (some []))
  n0 : w.heap.size + 1 < D0
  n1 : w.heap.size + 1 < D1
  n01 : D0 ≠ D1
section
variable {w W W' W6 W9 : World} {S C T B P g c g' c' hg bx ob D0 D1 : Nat} {l m : List Int} {q : Int}
theorem Tl.after (h : Tl w S C T B P g c g' c' l m hg bx ob D0 D1 q W) (hb : Below W.heap.size W W') : Tl w S C T B P g c g' c' l m hg bx ob D0 D1 q W' := by
  have up : ∀ {k : Nat} {o : Obj}, W.heap[k]? = some o → W'.heap[k]? = some o := fun {k o} e => (hb.block _ (Array.getElem?_eq_some_iff.1 e).1).trans e
  exact ⟨h.cp.after hb, h.row.below hb, up h.hx, up h.ho, up h.d0, up h.d1, h.n0, h.n1, h.n01⟩
theorem tl_start (hC : Cps w S C T B P g c g' c' l m W9) (hH : Had W6 P bx l W9) (hK : W9.heap[D0]? = some (.deferred (some []))) (hO : One W9 q W) (hK1 : W.heap[D1]? = some (.deferred (some []))) (hD : W9.heap.size < D1) (h6 : w.heap.size + 1 < D0) :
    Tl w S C T B P g c g' c' l m W6.heap.size bx W9.heap.size D0 D1 q W := by
  have hl0 := (Array.getElem?_eq_some_iff.1 hK).1
  have hH' := hH.after hO.1
  exact ⟨hC.after hO.1, hH'.row, hH'.hx, hO.2, (hO.1.block _ hl0).trans hK, hK1, h6, by omega, by omega⟩
end
/-- What the last region reads and writes. -/
def Cel (w : World) (hg bx ob P : Nat) (q : Int) (W : World) : Prop :=
  W.cell? ⟨bx, 0, none⟩ = some (.slice (some ⟨hg, 0, none⟩) (64 * P) (64 * P)) ∧ W.cell? ⟨ob, 0, none⟩ = some (.int .i64 q) ∧ W.cell? ⟨w.heap.size + 1, 0, none⟩ = some (.bool (rdB (w.heap.size + 1) W)) ∧ W.frozen? ⟨w.heap.size + 1, 0, none⟩ = false
theorem below_free {w w' : World} (hb : Below w.heap.size w w') {p : Addr} {v : Value} (h : w.cell? p = some v) (hf : w.frozen? p = false) : w'.frozen? p = false := by
  rw [← hf]; unfold World.frozen?; rw [hb.block _ (World.block_lt_of_cell? _ _ h)]
theorem Cel.after {w W W' : World} {hg bx ob P : Nat} {q : Int} (h1 : W.cell? ⟨bx, 0, none⟩ = some (.slice (some ⟨hg, 0, none⟩) (64 * P) (64 * P))) (h2 : W.cell? ⟨ob, 0, none⟩ = some (.int .i64 q)) (h3 : W.cell? ⟨w.heap.size + 1, 0, none⟩ = some (.bool (rdB (w.heap.size + 1) W))) (h4 : W.frozen? ⟨w.heap.size + 1, 0, none⟩ = false) (hb : Below W.heap.size W W') : Cel w hg bx ob P q W' := by
  have e := below_cell hb h3
  refine ⟨below_cell hb h1, below_cell hb h2, ?_, below_free hb h3 h4⟩
  have : rdB (w.heap.size + 1) W' = rdB (w.heap.size + 1) W := by unfold rdB; rw [e.trans h3.symm]
  rw [this]; exact e
theorem Cel.set {w W : World} {hg bx ob P : Nat} {q : Int} {v : Bool} (hne : bx ≠ w.heap.size + 1 ∧ ob ≠ w.heap.size + 1) (h1 : W.cell? ⟨bx, 0, none⟩ = some (.slice (some ⟨hg, 0, none⟩) (64 * P) (64 * P))) (h2 : W.cell? ⟨ob, 0, none⟩ = some (.int .i64 q)) (h3 : W.cell? ⟨w.heap.size + 1, 0, none⟩ = some (.bool (rdB (w.heap.size + 1) W))) (h4 : W.frozen? ⟨w.heap.size + 1, 0, none⟩ = false) :
    Cel w hg bx ob P q (W.setCell ⟨w.heap.size + 1, 0, none⟩ (.bool v)) := by
  have e := World.cell?_setCell_same W ⟨w.heap.size + 1, 0, none⟩ (.bool v) h3
  refine ⟨(World.cell?_setCell_far _ _ _ _ (show w.heap.size + 1 ≠ bx by omega)).trans h1, (World.cell?_setCell_far _ _ _ _ (show w.heap.size + 1 ≠ ob by omega)).trans h2, ?_, by rw [World.frozen?_setCell]; exact h4⟩
  rw [e]; unfold rdB; rw [e]
section
variable {w W W' : World} {S C T B P g c g' c' hg bx ob D0 D1 : Nat} {l m : List Int} {q : Int}
theorem Tl.cel (h : Tl w S C T B P g c g' c' l m hg bx ob D0 D1 q W) : Cel w hg bx ob P q W ∧ bx ≠ w.heap.size + 1 ∧ ob ≠ w.heap.size + 1 := by
  refine ⟨⟨(boxed_cell h.hx).1, (boxed_cell h.ho).1, by simp only [rdB, (boxed_cell h.cp.res).1], (boxed_cell h.cp.res).2⟩, fun e => ?_, fun e => ?_⟩
  · have := h.hx; rw [e, h.cp.res] at this; cases this
  · have := h.ho; rw [e, h.cp.res] at this; cases this
theorem Tl.fin (h : Tl w S C T B P g c g' c' l m hg bx ob D0 D1 q W) : (W.setCell ⟨w.heap.size + 1, 0, none⟩ (.bool true)).heap[D1]? = some (.deferred (some [])) ∧
    ((W.setCell ⟨w.heap.size + 1, 0, none⟩ (.bool true)).putObj D1 (.deferred none)).heap[D0]? = some (.deferred (some [])) ∧
    (((W.setCell ⟨w.heap.size + 1, 0, none⟩ (.bool true)).putObj D1 (.deferred none)).putObj D0 (.deferred none)).cell? ⟨w.heap.size + 1, 0, none⟩ = some (.bool true) ∧
    Below w.heap.size w (((W.setCell ⟨w.heap.size + 1, 0, none⟩ (.bool true)).putObj D1 (.deferred none)).putObj D0 (.deferred none)) := by
  have n0 := h.n0
  have n1 := h.n1
  have h1 := boxed_set h.cp.res (.bool true)
  have e1 : (W.setCell ⟨w.heap.size + 1, 0, none⟩ (.bool true)).heap[D1]? = some (.deferred (some [])) := (Below.heap_setCell _ _ _ _ (show D1 ≠ w.heap.size + 1 by omega)).trans h.d1
  have e0 : (W.setCell ⟨w.heap.size + 1, 0, none⟩ (.bool true)).heap[D0]? = some (.deferred (some [])) := (Below.heap_setCell _ _ _ _ (show D0 ≠ w.heap.size + 1 by omega)).trans h.d0
  have e0' : ((W.setCell ⟨w.heap.size + 1, 0, none⟩ (.bool true)).putObj D1 (.deferred none)).heap[D0]? = some (.deferred (some [])) := (World.putObj_heap_other h.n01).trans e0
  refine ⟨e1, e0', ?_, ?_⟩
  · rw [cell_putObj (show w.heap.size + 1 ≠ D0 by omega), cell_putObj (show w.heap.size + 1 ≠ D1 by omega)]; exact (boxed_cell h1).1
  · exact ((h.cp.below.setCell (p := ⟨w.heap.size + 1, 0, none⟩) (by simp) _).trans (belowK_b (w := w) (Nat.le_refl _) _ D1 _ _ (by omega) e1 rfl rfl)).trans (belowK_b (w := w) (Nat.le_refl _) _ D0 _ _ (by omega) e0' rfl rfl)
end
end Go.Proofs.Ytepmndadbikijaa

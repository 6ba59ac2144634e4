/-
  Drawn regions, once for all. An operation whose value does not hang on the order (a pure one, a load of what S holds, a call whose contract gives one value and makes new memory at most) goes first: one line each, no orders.
-/
import Derived.Deep.RegionHeld
import Derived.Deep.RegionHeld3
import Derived.Below
set_option linter.unusedVariables false
set_option linter.unusedSimpArgs false
namespace Go.Proofs.Ytjffclcjijpmiaa.Free
open Go.RowKit
section
variable {P : Program} {ops : Array Oper} {Q : Exit → Act → World → Prop} {md : Region.Mode} {S : World → Prop}

/-- What is made above leaves S as it is. -/
def Stb (S : World → Prop) : Prop := ∀ W W', S W → Below W.heap.size W W' → S W'
/-- Every order, from every world that has grown out of this one and meets S; S holds behind each operation. -/
def Any (P : Program) (md : Region.Mode) (ops : Array Oper) (Q : Exit → Act → World → Prop) (S : World → Prop) : Nat → Array Bool → Act → World → Prop
  | 0, l, a, w => ∀ W, Below w.heap.size w W → S W → Region.ready md ops l = [] ∧ Q .normal a W
  | n + 1, l, a, w => ∀ W, Below w.heap.size w W → S W → (Region.ready md ops l = [] → Q .normal a W) ∧
      ∀ i ∈ Region.ready md ops l, wpOp P ops Q i (fun b V => S V ∧ Any P md ops Q S n (l.setIfInBounds i true) b V) a W
theorem Any.grown {n : Nat} {l : Array Bool} {a : Act} {w W : World} (h : Any P md ops Q S n l a w) (hb : Below w.heap.size w W) : Any P md ops Q S n l a W := by
  cases n <;> exact fun V hV => h V (hb.trans (hV.mono hb.size))
theorem Any.out {n : Nat} : ∀ {l : Array Bool} {a : Act} {w : World}, S w → Any P md ops Q S n l a w → wpAny P md ops Q n l a w := by
  induction n with
  | zero => exact fun hS h => h _ (Below.refl _ _) hS
  | succ n ih =>
    intro l a w hS h
    obtain ⟨h0, h1⟩ := h w (Below.refl _ _) hS
    exact ⟨h0, fun i hi => wpOp_mono (fun _ _ k => ih k.1 k.2) (h1 i hi)⟩

/-- Operation o finds in b what it finds in a. -/
structure Like (ops : Array Oper) (o : Oper) (a b : Act) : Prop where
  e : execOp b.eval o = execOp a.eval o
  g : Region.wanted o (yielded ops b.tmps) = Region.wanted o (yielded ops a.tmps)
/-- What o leaves behind it, from a: v, in whatever world that meets S. -/
def Leaves (P : Program) (ops : Array Oper) (S : World → Prop) (o : Oper) (v : Value) (a : Act) : Prop :=
  ∀ (i : Nat) (Q : Exit → Act → World → Prop) (K : Act → World → Prop) (b : Act) (w : World), ops[i]? = some o → Like ops o a b → S w → (∀ W, Below w.heap.size w W → S W → K (b.put o.dst v) W) → wpOp P ops Q i K b w
theorem Like.put {o p : Oper} {a : Act} {u : Value} (ho : ∀ c b, o.op ≠ .select c b) (h : ∀ d, p.dst = some d → d ∉ o.looksAt ops) : Like ops o a (a.put p.dst u) := ⟨execOp_put o ho a p.dst u h, wanted_put o a p.dst u h⟩

/-- j behind o is j ahead of o, where the two are apart. -/
theorem ahead {j : Nat} {o p : Oper} {v : Value} (hj : ops[j]? = some p) (hap : o.apart ops p = true) (ho : ∀ c b, o.op ≠ .select c b) (hp : ∀ c b, p.op ≠ .select c b)
    (hQ : ∀ c a w, Q (.panic c) (a.put o.dst v) w → Q (.panic c) a w) {K : Act → World → Prop} {a : Act} {w : World} (h : wpOp P ops Q j K (a.put o.dst v) w) :
    wpOp P ops Q j (fun b W => Like ops o a b ∧ K (b.put o.dst v) W) a w := by
  obtain ⟨a1, a2, a3⟩ := Oper.apart_spec hap
  have sw : ∀ u, (a.put o.dst v).put p.dst u = (a.put p.dst u).put o.dst v := fun u => Act.put_comm a v u a2
  have lk : ∀ u, Like ops o a (a.put p.dst u) := fun u => Like.put ho a3
  have hx := execOp_put p hp a o.dst v a1
  have hg := wanted_put p a o.dst v a1
  unfold wpOp at h ⊢
  rw [hj] at h ⊢
  dsimp only at h ⊢
  rw [hg] at h
  by_cases hw : Region.wanted p (yielded ops a.tmps) = true
  · rw [if_pos hw] at h ⊢
    refine h.imp (fun h => ?_) (fun h => ⟨by have := h.1; unfold Oper.asks at this ⊢; rwa [hx] at this, h.2⟩)
    unfold Oper.wp at h ⊢
    rw [hx] at h
    revert h
    cases (execOp a.eval p).run P w with
    | halt x W => intro h; cases x <;> first | exact h | exact hQ _ _ _ h
    | ok nx W =>
      intro h
      cases nx with
      | value u => exact ⟨lk u, sw u ▸ h⟩
      | skip => exact ⟨lk _, sw undef ▸ h⟩
      | row r args => exact Rows.mono h fun u W k => ⟨lk u, sw u ▸ k⟩
      | enter f args =>
        refine Calls.mono h fun e W k => ?_
        cases e with
        | returned u => exact ⟨lk u, sw u ▸ k⟩
        | panicked c => exact hQ _ _ _ k
        | outgrown => exact k
      | defer d =>
        have k := Like.put (ops := ops) (o := o) (p := p) (a := ({ a with defers := d :: a.defers } : Act)) (u := undef) ho a3
        have e := Act.put_comm ({ a with defers := d :: a.defers } : Act) v undef a2
        have h' : K (({ a.put o.dst v with defers := d :: (a.put o.dst v).defers } : Act).put p.dst undef) W := h
        rw [Act.put_defers, e] at h'
        exact ⟨⟨k.e, k.g⟩, h'⟩
      | _ => exact h
  · rw [if_neg hw] at h ⊢
    exact ⟨lk _, sw undef ▸ h⟩

theorem Any.lead {i : Nat} {o : Oper} {v : Value} (hi : ops[i]? = some o) (hs : Region.noSelect ops = true) (hQ : ∀ c a w, Q (.panic c) (a.put o.dst v) w → Q (.panic c) a w) {a : Act} (hv : Leaves P ops S o v a) (n : Nat) :
    ∀ (l : Array Bool) (b : Act) (w : World), Region.free md ops l i = true → i ∈ Region.ready md ops l → Like ops o a b → Any P md ops Q S n (l.setIfInBounds i true) (b.put o.dst v) w → Any P md ops Q S (n + 1) l b w := by
  have sel := Region.noSelect_spec hs
  have self : ∀ {n : Nat} {l : Array Bool} {b : Act} {w W : World}, Like ops o a b → Any P md ops Q S n (l.setIfInBounds i true) (b.put o.dst v) w → Below w.heap.size w W → S W →
      wpOp P ops Q i (fun c V => S V ∧ Any P md ops Q S n (l.setIfInBounds i true) c V) b W := fun k h hb hS =>
    hv i Q _ _ _ hi k hS (fun V hV hSV => ⟨hSV, h.grown (hb.trans (hV.mono hb.size))⟩)
  induction n with
  | zero =>
    intro l b w hf hr k h W hb hS
    refine ⟨fun e => absurd (e ▸ hr) (by simp), fun j hj => ?_⟩
    by_cases e : j = i
    · exact e ▸ self k h hb hS
    · exact absurd ((h W hb hS).1 ▸ ready_mono hj e) (by simp)
  | succ n ih =>
    intro l b w hf hr k h W hb hS
    refine ⟨fun e => absurd (e ▸ hr) (by simp), fun j hj => ?_⟩
    by_cases e : j = i
    · exact e ▸ self k h hb hS
    · obtain ⟨hun, p, hp, hall⟩ := mem_ready.1 hj
      -- j does not wait for i, which has not come up yet
      have hno : ∀ x ∈ p.after, Region.binds md x = true → x.on ≠ i := fun x hx hbd he => by
        have h1 := hall x hx hbd
        have h2 := (mem_ready.1 hr).1
        rw [he] at h1
        simp only [Array.getD_eq_getD_getElem?] at h1 h2
        cases hc : l[i]? <;> simp_all
      have hap := Region.free_spec hi hf j p hp e hun hno
      refine wpOp_mono (fun c V q => ⟨q.2.1, ?_⟩) (ahead hp hap (fun c x => sel i o c x hi) (fun c x => sel j p c x hp) hQ ((h W hb hS).2 j (ready_mono hj e)))
      refine ih _ c V ?_ (ready_mono hr (Ne.symm e)) ⟨q.1.e.trans k.e, q.1.g.trans k.g⟩ (Array.setIfInBounds_comm _ _ e ▸ q.2.2)
      -- still apart from all that is left
      unfold Region.free at hf ⊢
      rw [hi] at hf ⊢
      simp only [List.all_eq_true, Bool.or_eq_true, beq_iff_eq] at hf ⊢
      intro m hm
      rcases hf m hm with (h1 | h1) | h1
      · exact .inl (.inl h1)
      · exact .inl (.inr (by
          by_cases hjm : j = m
          · subst hjm; rw [hun] at h1; cases h1
          · rwa [getD_set_ne true hjm]))
      · exact .inr h1

theorem Leaves.val {o : Oper} {v : Value} {a : Act} (hw : Region.wanted o (yielded ops a.tmps) = true) (hy : ∀ W, S W → (execOp a.eval o).run P W = .ok (.value v) W) : Leaves P ops S o v a := fun i Q K b w hi k hS h => by
  unfold wpOp
  rw [hi]
  dsimp only
  rw [if_pos (k.g.trans hw)]
  unfold Oper.wp
  rw [k.e, hy w hS]
  exact .inl (h w (Below.refl _ _) hS)
theorem Leaves.call {o : Oper} {v : Value} {a : Act} {f : FuncId} {args : Array Value} (st : Stb S) (hw : Region.wanted o (yielded ops a.tmps) = true) (hy : ∀ W, (execOp a.eval o).run P W = .ok (.enter f args) W)
    (hc : ∀ W, S W → Calls P f args W fun e w' => e = .returned v ∧ Below W.heap.size W w') : Leaves P ops S o v a := fun i Q K b w hi k hS h => by
  unfold wpOp
  rw [hi]
  dsimp only
  rw [if_pos (k.g.trans hw)]
  unfold Oper.wp
  rw [k.e, hy w]
  refine .inl ((hc w hS).mono ?_)
  rintro e W ⟨rfl, hb⟩
  exact h W hb (st _ _ hS hb)
theorem Leaves.none {o : Oper} {a : Act} (hw : Region.wanted o (yielded ops a.tmps) = false) : Leaves P ops S o undef a := fun i Q K b w hi k hS h => by
  unfold wpOp
  rw [hi]
  dsimp only
  rw [if_neg (by rw [k.g, hw]; decide)]
  exact h w (Below.refl _ _) hS

/-! ### the moves: any (begin), tk (a pure one, a load), cl (a call), sk (left out by its guard), one (the single one that may come up), all (whatever may come up), done -/
theorem any {id : Nat} {a : Act} {w : World} (S : World → Prop) (st : Stb S) (hS : S w.drew) (h : Stb S → Any P .any ops Q S ops.size (Array.replicate ops.size false) a w.drew) (hm : P.follows .mixedOrders = true := by kernel_rfl) : (Code.region id ops true).wp P Q a w :=
  wp_region_any hm ((h st).out hS)
theorem done {n : Nat} {l : Array Bool} {a : Act} {w : World} (h : ∀ W, Below w.heap.size w W → S W → Q .normal a W) (hr : Region.ready md ops l = [] := by kernel_rfl) : Any P md ops Q S n l a w := by
  cases n with
  | zero => exact fun W hb hS => ⟨hr, h W hb hS⟩
  | succ n => exact fun W hb hS => ⟨fun _ => h W hb hS, fun i hi => absurd (hr ▸ hi) (by simp)⟩
theorem all (rs : List Nat) {n : Nat} {l : Array Bool} {a : Act} {w : World} (h : ∀ W, Below w.heap.size w W → S W → ∀ i ∈ rs, wpOp P ops Q i (fun b V => S V ∧ Any P md ops Q S n (l.setIfInBounds i true) b V) a W)
    (hr : Region.ready md ops l = rs := by kernel_rfl) (hne : rs ≠ [] := by simp) : Any P md ops Q S (n + 1) l a w :=
  fun W hb hS => ⟨fun h0 => absurd (hr ▸ h0) hne, hr ▸ h W hb hS⟩
theorem one (i : Nat) {o : Oper} {n : Nat} {l : Array Bool} {a : Act} {w : World} (h : ∀ W, Below w.heap.size w W → S W → o.wp P a W (fun b V => S V ∧ Any P md ops Q S n (l.setIfInBounds i true) b V) Q)
    (hi : ops[i]? = some o := by rfl) (hw : Region.wanted o (yielded ops a.tmps) = true := by rfl) (hr : Region.ready md ops l = [i] := by kernel_rfl) : Any P md ops Q S (n + 1) l a w :=
  all [i] (fun W hb hS j hj => by
    rw [List.mem_singleton] at hj
    subst hj
    unfold wpOp
    rw [hi]
    dsimp only
    rw [if_pos hw]
    exact .inl (h W hb hS)) hr
theorem tk (i : Nat) (d : Option Tmp) {o : Oper} {v : Value} {n : Nat} {l : Array Bool} {a b : Act} {w : World} (h : Any P md ops Q S n (l.setIfInBounds i true) b w)
    (hi : ops[i]? = some o := by rfl) (hd : o.dst = d := by rfl) (hs : Region.noSelect ops = true := by kernel_rfl) (hf : Region.free md ops l i = true := by kernel_rfl) (hr : (Region.ready md ops l).contains i = true := by kernel_rfl)
    (hQ : ∀ c a w, Q (.panic c) (a.put o.dst v) w → Q (.panic c) a w := by exact fun _ _ _ h => h) (hw : Region.wanted o (yielded ops a.tmps) = true := by rfl) (hy : ∀ W, S W → (execOp a.eval o).run P W = .ok (.value v) W := by intro W hW; go_simp; try with_reducible rfl)
    (ha : a.put d v = b := by (simp only [Act.put, List.setIfInBounds_toArray, List.set_cons_zero, List.set_cons_succ]; rfl)) : Any P md ops Q S (n + 1) l a w := by
  subst hd ha
  exact Any.lead hi hs hQ (.val hw hy) n l a w hf (by simpa using hr) ⟨rfl, rfl⟩ h
theorem cl (i : Nat) (d : Option Tmp) {o : Oper} {v : Value} {n : Nat} {l : Array Bool} {a b : Act} {w : World} {f : FuncId} {args : Array Value} (st : Stb S) (hc : ∀ W, S W → Calls P f args W fun e w' => e = .returned v ∧ Below W.heap.size W w') (h : Any P md ops Q S n (l.setIfInBounds i true) b w)
    (hi : ops[i]? = some o := by rfl) (hd : o.dst = d := by rfl) (hs : Region.noSelect ops = true := by kernel_rfl) (hf : Region.free md ops l i = true := by kernel_rfl) (hr : (Region.ready md ops l).contains i = true := by kernel_rfl)
    (hQ : ∀ c a w, Q (.panic c) (a.put o.dst v) w → Q (.panic c) a w := by exact fun _ _ _ h => h) (hw : Region.wanted o (yielded ops a.tmps) = true := by rfl) (hy : ∀ W, (execOp a.eval o).run P W = .ok (.enter f args) W := by intro W; go_simp; try with_reducible rfl)
    (ha : a.put d v = b := by (simp only [Act.put, List.setIfInBounds_toArray, List.set_cons_zero, List.set_cons_succ]; rfl)) : Any P md ops Q S (n + 1) l a w := by
  subst hd ha
  exact Any.lead hi hs hQ (.call st hw hy hc) n l a w hf (by simpa using hr) ⟨rfl, rfl⟩ h
theorem sk (i : Nat) (d : Option Tmp) {o : Oper} {n : Nat} {l : Array Bool} {a b : Act} {w : World} (h : Any P md ops Q S n (l.setIfInBounds i true) b w)
    (hi : ops[i]? = some o := by rfl) (hd : o.dst = d := by rfl) (hs : Region.noSelect ops = true := by kernel_rfl) (hf : Region.free md ops l i = true := by kernel_rfl) (hr : (Region.ready md ops l).contains i = true := by kernel_rfl)
    (hQ : ∀ c a w, Q (.panic c) (a.put o.dst undef) w → Q (.panic c) a w := by exact fun _ _ _ h => h) (hw : Region.wanted o (yielded ops a.tmps) = false := by kernel_rfl)
    (ha : a.put d undef = b := by (simp only [Act.put, List.setIfInBounds_toArray, List.set_cons_zero, List.set_cons_succ]; rfl)) : Any P md ops Q S (n + 1) l a w := by
  subst hd ha
  exact Any.lead hi hs hQ (.none hw) n l a w hf (by simpa using hr) ⟨rfl, rfl⟩ h
end
end Go.Proofs.Ytjffclcjijpmiaa.Free

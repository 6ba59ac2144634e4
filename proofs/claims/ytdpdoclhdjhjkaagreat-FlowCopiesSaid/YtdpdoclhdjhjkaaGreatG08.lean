/-
  Drawn regions, once for all. An operation whose value does not hang on the order (a pure one, a load of what S holds, a call whose contract gives one value and makes new memory at most) goes first: one line each, no orders. Layer 12: where a kind's sets stand: walks. Layer 12: where a kind's sets stand, of each kind: walks. (written by gen_kind.py)
-/
import Derived.Deep.RegionHeld
import Derived.Deep.RegionHeld3
import Derived.Below
import Derived.Test.YtdpdoclhdjhjkaaGreatG07
set_option linter.unusedVariables false
set_option linter.unusedSimpArgs false
namespace Go.Proofs.YtdpdoclhdjhjkaaGreat.Free
open Go.RowKit
section
variable {P : Program} {ops : Array Oper} {Q : Exit → Act → World → Prop} {md : Region.Mode} {S : World → Prop}

/-- What is made above leaves S as it is. -/
def Stb (S : World → Prop) : Prop := ∀ W W', S W → Below W.heap.size W W' → S W'
/-- Every order, from every world that has grown out of this one and meets S; S holds behind each operation. -/
def Any (P : Program) (md : Region.Mode) (ops : Array Oper) (Q : Exit → Act → World → Prop) (S : World → Prop) : Nat → Array Bool → Act → World → Prop
  | 0, l, a, w => ∀ W, Below w.heap.size w W → S W → Region.ready md ops l = [] ∧ Q .normal a W
  | n + 1, l, a, w => ∀ W, Below w.heap.size w W → S W → (Region.ready md ops l = [] → Q .normal a W) ∧
      ∀ i ∈ Region.ready md ops l, wpOp P ops Q i (fun b V => S V ∧ Any P md ops Q S n (l.setIfInBounds i true) b V) a W
theorem Any.grown {n : Nat} {l : Array Bool} {a : Act} {w W : World} (h : Any P md ops Q S n l a w) (hb : Below w.heap.size w W) : Any P md ops Q S n l a W := by
  cases n <;> exact fun V hV => h V (hb.trans (hV.mono hb.size))
theorem Any.out {n : Nat} : ∀ {l : Array Bool} {a : Act} {w : World}, S w → Any P md ops Q S n l a w → wpAny P md ops Q n l a w := by
  induction n with
  | zero => exact fun hS h => h _ (Below.refl _ _) hS
  | succ n ih =>
    intro l a w hS h
    obtain ⟨h0, h1⟩ := h w (Below.refl _ _) hS
    exact ⟨h0, fun i hi => wpOp_mono (fun _ _ k => ih k.1 k.2) (h1 i hi)⟩

/-- Operation o finds in b what it finds in a. -/
structure Like (ops : Array Oper) (o : Oper) (a b : Act) : Prop where
  e : execOp b.eval o = execOp a.eval o
  g : Region.wanted o (yielded ops b.tmps) = Region.wanted o (yielded ops a.tmps)
/-- What o leaves behind it, from a: v, in whatever world that meets S. -/
def Leaves (P : Program) (ops : Array Oper) (S : World → Prop) (o : Oper) (v : Value) (a : Act) : Prop :=
  ∀ (i : Nat) (Q : Exit → Act → World → Prop) (K : Act → World → Prop) (b : Act) (w : World), ops[i]? = some o → Like ops o a b → S w → (∀ W, Below w.heap.size w W → S W → K (b.put o.dst v) W) → wpOp P ops Q i K b w
theorem Like.put {o p : Oper} {a : Act} {u : Value} (ho : ∀ c b, o.op ≠ .select c b) (h : ∀ d, p.dst = some d → d ∉ o.looksAt ops) : Like ops o a (a.put p.dst u) := ⟨execOp_put o ho a p.dst u h, wanted_put o a p.dst u h⟩

/-- j behind o is j ahead of o, where the two are apart. -/
theorem ahead {j : Nat} {o p : Oper} {v : Value} (hj : ops[j]? = some p) (hap : o.apart ops p = true) (ho : ∀ c b, o.op ≠ .select c b) (hp : ∀ c b, p.op ≠ .select c b)
    (hQ : ∀ c a w, Q (.panic c) (a.put o.dst v) w → Q (.panic c) a w) {K : Act → World → Prop} {a : Act} {w : World} (h : wpOp P ops Q j K (a.put o.dst v) w) :
    wpOp P ops Q j (fun b W => Like ops o a b ∧ K (b.put o.dst v) W) a w := by
  obtain ⟨a1, a2, a3⟩ := Oper.apart_spec hap
  have sw : ∀ u, (a.put o.dst v).put p.dst u = (a.put p.dst u).put o.dst v := fun u => Act.put_comm a v u a2
  have lk : ∀ u, Like ops o a (a.put p.dst u) := fun u => Like.put ho a3
  have hx := execOp_put p hp a o.dst v a1
  have hg := wanted_put p a o.dst v a1
  unfold wpOp at h ⊢
  rw [hj] at h ⊢
  dsimp only at h ⊢
  rw [hg] at h
  by_cases hw : Region.wanted p (yielded ops a.tmps) = true
  · rw [if_pos hw] at h ⊢
    refine h.imp (fun h => ?_) (fun h => ⟨by have := h.1; unfold Oper.asks at this ⊢; rwa [hx] at this, h.2⟩)
    unfold Oper.wp at h ⊢
    rw [hx] at h
    revert h
    cases (execOp a.eval p).run P w with
    | halt x W => intro h; cases x <;> first | exact h | exact hQ _ _ _ h
    | ok nx W =>
      intro h
      cases nx with
      | value u => exact ⟨lk u, sw u ▸ h⟩
      | skip => exact ⟨lk _, sw undef ▸ h⟩
      | row r args => exact Rows.mono h fun u W k => ⟨lk u, sw u ▸ k⟩
      | enter f args =>
        refine Calls.mono h fun e W k => ?_
        cases e with
        | returned u => exact ⟨lk u, sw u ▸ k⟩
        | panicked c => exact hQ _ _ _ k
        | outgrown => exact k
      | defer d =>
        have k := Like.put (ops := ops) (o := o) (p := p) (a := ({ a with defers := d :: a.defers } : Act)) (u := undef) ho a3
        have e := Act.put_comm ({ a with defers := d :: a.defers } : Act) v undef a2
        have h' : K (({ a.put o.dst v with defers := d :: (a.put o.dst v).defers } : Act).put p.dst undef) W := h
        rw [Act.put_defers, e] at h'
        exact ⟨⟨k.e, k.g⟩, h'⟩
      | _ => exact h
  · rw [if_neg hw] at h ⊢
    exact ⟨lk _, sw undef ▸ h⟩

theorem Any.lead {i : Nat} {o : Oper} {v : Value} (hi : ops[i]? = some o) (hs : Region.noSelect ops = true) (hQ : ∀ c a w, Q (.panic c) (a.put o.dst v) w → Q (.panic c) a w) {a : Act} (hv : Leaves P ops S o v a) (n : Nat) :
    ∀ (l : Array Bool) (b : Act) (w : World), Region.free md ops l i = true → i ∈ Region.ready md ops l → Like ops o a b → Any P md ops Q S n (l.setIfInBounds i true) (b.put o.dst v) w → Any P md ops Q S (n + 1) l b w := by
  have sel := Region.noSelect_spec hs
  have self : ∀ {n : Nat} {l : Array Bool} {b : Act} {w W : World}, Like ops o a b → Any P md ops Q S n (l.setIfInBounds i true) (b.put o.dst v) w → Below w.heap.size w W → S W →
      wpOp P ops Q i (fun c V => S V ∧ Any P md ops Q S n (l.setIfInBounds i true) c V) b W := fun k h hb hS =>
    hv i Q _ _ _ hi k hS (fun V hV hSV => ⟨hSV, h.grown (hb.trans (hV.mono hb.size))⟩)
  induction n with
  | zero =>
    intro l b w hf hr k h W hb hS
    refine ⟨fun e => absurd (e ▸ hr) (by simp), fun j hj => ?_⟩
    by_cases e : j = i
    · exact e ▸ self k h hb hS
    · exact absurd ((h W hb hS).1 ▸ ready_mono hj e) (by simp)
  | succ n ih =>
    intro l b w hf hr k h W hb hS
    refine ⟨fun e => absurd (e ▸ hr) (by simp), fun j hj => ?_⟩
    by_cases e : j = i
    · exact e ▸ self k h hb hS
    · obtain ⟨hun, p, hp, hall⟩ := mem_ready.1 hj
      -- j does not wait for i, which has not come up yet
      have hno : ∀ x ∈ p.after, Region.binds md x = true → x.on ≠ i := fun x hx hbd he => by
        have h1 := hall x hx hbd
        have h2 := (mem_ready.1 hr).1
        rw [he] at h1
        simp only [Array.getD_eq_getD_getElem?] at h1 h2
        cases hc : l[i]? <;> simp_all
      have hap := Region.free_spec hi hf j p hp e hun hno
      refine wpOp_mono (fun c V q => ⟨q.2.1, ?_⟩) (ahead hp hap (fun c x => sel i o c x hi) (fun c x => sel j p c x hp) hQ ((h W hb hS).2 j (ready_mono hj e)))
      refine ih _ c V ?_ (ready_mono hr (Ne.symm e)) ⟨q.1.e.trans k.e, q.1.g.trans k.g⟩ (Array.setIfInBounds_comm _ _ e ▸ q.2.2)
      -- still apart from all that is left
      unfold Region.free at hf ⊢
      rw [hi] at hf ⊢
      simp only [List.all_eq_true, Bool.or_eq_true, beq_iff_eq] at hf ⊢
      intro m hm
      rcases hf m hm with (h1 | h1) | h1
      · exact .inl (.inl h1)
      · exact .inl (.inr (by
          by_cases hjm : j = m
          · subst hjm; rw [hun] at h1; cases h1
          · rwa [getD_set_ne true hjm]))
      · exact .inr h1

theorem Leaves.val {o : Oper} {v : Value} {a : Act} (hw : Region.wanted o (yielded ops a.tmps) = true) (hy : ∀ W, S W → (execOp a.eval o).run P W = .ok (.value v) W) : Leaves P ops S o v a := fun i Q K b w hi k hS h => by
  unfold wpOp
  rw [hi]
  dsimp only
  rw [if_pos (k.g.trans hw)]
  unfold Oper.wp
  rw [k.e, hy w hS]
  exact .inl (h w (Below.refl _ _) hS)
theorem Leaves.call {o : Oper} {v : Value} {a : Act} {f : FuncId} {args : Array Value} (st : Stb S) (hw : Region.wanted o (yielded ops a.tmps) = true) (hy : ∀ W, (execOp a.eval o).run P W = .ok (.enter f args) W)
    (hc : ∀ W, S W → Calls P f args W fun e w' => e = .returned v ∧ Below W.heap.size W w') : Leaves P ops S o v a := fun i Q K b w hi k hS h => by
  unfold wpOp
  rw [hi]
  dsimp only
  rw [if_pos (k.g.trans hw)]
  unfold Oper.wp
  rw [k.e, hy w]
  refine .inl ((hc w hS).mono ?_)
  rintro e W ⟨rfl, hb⟩
  exact h W hb (st _ _ hS hb)
theorem Leaves.none {o : Oper} {a : Act} (hw : Region.wanted o (yielded ops a.tmps) = false) : Leaves P ops S o undef a := fun i Q K b w hi k hS h => by
  unfold wpOp
  rw [hi]
  dsimp only
  rw [if_neg (by rw [k.g, hw]; decide)]
  exact h w (Below.refl _ _) hS

/-! ### the moves: any (begin), tk (a pure one, a load), cl (a call), sk (left out by its guard), one (the single one that may come up), all (whatever may come up), done -/
theorem any {id : Nat} {a : Act} {w : World} (S : World → Prop) (st : Stb S) (hS : S w.drew) (h : Stb S → Any P .any ops Q S ops.size (Array.replicate ops.size false) a w.drew) (hm : P.follows .mixedOrders = true := by kernel_rfl) : (Code.region id ops true).wp P Q a w :=
  wp_region_any hm ((h st).out hS)
theorem done {n : Nat} {l : Array Bool} {a : Act} {w : World} (h : ∀ W, Below w.heap.size w W → S W → Q .normal a W) (hr : Region.ready md ops l = [] := by kernel_rfl) : Any P md ops Q S n l a w := by
  cases n with
  | zero => exact fun W hb hS => ⟨hr, h W hb hS⟩
  | succ n => exact fun W hb hS => ⟨fun _ => h W hb hS, fun i hi => absurd (hr ▸ hi) (by simp)⟩
theorem all (rs : List Nat) {n : Nat} {l : Array Bool} {a : Act} {w : World} (h : ∀ W, Below w.heap.size w W → S W → ∀ i ∈ rs, wpOp P ops Q i (fun b V => S V ∧ Any P md ops Q S n (l.setIfInBounds i true) b V) a W)
    (hr : Region.ready md ops l = rs := by kernel_rfl) (hne : rs ≠ [] := by simp) : Any P md ops Q S (n + 1) l a w :=
  fun W hb hS => ⟨fun h0 => absurd (hr ▸ h0) hne, hr ▸ h W hb hS⟩
theorem one (i : Nat) {o : Oper} {n : Nat} {l : Array Bool} {a : Act} {w : World} (h : ∀ W, Below w.heap.size w W → S W → o.wp P a W (fun b V => S V ∧ Any P md ops Q S n (l.setIfInBounds i true) b V) Q)
    (hi : ops[i]? = some o := by rfl) (hw : Region.wanted o (yielded ops a.tmps) = true := by rfl) (hr : Region.ready md ops l = [i] := by kernel_rfl) : Any P md ops Q S (n + 1) l a w :=
  all [i] (fun W hb hS j hj => by
    rw [List.mem_singleton] at hj
    subst hj
    unfold wpOp
    rw [hi]
    dsimp only
    rw [if_pos hw]
    exact .inl (h W hb hS)) hr
theorem tk (i : Nat) (d : Option Tmp) {o : Oper} {v : Value} {n : Nat} {l : Array Bool} {a b : Act} {w : World} (h : Any P md ops Q S n (l.setIfInBounds i true) b w)
    (hi : ops[i]? = some o := by rfl) (hd : o.dst = d := by rfl) (hs : Region.noSelect ops = true := by kernel_rfl) (hf : Region.free md ops l i = true := by kernel_rfl) (hr : (Region.ready md ops l).contains i = true := by kernel_rfl)
    (hQ : ∀ c a w, Q (.panic c) (a.put o.dst v) w → Q (.panic c) a w := by exact fun _ _ _ h => h) (hw : Region.wanted o (yielded ops a.tmps) = true := by rfl) (hy : ∀ W, S W → (execOp a.eval o).run P W = .ok (.value v) W := by intro W hW; go_simp; try with_reducible rfl)
    (ha : a.put d v = b := by (simp only [Act.put, List.setIfInBounds_toArray, List.set_cons_zero, List.set_cons_succ]; rfl)) : Any P md ops Q S (n + 1) l a w := by
  subst hd ha
  exact Any.lead hi hs hQ (.val hw hy) n l a w hf (by simpa using hr) ⟨rfl, rfl⟩ h
theorem cl (i : Nat) (d : Option Tmp) {o : Oper} {v : Value} {n : Nat} {l : Array Bool} {a b : Act} {w : World} {f : FuncId} {args : Array Value} (st : Stb S) (hc : ∀ W, S W → Calls P f args W fun e w' => e = .returned v ∧ Below W.heap.size W w') (h : Any P md ops Q S n (l.setIfInBounds i true) b w)
    (hi : ops[i]? = some o := by rfl) (hd : o.dst = d := by rfl) (hs : Region.noSelect ops = true := by kernel_rfl) (hf : Region.free md ops l i = true := by kernel_rfl) (hr : (Region.ready md ops l).contains i = true := by kernel_rfl)
    (hQ : ∀ c a w, Q (.panic c) (a.put o.dst v) w → Q (.panic c) a w := by exact fun _ _ _ h => h) (hw : Region.wanted o (yielded ops a.tmps) = true := by rfl) (hy : ∀ W, (execOp a.eval o).run P W = .ok (.enter f args) W := by intro W; go_simp; try with_reducible rfl)
    (ha : a.put d v = b := by (simp only [Act.put, List.setIfInBounds_toArray, List.set_cons_zero, List.set_cons_succ]; rfl)) : Any P md ops Q S (n + 1) l a w := by
  subst hd ha
  exact Any.lead hi hs hQ (.call st hw hy hc) n l a w hf (by simpa using hr) ⟨rfl, rfl⟩ h
theorem sk (i : Nat) (d : Option Tmp) {o : Oper} {n : Nat} {l : Array Bool} {a b : Act} {w : World} (h : Any P md ops Q S n (l.setIfInBounds i true) b w)
    (hi : ops[i]? = some o := by rfl) (hd : o.dst = d := by rfl) (hs : Region.noSelect ops = true := by kernel_rfl) (hf : Region.free md ops l i = true := by kernel_rfl) (hr : (Region.ready md ops l).contains i = true := by kernel_rfl)
    (hQ : ∀ c a w, Q (.panic c) (a.put o.dst undef) w → Q (.panic c) a w := by exact fun _ _ _ h => h) (hw : Region.wanted o (yielded ops a.tmps) = false := by kernel_rfl)
    (ha : a.put d undef = b := by (simp only [Act.put, List.setIfInBounds_toArray, List.set_cons_zero, List.set_cons_succ]; rfl)) : Any P md ops Q S (n + 1) l a w := by
  subst hd ha
  exact Any.lead hi hs hQ (.none hw) n l a w hf (by simpa using hr) ⟨rfl, rfl⟩ h
end
end Go.Proofs.YtdpdoclhdjhjkaaGreat.Free
namespace Go.Proofs.YtdpdoclhdjhjkaaGreat
open Go.RowKit
set_option maxHeartbeats 4000000
set_option maxRecDepth 100000
set_option linter.unusedVariables false
set_option linter.unusedSimpArgs false

/-! ### whole rows, structs or arrays -/
structure RowV (ty : TypeId) (n : Nat) : Prop where
  u : (∃ fs, Tryz.prog.underlying ty = some (.struct fs)) ∨ (∃ k e, Tryz.prog.underlying ty = some (.array k e))
  i : (Tryz.prog.info? ty).map (·.size) = some n
theorem rvFns : RowV 188 18 := ⟨.inr ⟨_, _, Tryz.underlying188⟩, by kernel_rfl⟩
theorem rvCs : RowV 103 18 := ⟨.inr ⟨_, _, Tryz.underlying103⟩, by kernel_rfl⟩
theorem rvPlaces : RowV 108 164 := ⟨.inl ⟨_, Tryz.underlying108⟩, by kernel_rfl⟩
theorem rvSm : RowV 106 144 := ⟨.inr ⟨_, _, Tryz.underlying106⟩, by kernel_rfl⟩
section
variable {ops : Array Oper} {rest : List Oper} {a : Act} {w : World} {Q : Exit → Act → World → Prop} {R : Nat} {c old : Array Value} {d : Option Tmp} {x y : Operand} {ty ty2 : TypeId} {pos : String} {af : Array Edge} {n : Nat}
theorem RowV.inf (ht : RowV ty n) (hs : c.size = n) : (Tryz.prog.info? ty).map (·.size) = some c.size := by rw [hs]; exact ht.i
theorem run_load_V (ht : RowV ty n) {W : World} (hr : Rf ty n W R c) : (loadVar ty ⟨R, 0, none⟩).run Tryz.prog W = .ok (.agg c) W := by
  rcases ht.u with ⟨fs, hu⟩ | ⟨k, e, hu⟩
  · exact run_loadVar_row W R ty ty c (0, 0) _ hr.blk hu rfl (ht.inf hr.size)
  · exact run_loadVar_row W R ty ty c (0, 0) _ hr.blk hu rfl (ht.inf hr.size)
theorem wp_load_V (ht : RowV ty n) (hr : Rf ty n w R c) (hx : a.eval x = .pointer (some ⟨R, 0, none⟩)) (h : wpList Tryz.prog ops Q rest (a.put d (.agg c)) w) :
    wpList Tryz.prog ops Q ({ dst := d, op := .load ty x, type := ty2, pos := pos, after := af, guard := none } :: rest) a w := by
  rcases ht.u with ⟨fs, hu⟩ | ⟨k, e, hu⟩
  · exact wpList_load_row rfl ty x rfl R hx ty c (0, 0) _ hr.blk hu rfl (ht.inf hr.size) h
  · exact wpList_load_row rfl ty x rfl R hx ty c (0, 0) _ hr.blk hu rfl (ht.inf hr.size) h
/-- .. into the block that was made last. -/
theorem wp_store_Vn (c : Array Value) (ht : RowV ty n) (hc : old.size = n ∧ Ok1 n c) (hx : a.eval x = .pointer (some ⟨w.heap.size, 0, none⟩)) (hy : a.eval y = .agg c) (h : wpList Tryz.prog ops Q rest (a.put d undef) (w.alloc (.cells c ty))) :
    wpList Tryz.prog ops Q ({ dst := d, op := .store ty x y, type := ty2, pos := pos, after := af, guard := none } :: rest) a (w.alloc (.cells old ty)) :=
  wpList_store_blk rfl ty x y rfl w.heap.size c old hx hy ty (blk_new w old ty) (ht.inf hc.2.1) (by rw [hc.1, hc.2.1]) hc.2.2 (by rw [World.setRow_alloc_new]; exact h)
theorem res_V {fn : Func} {p : Tmp} (ht : RowV ty n) (h : fn.results = #[.cell p ty]) (tmps : Array Value) {W : World} (hr : Rf ty n W R c) (hp : tmps.getD p undef = .pointer (some ⟨R, 0, none⟩)) :
    (results fn tmps).run Tryz.prog W = .ok (.agg c) W := by
  have hp' : tmps[p]?.getD undef = .pointer (some ⟨R, 0, none⟩) := by simpa using hp
  simp [results, h, hp', asAddr, run_load_V ht hr]
theorem wp_load_VM {o : Nat} (ht : RowV ty n) (hr : w.rangeAt R o c.toList ∧ c.size = n) (hx : a.eval x = .pointer (some ⟨R, o, none⟩)) (h : wpList Tryz.prog ops Q rest (a.put d (.agg c)) w) :
    wpList Tryz.prog ops Q ({ dst := d, op := .load ty x, type := ty2, pos := pos, after := af, guard := none } :: rest) a w := by
  have : (Instr.loadAt ty (.pointer (some ⟨R, o, none⟩))).run Tryz.prog w = .ok (.agg c.toList.toArray) w := by
    rcases ht.u with ⟨fs, hu⟩ | ⟨k, e, hu⟩
    · exact run_loadAt_mid (P := Tryz.prog) w R o ty c.toList _ hr.1 hu rfl (by rw [ht.i]; simp [hr.2])
    · exact run_loadAt_mid (P := Tryz.prog) w R o ty c.toList _ hr.1 hu rfl (by rw [ht.i]; simp [hr.2])
  refine wpList_plain rfl fun K hK => ?_
  unfold Oper.wp execOp
  simp only [hx, Sem.run_bind, this, Result.andThen_ok]
  exact hK _ _ h
end

/-! ### the table of function values -/
def stF : Array Value := #[.nilFunc, .func (.func 104) #[] #[], .func (.func 105) #[] #[], .func (.func 106) #[] #[], .func (.func 107) #[] #[], .func (.func 108) #[] #[], .func (.func 109) #[] #[], .func (.func 110) #[] #[], .func (.func 111) #[] #[], .func (.func 112) #[] #[], .func (.func 113) #[] #[], .func (.func 114) #[] #[], .func (.func 115) #[] #[], .func (.func 116) #[] #[], .func (.func 117) #[] #[], .func (.func 118) #[] #[], .func (.func 119) #[] #[], .func (.func 120) #[] #[]]
theorem stF_ok : Ok1 18 stF := ⟨rfl, by simp [stF, Value.oneCell']⟩
theorem standing_any (w : World) : Calls Tryz.prog 95 #[] w fun e w' => e = .returned (.agg stF) ∧ Below w.heap.size w w' := by
  have HO := Lib.hid stF_ok
  have HE : Hid (stF = _) := rfl
  go_enter Tryz.func95, Tryz.ntmps95
  go_wp2_with ((with_reducible refine wp_store_Vn stF rvFns ⟨?_, HO.out⟩ ?_ ?_ ?_); (rfl); (rfl); (rfl))
  exact bodyPost_ret (res_V rvFns rfl _ (HO.out.new _ w) rfl) rfl ⟨rfl, bel1 w _⟩
/-! ### what each of them gives -/
theorem build_shd (w : World) (M : Nat) : (Instr.build 203 #[(0, .pointer (some ⟨M, 0, none⟩))]).run Tryz.prog w = .ok (.agg #[.pointer (some ⟨M, 0, none⟩)]) w := by kernel_rfl
end Go.Proofs.YtdpdoclhdjhjkaaGreat
namespace Go.Proofs.YtdpdoclhdjhjkaaGreat
open Go.RowKit
set_option maxHeartbeats 4000000
set_option maxRecDepth 100000
set_option linter.unusedVariables false
set_option linter.unusedSimpArgs false

def mst (k : Nat) : Nat := if k = 1 then 8 else if k = 11 then 4 else if k = 17 then 2 else 1
/-- What stands for a kind. -/
def ofV (P M D : Nat) (C : Nat → Nat) (k : Nat) : Value :=
  if k = 10 then .iface 203 (.agg #[.pointer (some ⟨M, 0, none⟩)]) else if k = 12 then .iface 203 (.agg #[.pointer (some ⟨D, 0, none⟩)]) else
    if T.cntK k = true then .iface 102 (.map (some (C k))) else .iface 201 (.slice (some ⟨P, 2 + 8 * k, none⟩) (mst k) 8)
/-- What of reads. -/
structure OfIs (w : World) (P M D : Nat) (C : Nat → Nat) : Prop where
  m : w.cell? ⟨P, 0, none⟩ = some (.pointer (some ⟨M, 0, none⟩))
  d : w.cell? ⟨P, 1, none⟩ = some (.pointer (some ⟨D, 0, none⟩))
  c : ∀ k : Nat, k < 18 → w.cell? ⟨P, 146 + k, none⟩ = some (cmV C k)
theorem OfIs.below {w w' : World} {P M D : Nat} {C : Nat → Nat} (h : OfIs w P M D C) (hb : Below w.heap.size w w') : OfIs w' P M D C := ⟨cell_below h.m hb, cell_below h.d hb, fun k hk => cell_below (h.c k hk) hb⟩
theorem ofis {w : World} {P M D : Nat} {s : Nat → Int} {C : Nat → Nat} (h : Blk w P (plCells M D s C) 108) : OfIs w P M D C := ⟨(h.cell 0).trans (plCells_0 _ _ _ _), (h.cell 1).trans (plCells_1 _ _ _ _), fun k hk => (h.cell (146 + k)).trans (plCells_map _ _ _ _ hk)⟩

theorem st1_any (P : Nat) (w : World) : Calls Tryz.prog 104 #[.pointer (some ⟨P, 0, none⟩)] w fun e w' => e = .returned (.iface 201 (.slice (some ⟨P, 10, none⟩) 8 8)) ∧ w = w' := by
  go_enter Tryz.func104, Tryz.ntmps104
  go_wp2
  go_ret
  exact ⟨rfl, rfl⟩
theorem st2_any (P : Nat) (w : World) : Calls Tryz.prog 105 #[.pointer (some ⟨P, 0, none⟩)] w fun e w' => e = .returned (.iface 201 (.slice (some ⟨P, 18, none⟩) 1 8)) ∧ w = w' := by
  go_enter Tryz.func105, Tryz.ntmps105
  go_wp2
  go_ret
  exact ⟨rfl, rfl⟩
theorem st3_any (P : Nat) (w : World) : Calls Tryz.prog 106 #[.pointer (some ⟨P, 0, none⟩)] w fun e w' => e = .returned (.iface 201 (.slice (some ⟨P, 26, none⟩) 1 8)) ∧ w = w' := by
  go_enter Tryz.func106, Tryz.ntmps106
  go_wp2
  go_ret
  exact ⟨rfl, rfl⟩
theorem st4_any (P : Nat) (w : World) : Calls Tryz.prog 107 #[.pointer (some ⟨P, 0, none⟩)] w fun e w' => e = .returned (.iface 201 (.slice (some ⟨P, 34, none⟩) 1 8)) ∧ w = w' := by
  go_enter Tryz.func107, Tryz.ntmps107
  go_wp2
  go_ret
  exact ⟨rfl, rfl⟩
theorem st5_any (P : Nat) (w : World) : Calls Tryz.prog 108 #[.pointer (some ⟨P, 0, none⟩)] w fun e w' => e = .returned (.iface 201 (.slice (some ⟨P, 42, none⟩) 1 8)) ∧ w = w' := by
  go_enter Tryz.func108, Tryz.ntmps108
  go_wp2
  go_ret
  exact ⟨rfl, rfl⟩
theorem st6_any (P : Nat) (w : World) : Calls Tryz.prog 109 #[.pointer (some ⟨P, 0, none⟩)] w fun e w' => e = .returned (.iface 201 (.slice (some ⟨P, 50, none⟩) 1 8)) ∧ w = w' := by
  go_enter Tryz.func109, Tryz.ntmps109
  go_wp2
  go_ret
  exact ⟨rfl, rfl⟩
theorem st7_any (P : Nat) (w : World) : Calls Tryz.prog 110 #[.pointer (some ⟨P, 0, none⟩)] w fun e w' => e = .returned (.iface 201 (.slice (some ⟨P, 58, none⟩) 1 8)) ∧ w = w' := by
  go_enter Tryz.func110, Tryz.ntmps110
  go_wp2
  go_ret
  exact ⟨rfl, rfl⟩
theorem st8_any (P : Nat) (w : World) : Calls Tryz.prog 111 #[.pointer (some ⟨P, 0, none⟩)] w fun e w' => e = .returned (.iface 201 (.slice (some ⟨P, 66, none⟩) 1 8)) ∧ w = w' := by
  go_enter Tryz.func111, Tryz.ntmps111
  go_wp2
  go_ret
  exact ⟨rfl, rfl⟩
theorem st9_any (P : Nat) (w : World) : Calls Tryz.prog 112 #[.pointer (some ⟨P, 0, none⟩)] w fun e w' => e = .returned (.iface 201 (.slice (some ⟨P, 74, none⟩) 1 8)) ∧ w = w' := by
  go_enter Tryz.func112, Tryz.ntmps112
  go_wp2
  go_ret
  exact ⟨rfl, rfl⟩
theorem st10_any (P M : Nat) (w : World) (h : w.cell? ⟨P, 0, none⟩ = some (.pointer (some ⟨M, 0, none⟩))) : Calls Tryz.prog 113 #[.pointer (some ⟨P, 0, none⟩)] w fun e w' => e = .returned (.iface 203 (.agg #[.pointer (some ⟨M, 0, none⟩)])) ∧ w = w' := by
  go_enter Tryz.func113, Tryz.ntmps113
  go_wp2
  go_ret
  exact ⟨rfl, rfl⟩
theorem st11_any (P : Nat) (w : World) : Calls Tryz.prog 114 #[.pointer (some ⟨P, 0, none⟩)] w fun e w' => e = .returned (.iface 201 (.slice (some ⟨P, 90, none⟩) 4 8)) ∧ w = w' := by
  go_enter Tryz.func114, Tryz.ntmps114
  go_wp2
  go_ret
  exact ⟨rfl, rfl⟩
theorem st12_any (P M : Nat) (w : World) (h : w.cell? ⟨P, 1, none⟩ = some (.pointer (some ⟨M, 0, none⟩))) : Calls Tryz.prog 115 #[.pointer (some ⟨P, 0, none⟩)] w fun e w' => e = .returned (.iface 203 (.agg #[.pointer (some ⟨M, 0, none⟩)])) ∧ w = w' := by
  go_enter Tryz.func115, Tryz.ntmps115
  go_wp2
  go_ret
  exact ⟨rfl, rfl⟩
theorem st13_any (P b : Nat) (w : World) (h : w.cell? ⟨P, 159, none⟩ = some (.map (some b))) : Calls Tryz.prog 116 #[.pointer (some ⟨P, 0, none⟩)] w fun e w' => e = .returned (.iface 102 (.map (some b))) ∧ w = w' := by
  go_enter Tryz.func116, Tryz.ntmps116
  go_wp2
  go_ret
  exact ⟨rfl, rfl⟩
theorem st14_any (P b : Nat) (w : World) (h : w.cell? ⟨P, 160, none⟩ = some (.map (some b))) : Calls Tryz.prog 117 #[.pointer (some ⟨P, 0, none⟩)] w fun e w' => e = .returned (.iface 102 (.map (some b))) ∧ w = w' := by
  go_enter Tryz.func117, Tryz.ntmps117
  go_wp2
  go_ret
  exact ⟨rfl, rfl⟩
theorem st15_any (P b : Nat) (w : World) (h : w.cell? ⟨P, 161, none⟩ = some (.map (some b))) : Calls Tryz.prog 118 #[.pointer (some ⟨P, 0, none⟩)] w fun e w' => e = .returned (.iface 102 (.map (some b))) ∧ w = w' := by
  go_enter Tryz.func118, Tryz.ntmps118
  go_wp2
  go_ret
  exact ⟨rfl, rfl⟩
theorem st16_any (P b : Nat) (w : World) (h : w.cell? ⟨P, 162, none⟩ = some (.map (some b))) : Calls Tryz.prog 119 #[.pointer (some ⟨P, 0, none⟩)] w fun e w' => e = .returned (.iface 102 (.map (some b))) ∧ w = w' := by
  go_enter Tryz.func119, Tryz.ntmps119
  go_wp2
  go_ret
  exact ⟨rfl, rfl⟩
theorem st17_any (P : Nat) (w : World) : Calls Tryz.prog 120 #[.pointer (some ⟨P, 0, none⟩)] w fun e w' => e = .returned (.iface 201 (.slice (some ⟨P, 138, none⟩) 2 8)) ∧ w = w' := by
  go_enter Tryz.func120, Tryz.ntmps120
  go_wp2
  go_ret
  exact ⟨rfl, rfl⟩
theorem idx_st (w : World) : (Instr.index 188 (.agg stF) (.int .i64 1)).run Tryz.prog w = .ok (.func (.func 104) #[] #[]) w ∧ (Instr.index 188 (.agg stF) (.int .i64 2)).run Tryz.prog w = .ok (.func (.func 105) #[] #[]) w ∧ (Instr.index 188 (.agg stF) (.int .i64 3)).run Tryz.prog w = .ok (.func (.func 106) #[] #[]) w ∧ (Instr.index 188 (.agg stF) (.int .i64 4)).run Tryz.prog w = .ok (.func (.func 107) #[] #[]) w ∧ (Instr.index 188 (.agg stF) (.int .i64 5)).run Tryz.prog w = .ok (.func (.func 108) #[] #[]) w ∧ (Instr.index 188 (.agg stF) (.int .i64 6)).run Tryz.prog w = .ok (.func (.func 109) #[] #[]) w ∧ (Instr.index 188 (.agg stF) (.int .i64 7)).run Tryz.prog w = .ok (.func (.func 110) #[] #[]) w ∧ (Instr.index 188 (.agg stF) (.int .i64 8)).run Tryz.prog w = .ok (.func (.func 111) #[] #[]) w ∧ (Instr.index 188 (.agg stF) (.int .i64 9)).run Tryz.prog w = .ok (.func (.func 112) #[] #[]) w ∧ (Instr.index 188 (.agg stF) (.int .i64 10)).run Tryz.prog w = .ok (.func (.func 113) #[] #[]) w ∧ (Instr.index 188 (.agg stF) (.int .i64 11)).run Tryz.prog w = .ok (.func (.func 114) #[] #[]) w ∧ (Instr.index 188 (.agg stF) (.int .i64 12)).run Tryz.prog w = .ok (.func (.func 115) #[] #[]) w ∧ (Instr.index 188 (.agg stF) (.int .i64 13)).run Tryz.prog w = .ok (.func (.func 116) #[] #[]) w ∧ (Instr.index 188 (.agg stF) (.int .i64 14)).run Tryz.prog w = .ok (.func (.func 117) #[] #[]) w ∧ (Instr.index 188 (.agg stF) (.int .i64 15)).run Tryz.prog w = .ok (.func (.func 118) #[] #[]) w ∧ (Instr.index 188 (.agg stF) (.int .i64 16)).run Tryz.prog w = .ok (.func (.func 119) #[] #[]) w ∧ (Instr.index 188 (.agg stF) (.int .i64 17)).run Tryz.prog w = .ok (.func (.func 120) #[] #[]) w := by
  refine ⟨?_, ?_, ?_, ?_, ?_, ?_, ?_, ?_, ?_, ?_, ?_, ?_, ?_, ?_, ?_, ?_, ?_⟩ <;> kernel_rfl
theorem of1 {w : World} {P M D : Nat} {C : Nat → Nat} (h : OfIs w P M D C) : Calls Tryz.prog 75 #[.pointer (some ⟨P, 0, none⟩), .int .i64 1] w fun e w' => e = .returned (ofV P M D C 1) ∧ Below w.heap.size w w' := by
  have hi := fun W => (idx_st W).1
  clear h
  go_enter Tryz.func75, Tryz.ntmps75
  go_wp2_with fail
  refine (standing_any _).mono ?_
  rintro e w1 ⟨rfl, hb⟩
  go_wp2_with fail
  refine (st1_any P _).mono ?_
  rintro e w2 ⟨rfl, rfl⟩
  go_wp2
  go_ret
  exact ⟨rfl, hb⟩
theorem of2 {w : World} {P M D : Nat} {C : Nat → Nat} (h : OfIs w P M D C) : Calls Tryz.prog 75 #[.pointer (some ⟨P, 0, none⟩), .int .i64 2] w fun e w' => e = .returned (ofV P M D C 2) ∧ Below w.heap.size w w' := by
  have hi := fun W => (idx_st W).2.1
  clear h
  go_enter Tryz.func75, Tryz.ntmps75
  go_wp2_with fail
  refine (standing_any _).mono ?_
  rintro e w1 ⟨rfl, hb⟩
  go_wp2_with fail
  refine (st2_any P _).mono ?_
  rintro e w2 ⟨rfl, rfl⟩
  go_wp2
  go_ret
  exact ⟨rfl, hb⟩
theorem of3 {w : World} {P M D : Nat} {C : Nat → Nat} (h : OfIs w P M D C) : Calls Tryz.prog 75 #[.pointer (some ⟨P, 0, none⟩), .int .i64 3] w fun e w' => e = .returned (ofV P M D C 3) ∧ Below w.heap.size w w' := by
  have hi := fun W => (idx_st W).2.2.1
  clear h
  go_enter Tryz.func75, Tryz.ntmps75
  go_wp2_with fail
  refine (standing_any _).mono ?_
  rintro e w1 ⟨rfl, hb⟩
  go_wp2_with fail
  refine (st3_any P _).mono ?_
  rintro e w2 ⟨rfl, rfl⟩
  go_wp2
  go_ret
  exact ⟨rfl, hb⟩
theorem of4 {w : World} {P M D : Nat} {C : Nat → Nat} (h : OfIs w P M D C) : Calls Tryz.prog 75 #[.pointer (some ⟨P, 0, none⟩), .int .i64 4] w fun e w' => e = .returned (ofV P M D C 4) ∧ Below w.heap.size w w' := by
  have hi := fun W => (idx_st W).2.2.2.1
  clear h
  go_enter Tryz.func75, Tryz.ntmps75
  go_wp2_with fail
  refine (standing_any _).mono ?_
  rintro e w1 ⟨rfl, hb⟩
  go_wp2_with fail
  refine (st4_any P _).mono ?_
  rintro e w2 ⟨rfl, rfl⟩
  go_wp2
  go_ret
  exact ⟨rfl, hb⟩
theorem of5 {w : World} {P M D : Nat} {C : Nat → Nat} (h : OfIs w P M D C) : Calls Tryz.prog 75 #[.pointer (some ⟨P, 0, none⟩), .int .i64 5] w fun e w' => e = .returned (ofV P M D C 5) ∧ Below w.heap.size w w' := by
  have hi := fun W => (idx_st W).2.2.2.2.1
  clear h
  go_enter Tryz.func75, Tryz.ntmps75
  go_wp2_with fail
  refine (standing_any _).mono ?_
  rintro e w1 ⟨rfl, hb⟩
  go_wp2_with fail
  refine (st5_any P _).mono ?_
  rintro e w2 ⟨rfl, rfl⟩
  go_wp2
  go_ret
  exact ⟨rfl, hb⟩
theorem of6 {w : World} {P M D : Nat} {C : Nat → Nat} (h : OfIs w P M D C) : Calls Tryz.prog 75 #[.pointer (some ⟨P, 0, none⟩), .int .i64 6] w fun e w' => e = .returned (ofV P M D C 6) ∧ Below w.heap.size w w' := by
  have hi := fun W => (idx_st W).2.2.2.2.2.1
  clear h
  go_enter Tryz.func75, Tryz.ntmps75
  go_wp2_with fail
  refine (standing_any _).mono ?_
  rintro e w1 ⟨rfl, hb⟩
  go_wp2_with fail
  refine (st6_any P _).mono ?_
  rintro e w2 ⟨rfl, rfl⟩
  go_wp2
  go_ret
  exact ⟨rfl, hb⟩
theorem of7 {w : World} {P M D : Nat} {C : Nat → Nat} (h : OfIs w P M D C) : Calls Tryz.prog 75 #[.pointer (some ⟨P, 0, none⟩), .int .i64 7] w fun e w' => e = .returned (ofV P M D C 7) ∧ Below w.heap.size w w' := by
  have hi := fun W => (idx_st W).2.2.2.2.2.2.1
  clear h
  go_enter Tryz.func75, Tryz.ntmps75
  go_wp2_with fail
  refine (standing_any _).mono ?_
  rintro e w1 ⟨rfl, hb⟩
  go_wp2_with fail
  refine (st7_any P _).mono ?_
  rintro e w2 ⟨rfl, rfl⟩
  go_wp2
  go_ret
  exact ⟨rfl, hb⟩
theorem of8 {w : World} {P M D : Nat} {C : Nat → Nat} (h : OfIs w P M D C) : Calls Tryz.prog 75 #[.pointer (some ⟨P, 0, none⟩), .int .i64 8] w fun e w' => e = .returned (ofV P M D C 8) ∧ Below w.heap.size w w' := by
  have hi := fun W => (idx_st W).2.2.2.2.2.2.2.1
  clear h
  go_enter Tryz.func75, Tryz.ntmps75
  go_wp2_with fail
  refine (standing_any _).mono ?_
  rintro e w1 ⟨rfl, hb⟩
  go_wp2_with fail
  refine (st8_any P _).mono ?_
  rintro e w2 ⟨rfl, rfl⟩
  go_wp2
  go_ret
  exact ⟨rfl, hb⟩
theorem of9 {w : World} {P M D : Nat} {C : Nat → Nat} (h : OfIs w P M D C) : Calls Tryz.prog 75 #[.pointer (some ⟨P, 0, none⟩), .int .i64 9] w fun e w' => e = .returned (ofV P M D C 9) ∧ Below w.heap.size w w' := by
  have hi := fun W => (idx_st W).2.2.2.2.2.2.2.2.1
  clear h
  go_enter Tryz.func75, Tryz.ntmps75
  go_wp2_with fail
  refine (standing_any _).mono ?_
  rintro e w1 ⟨rfl, hb⟩
  go_wp2_with fail
  refine (st9_any P _).mono ?_
  rintro e w2 ⟨rfl, rfl⟩
  go_wp2
  go_ret
  exact ⟨rfl, hb⟩
theorem of10 {w : World} {P M D : Nat} {C : Nat → Nat} (h : OfIs w P M D C) : Calls Tryz.prog 75 #[.pointer (some ⟨P, 0, none⟩), .int .i64 10] w fun e w' => e = .returned (ofV P M D C 10) ∧ Below w.heap.size w w' := by
  have hi := fun W => (idx_st W).2.2.2.2.2.2.2.2.2.1
  have c : ∀ W, Below w.heap.size w W → W.cell? ⟨P, 0, none⟩ = some (.pointer (some ⟨M, 0, none⟩)) := fun W hb => cell_below (h.m) hb
  clear h
  go_enter Tryz.func75, Tryz.ntmps75
  go_wp2_with fail
  refine (standing_any _).mono ?_
  rintro e w1 ⟨rfl, hb⟩
  go_wp2_with fail
  refine (st10_any P M _ (c _ hb)).mono ?_
  rintro e w2 ⟨rfl, rfl⟩
  go_wp2
  go_ret
  exact ⟨rfl, hb⟩
theorem of11 {w : World} {P M D : Nat} {C : Nat → Nat} (h : OfIs w P M D C) : Calls Tryz.prog 75 #[.pointer (some ⟨P, 0, none⟩), .int .i64 11] w fun e w' => e = .returned (ofV P M D C 11) ∧ Below w.heap.size w w' := by
  have hi := fun W => (idx_st W).2.2.2.2.2.2.2.2.2.2.1
  clear h
  go_enter Tryz.func75, Tryz.ntmps75
  go_wp2_with fail
  refine (standing_any _).mono ?_
  rintro e w1 ⟨rfl, hb⟩
  go_wp2_with fail
  refine (st11_any P _).mono ?_
  rintro e w2 ⟨rfl, rfl⟩
  go_wp2
  go_ret
  exact ⟨rfl, hb⟩
theorem of12 {w : World} {P M D : Nat} {C : Nat → Nat} (h : OfIs w P M D C) : Calls Tryz.prog 75 #[.pointer (some ⟨P, 0, none⟩), .int .i64 12] w fun e w' => e = .returned (ofV P M D C 12) ∧ Below w.heap.size w w' := by
  have hi := fun W => (idx_st W).2.2.2.2.2.2.2.2.2.2.2.1
  have c : ∀ W, Below w.heap.size w W → W.cell? ⟨P, 1, none⟩ = some (.pointer (some ⟨D, 0, none⟩)) := fun W hb => cell_below (h.d) hb
  clear h
  go_enter Tryz.func75, Tryz.ntmps75
  go_wp2_with fail
  refine (standing_any _).mono ?_
  rintro e w1 ⟨rfl, hb⟩
  go_wp2_with fail
  refine (st12_any P D _ (c _ hb)).mono ?_
  rintro e w2 ⟨rfl, rfl⟩
  go_wp2
  go_ret
  exact ⟨rfl, hb⟩
theorem of13 {w : World} {P M D : Nat} {C : Nat → Nat} (h : OfIs w P M D C) : Calls Tryz.prog 75 #[.pointer (some ⟨P, 0, none⟩), .int .i64 13] w fun e w' => e = .returned (ofV P M D C 13) ∧ Below w.heap.size w w' := by
  have hi := fun W => (idx_st W).2.2.2.2.2.2.2.2.2.2.2.2.1
  have c : ∀ W, Below w.heap.size w W → W.cell? ⟨P, 159, none⟩ = some (.map (some (C 13))) := fun W hb => cell_below (h.c 13 (by omega)) hb
  clear h
  go_enter Tryz.func75, Tryz.ntmps75
  go_wp2_with fail
  refine (standing_any _).mono ?_
  rintro e w1 ⟨rfl, hb⟩
  go_wp2_with fail
  refine (st13_any P (C 13) _ (c _ hb)).mono ?_
  rintro e w2 ⟨rfl, rfl⟩
  go_wp2
  go_ret
  exact ⟨rfl, hb⟩
theorem of14 {w : World} {P M D : Nat} {C : Nat → Nat} (h : OfIs w P M D C) : Calls Tryz.prog 75 #[.pointer (some ⟨P, 0, none⟩), .int .i64 14] w fun e w' => e = .returned (ofV P M D C 14) ∧ Below w.heap.size w w' := by
  have hi := fun W => (idx_st W).2.2.2.2.2.2.2.2.2.2.2.2.2.1
  have c : ∀ W, Below w.heap.size w W → W.cell? ⟨P, 160, none⟩ = some (.map (some (C 14))) := fun W hb => cell_below (h.c 14 (by omega)) hb
  clear h
  go_enter Tryz.func75, Tryz.ntmps75
  go_wp2_with fail
  refine (standing_any _).mono ?_
  rintro e w1 ⟨rfl, hb⟩
  go_wp2_with fail
  refine (st14_any P (C 14) _ (c _ hb)).mono ?_
  rintro e w2 ⟨rfl, rfl⟩
  go_wp2
  go_ret
  exact ⟨rfl, hb⟩
theorem of15 {w : World} {P M D : Nat} {C : Nat → Nat} (h : OfIs w P M D C) : Calls Tryz.prog 75 #[.pointer (some ⟨P, 0, none⟩), .int .i64 15] w fun e w' => e = .returned (ofV P M D C 15) ∧ Below w.heap.size w w' := by
  have hi := fun W => (idx_st W).2.2.2.2.2.2.2.2.2.2.2.2.2.2.1
  have c : ∀ W, Below w.heap.size w W → W.cell? ⟨P, 161, none⟩ = some (.map (some (C 15))) := fun W hb => cell_below (h.c 15 (by omega)) hb
  clear h
  go_enter Tryz.func75, Tryz.ntmps75
  go_wp2_with fail
  refine (standing_any _).mono ?_
  rintro e w1 ⟨rfl, hb⟩
  go_wp2_with fail
  refine (st15_any P (C 15) _ (c _ hb)).mono ?_
  rintro e w2 ⟨rfl, rfl⟩
  go_wp2
  go_ret
  exact ⟨rfl, hb⟩
theorem of16 {w : World} {P M D : Nat} {C : Nat → Nat} (h : OfIs w P M D C) : Calls Tryz.prog 75 #[.pointer (some ⟨P, 0, none⟩), .int .i64 16] w fun e w' => e = .returned (ofV P M D C 16) ∧ Below w.heap.size w w' := by
  have hi := fun W => (idx_st W).2.2.2.2.2.2.2.2.2.2.2.2.2.2.2.1
  have c : ∀ W, Below w.heap.size w W → W.cell? ⟨P, 162, none⟩ = some (.map (some (C 16))) := fun W hb => cell_below (h.c 16 (by omega)) hb
  clear h
  go_enter Tryz.func75, Tryz.ntmps75
  go_wp2_with fail
  refine (standing_any _).mono ?_
  rintro e w1 ⟨rfl, hb⟩
  go_wp2_with fail
  refine (st16_any P (C 16) _ (c _ hb)).mono ?_
  rintro e w2 ⟨rfl, rfl⟩
  go_wp2
  go_ret
  exact ⟨rfl, hb⟩
theorem of17 {w : World} {P M D : Nat} {C : Nat → Nat} (h : OfIs w P M D C) : Calls Tryz.prog 75 #[.pointer (some ⟨P, 0, none⟩), .int .i64 17] w fun e w' => e = .returned (ofV P M D C 17) ∧ Below w.heap.size w w' := by
  have hi := fun W => (idx_st W).2.2.2.2.2.2.2.2.2.2.2.2.2.2.2.2
  clear h
  go_enter Tryz.func75, Tryz.ntmps75
  go_wp2_with fail
  refine (standing_any _).mono ?_
  rintro e w1 ⟨rfl, hb⟩
  go_wp2_with fail
  refine (st17_any P _).mono ?_
  rintro e w2 ⟨rfl, rfl⟩
  go_wp2
  go_ret
  exact ⟨rfl, hb⟩
theorem of_any {w : World} {P M D : Nat} {C : Nat → Nat} (h : OfIs w P M D C) (k : Nat) (h1 : 1 ≤ k) (h2 : k ≤ 17) : Calls Tryz.prog 75 #[.pointer (some ⟨P, 0, none⟩), .int .i64 (k : Int)] w fun e w' => e = .returned (ofV P M D C k) ∧ Below w.heap.size w w' := by
  rcases (show k = 1 ∨ k = 2 ∨ k = 3 ∨ k = 4 ∨ k = 5 ∨ k = 6 ∨ k = 7 ∨ k = 8 ∨ k = 9 ∨ k = 10 ∨ k = 11 ∨ k = 12 ∨ k = 13 ∨ k = 14 ∨ k = 15 ∨ k = 16 ∨ k = 17 by omega) with rfl | rfl | rfl | rfl | rfl | rfl | rfl | rfl | rfl | rfl | rfl | rfl | rfl | rfl | rfl | rfl | rfl
  · exact of1 h
  · exact of2 h
  · exact of3 h
  · exact of4 h
  · exact of5 h
  · exact of6 h
  · exact of7 h
  · exact of8 h
  · exact of9 h
  · exact of10 h
  · exact of11 h
  · exact of12 h
  · exact of13 h
  · exact of14 h
  · exact of15 h
  · exact of16 h
  · exact of17 h
end Go.Proofs.YtdpdoclhdjhjkaaGreat

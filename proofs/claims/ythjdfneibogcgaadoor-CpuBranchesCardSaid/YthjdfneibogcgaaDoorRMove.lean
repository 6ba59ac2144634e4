/-
  Layer 10: the document's touches: what its walk knows; Move, Decide, Trapped: walks. Written by gen_tq.py.
-/
import Derived.Test.YthjdfneibogcgaaDoorTq
import Derived.Test.YthjdfneibogcgaaDoorDn
import Derived.Test.YthjdfneibogcgaaDoorAt
namespace Go.Proofs.YthjdfneibogcgaaDoor
open Go.RowKit
set_option maxHeartbeats 16000000
set_option linter.unusedVariables false
set_option linter.unusedSimpArgs false

/-- The cells of a touch. -/
def tca (p : Plc) (fv : Value) : Array Value := #[.int .i64 p.kind, .int .i64 p.n, fv]
theorem tca_ok (p : Plc) {fv : Value} (h : fv.oneCell' = true) : Ok1 3 (tca p fv) := ⟨rfl, by simp [tca]; exact ⟨rfl, rfl, h⟩⟩
theorem build_t (p : Plc) (fo : Option Addr) (n c : Nat) (w : World) : (Instr.build 70 #[(0, .agg (pla p)), (1, .slice fo n c)]).run Tryd.prog w = .ok (.agg (tca p (.slice fo n c))) w := by kernel_rfl
theorem RMove_any (p : Plc) (fo : Option Addr) (n c : Nat) (w : World) : Calls Tryd.prog 47 #[.agg (pla p), .slice fo n c] w fun e w' => e = .returned (.agg (tca p (.slice fo n c))) ∧ Below w.heap.size w w' := by
  have HB := Lib.hid (fun W => build_t p fo n c W)
  have RP := Lib.hid (((pla_ok p).new 49 w).alloc (.cells #[.int .i64 0, .int .i64 0, .slice none 0 0] 70))
  have RT : Hid (Rf 70 3 ((w.alloc (.cells (pla p) 49)).alloc (.cells #[.int .i64 0, .int .i64 0, .slice none 0 0] 70)) (w.heap.size + 1) (tca ⟨0, 0⟩ (.slice none 0 0))) := Lib.hid (by have := (tca_ok ⟨0, 0⟩ (fv := .slice none 0 0) rfl).new 70 (w.alloc (.cells (pla p) 49)); rw [World.size_alloc] at this; exact this)
  have HF := Lib.hid (RT.out.set (tca_ok p (fv := .slice fo n c) rfl))
  have HG := Lib.hid (below_setRow ((bel1 w (.cells (pla p) 49)).alloc (by simp) (.cells #[.int .i64 0, .int .i64 0, .slice none 0 0] 70)) (show w.heap.size ≤ w.heap.size + 1 by omega) (tca p (.slice fo n c)))
  go_enter Tryd.func47, Tryd.ntmps47
  go_wp2_with (first | ((with_reducible refine wp_load_R rowP RP.out ?_ ?_); (rfl)) | ((with_reducible refine wp_build_2 (tca p (.slice fo n c)) (.agg (pla p)) (.slice fo n c) ?_ ?_ ?_ ?_); (rfl); (rfl); (exact HB.out)) | ((with_reducible refine wp_store_R (tca p (.slice fo n c)) rowT ⟨RT.out, tca_ok _ rfl⟩ ?_ ?_ ?_); (rfl); (rfl)))
  exact bodyPost_ret (res_R rowT (fn := Tryd.f47) rfl _ HF.out rfl) rfl ⟨rfl, HG.out⟩
theorem RDecide_any (fo : Option Addr) (n c : Nat) (w : World) : Calls Tryd.prog 44 #[.slice fo n c] w fun e w' => e = .returned (.agg (tca (on 0) (.slice fo n c))) ∧ Below w.heap.size w w' := by
  have HF := Lib.hid ((tca_ok (on 0) (fv := .slice fo n c) rfl).new 70 w)
  have HG := Lib.hid (bel1 w (.cells (tca (on 0) (.slice fo n c)) 70))
  go_enter Tryd.func44, Tryd.ntmps44
  go_wp2
  exact bodyPost_ret (res_R rowT (fn := Tryd.f44) rfl _ HF.out rfl) rfl ⟨rfl, HG.out⟩
/-- A list of touches that grows, above w. -/
structure Tg (w : World) (v : Value) (l : List Tch) (bs : List (Nat × TypeId × Nat × Array Value)) (W : World) : Prop where
  t : TsIs W v l
  lo : ∀ k, blkOf v = some k → w.heap.size ≤ k
  k : Kp w.heap.size w W
  b : Bks W bs
section
variable {w W W' : World} {v : Value} {l : List Tch} {bs : List (Nat × TypeId × Nat × Array Value)}
theorem Tg.kp (h : Tg w v l bs W) (hb : Below W.heap.size W W') : Kp w.heap.size w W' := h.k.below hb h.k.size
theorem Tg.after (h : Tg w v l bs W) (hb : Below W.heap.size W W') : Tg w v l bs W' := ⟨h.t.below hb, h.lo, h.kp hb, h.b.below hb⟩
theorem Tg.drew (h : Tg w v l bs W) : Tg w v l bs W.drew := h.after (Below.refl _ _).drew
theorem Pb.tg (h : Pb w bs W) : Tg w (.slice none 0 0) [] bs W := ⟨TsIs.nil _, fun k hk => by simp [blkOf] at hk, Kp.of_below h.k (Nat.le_refl _), h.b⟩
theorem Tg.turned {v' : Value} {l' : List Tch} (h : Tg w v l bs W) (ht : Turned (fun k => blkOf v = some k) W W') (h2 : TsIs W' v' l') (hn : ∀ k, blkOf v' = some k → blkOf v = some k ∨ W.heap.size ≤ k) : Tg w v' l' bs W' := by
  have k1 : Kp w.heap.size W W' := Kp.turned ht h.k.size (fun k hk => ⟨h.lo k hk, by obtain ⟨cs, hg, _⟩ := h.t; obtain ⟨cur, hcur⟩ := hg.in_ hk; exact ⟨cur, _, hcur, .inr rfl⟩⟩)
  refine ⟨h2, fun k hk => ?_, h.k.trans k1, h.b.kp k1⟩
  rcases hn k hk with e | e
  · exact h.lo k e
  · have := h.k.size; omega
end
theorem run_app {w W : World} {v : Value} {l m : List Tch} {bs : List (Nat × TypeId × Nat × Array Value)} (h : Tg w v l bs W) (hl : l.length + m.length ≤ 100) {x : Value} {cs : List Value} (hs : Src Tryd.prog 3 44 x m.length cs W) (hc : TcC W m cs) (ty : TypeId) :
    ∃ v' W', (Builtin.append_ #[44, 44] ty #[v, x]).run Tryd.prog W = .ok v' W' ∧ Tg w v' (l ++ m) bs W' := by
  obtain ⟨cs0, hg, hc0⟩ := h.t
  obtain ⟨v', W', hrun, r1, r2, r3⟩ := run_append_g Tryd.underlying44 infoT rfl (by omega) (by omega) hg hs (by omega) ty
  refine ⟨v', W', hrun, h.turned r2 ⟨cs0 ++ cs, by simpa using r1, ?_⟩ r3⟩
  have k1 : Kp 0 W W' := Kp.turned r2 (Nat.zero_le _) (fun k hk => ⟨Nat.zero_le _, by obtain ⟨cur, hcur⟩ := hg.in_ hk; exact ⟨cur, _, hcur, .inr rfl⟩⟩)
  have app : ∀ (a b : List Tch) (ca cb : List Value), TcC W' a ca → TcC W' b cb → TcC W' (a ++ b) (ca ++ cb) := by
    intro a
    induction a with
    | nil => intro b ca cb h1 h2; cases h1; exact h2
    | cons t r ih =>
      intro b ca cb h1 h2
      obtain ⟨u, c1, e, hp, hr⟩ := h1
      exact ⟨u, c1 ++ cb, by rw [e]; rfl, hp, ih b c1 cb hr h2⟩
  exact app _ _ _ _ (TcC.kp k1 _ _ hc0) (TcC.kp k1 _ _ hc)
/-- One touch is appended, at the walk, at the operation. -/
theorem one_src {W : World} {p : Plc} {fv : Value} {fr : List Plc} (hp : PlIs W fv fr) : Src Tryd.prog 3 44 (.slice (some ⟨W.heap.size, 0, none⟩) 1 1) ([⟨p, fr⟩] : List Tch).length [.int .i64 p.kind, .int .i64 p.n, fv] (W.alloc (.cells (tca p fv) 70)) ∧ TcC (W.alloc (.cells (tca p fv) 70)) [⟨p, fr⟩] [.int .i64 p.kind, .int .i64 p.n, fv] :=
  ⟨t_src W p.kind p.n fv hp.one, ⟨fv, [], rfl, hp.below (bel1 _ _), rfl⟩⟩
theorem wp_app {ops : Array Oper} {rest : List Oper} {a : Act} {Q : Exit → Act → World → Prop} {w W : World} {v fv : Value} {l : List Tch} {bs : List (Nat × TypeId × Nat × Array Value)} {d : Option Tmp} {s x : Operand} {ty2 : TypeId} {pos : String} {af : Array Edge} (p : Plc) (fr : List Plc) (h : Tg w v l bs W) (hp : PlIs W fv fr) (hl : l.length ≤ 20) (hs : a.eval s = v) (hx : a.eval x = .slice (some ⟨W.heap.size, 0, none⟩) 1 1)
    (hK : ∀ v' W', Tg w v' (l ++ [⟨p, fr⟩]) bs W' → wpList Tryd.prog ops Q rest (a.put d v') W') :
    wpList Tryd.prog ops Q ({ dst := d, op := .call { callee := .builtin .append, args := #[s, x], argTypes := #[44, 44] }, type := ty2, pos := pos, after := af, guard := none } :: rest) a (W.alloc (.cells (tca p fv) 70)) := by
  refine wpList_plain rfl fun K hK' => ?_
  obtain ⟨h1, h2⟩ := one_src (p := p) hp
  obtain ⟨v', W', hrun, hT⟩ := run_app (h.after (bel1 W (.cells (tca p fv) 70))) (by simp; omega) h1 h2 ty2
  unfold Oper.wp
  simp [execOp, resolve, invoke, builtin, hs, hx, hrun, Result.andThen]
  exact hK' _ _ (hK v' W' hT)
theorem o_app {op : Oper} {a : Act} {K : Act → World → Prop} {Q : Exit → Act → World → Prop} {w W : World} {v fv : Value} {l : List Tch} {bs : List (Nat × TypeId × Nat × Array Value)} {d : Option Tmp} {s x : Operand} (p : Plc) (fr : List Plc) (h : Tg w v l bs W) (hp : PlIs W fv fr) (hl : l.length ≤ 20) (hd : op.dst = d) (ho : op.op = .call { callee := .builtin .append, args := #[s, x], argTypes := #[44, 44] }) (hs : a.eval s = v) (hx : a.eval x = .slice (some ⟨W.heap.size, 0, none⟩) 1 1)
    (hK : ∀ v' W', Tg w v' (l ++ [⟨p, fr⟩]) bs W' → K (a.put d v') W') : op.wp Tryd.prog a (W.alloc (.cells (tca p fv) 70)) K Q := by
  subst hd
  obtain ⟨h1, h2⟩ := one_src (p := p) hp
  obtain ⟨v', W', hrun, hT⟩ := run_app (h.after (bel1 W (.cells (tca p fv) 70))) (by simp; omega) h1 h2 op.type
  unfold Oper.wp
  simp [execOp, ho, resolve, invoke, builtin, hs, hx, hrun, Result.andThen]
  exact hK v' W' hT
/-- A list of touches is appended, at the walk. -/
theorem wp_apps {ops : Array Oper} {rest : List Oper} {a : Act} {Q : Exit → Act → World → Prop} {w W : World} {v vx : Value} {l m : List Tch} {bs : List (Nat × TypeId × Nat × Array Value)} {d : Option Tmp} {s x : Operand} {ty2 : TypeId} {pos : String} {af : Array Edge} (h : Tg w v l bs W) (hm : TsIs W vx m) (hl : l.length ≤ 20 ∧ m.length ≤ 20) (hs : a.eval s = v) (hx : a.eval x = vx)
    (hK : ∀ v' W', Tg w v' (l ++ m) bs W' → wpList Tryd.prog ops Q rest (a.put d v') W') :
    wpList Tryd.prog ops Q ({ dst := d, op := .call { callee := .builtin .append, args := #[s, x], argTypes := #[44, 44] }, type := ty2, pos := pos, after := af, guard := none } :: rest) a W := by
  refine wpList_plain rfl fun K hK' => ?_
  obtain ⟨cs, hg, hc⟩ := hm
  obtain ⟨v', W', hrun, hT⟩ := run_app h (by omega) (hg.src Tryd.underlying44 (TcC.one _ _ hc)) hc ty2
  unfold Oper.wp
  simp [execOp, resolve, invoke, builtin, hs, hx, hrun, Result.andThen]
  exact hK' _ _ (hK v' W' hT)
theorem RMove_x (k n : Int) (fo : Option Addr) (a c : Nat) (w : World) : Calls Tryd.prog 47 #[.agg #[.int .i64 k, .int .i64 n], .slice fo a c] w fun e w' => e = .returned (.agg #[.int .i64 k, .int .i64 n, .slice fo a c]) ∧ Below w.heap.size w w' := RMove_any ⟨k, n⟩ fo a c w
theorem RDecide_x (fo : Option Addr) (a c : Nat) (w : World) : Calls Tryd.prog 44 #[.slice fo a c] w fun e w' => e = .returned (.agg #[.int .i64 0, .int .i64 0, .slice fo a c]) ∧ Below w.heap.size w w' := RDecide_any fo a c w
theorem wp_app_x {ops : Array Oper} {rest : List Oper} {a : Act} {Q : Exit → Act → World → Prop} {w W : World} {v fv : Value} {l : List Tch} {bs : List (Nat × TypeId × Nat × Array Value)} {d : Option Tmp} {s x : Operand} {ty2 : TypeId} {pos : String} {af : Array Edge} (k n : Int) (fr : List Plc) (h : Tg w v l bs W) (hp : PlIs W fv fr) (hl : l.length ≤ 20) (hs : a.eval s = v) (hx : a.eval x = .slice (some ⟨W.heap.size, 0, none⟩) 1 1)
    (hK : ∀ v' W', Tg w v' (l ++ [⟨⟨k, n⟩, fr⟩]) bs W' → wpList Tryd.prog ops Q rest (a.put d v') W') :
    wpList Tryd.prog ops Q ({ dst := d, op := .call { callee := .builtin .append, args := #[s, x], argTypes := #[44, 44] }, type := ty2, pos := pos, after := af, guard := none } :: rest) a (W.alloc (.cells #[.int .i64 k, .int .i64 n, fv] 70)) := wp_app ⟨k, n⟩ fr h hp hl hs hx hK
theorem o_app_x {op : Oper} {a : Act} {K : Act → World → Prop} {Q : Exit → Act → World → Prop} {w W : World} {v fv : Value} {l : List Tch} {bs : List (Nat × TypeId × Nat × Array Value)} {d : Option Tmp} {s x : Operand} (k n : Int) (fr : List Plc) (h : Tg w v l bs W) (hp : PlIs W fv fr) (hl : l.length ≤ 20) (hd : op.dst = d) (ho : op.op = .call { callee := .builtin .append, args := #[s, x], argTypes := #[44, 44] }) (hs : a.eval s = v) (hx : a.eval x = .slice (some ⟨W.heap.size, 0, none⟩) 1 1)
    (hK : ∀ v' W', Tg w v' (l ++ [⟨⟨k, n⟩, fr⟩]) bs W' → K (a.put d v') W') : op.wp Tryd.prog a (W.alloc (.cells #[.int .i64 k, .int .i64 n, fv] 70)) K Q := o_app ⟨k, n⟩ fr h hp hl hd ho hs hx hK
theorem Tg.box {w W : World} {v : Value} {l : List Tch} {bs : List (Nat × TypeId × Nat × Array Value)} (h : Tg w v l bs W) {ty : TypeId} {n : Nat} {c : Array Value} (hc : Ok1 n c) (h1 : ty ≠ 64) (h2 : ty ≠ 70) : Tg w v l ((W.heap.size, ty, n, c) :: bs) (W.alloc (.cells c ty)) :=
  have h' := h.after (bel1 W (.cells c ty))
  ⟨h'.t, h'.lo, h'.k, ⟨⟨hc.new ty W, h1, h2⟩, h'.b⟩⟩
theorem Tg.low {w W : World} {v : Value} {l : List Tch} {bs : List (Nat × TypeId × Nat × Array Value)} (h : Tg w v l bs W) : Below w.heap.size w W := h.k.b
theorem Bks.h3 {W : World} {x y z : Nat × TypeId × Nat × Array Value} {b : Nat} {ty : TypeId} {n : Nat} {c : Array Value} {r : List (Nat × TypeId × Nat × Array Value)} (h : Bks W (x :: y :: z :: (b, ty, n, c) :: r)) : Rf ty n W b c := h.2.2.2.1.1
/-- The list of two touches, appended behind a pc and a mode. -/
theorem two_src {W : World} {k n k' n' : Int} {f f' : Value} {fr fr' : List Plc} (hp : PlIs W f fr) (hp' : PlIs W f' fr') : TsIs (W.alloc (.cells #[.int .i64 k, .int .i64 n, f, .int .i64 k', .int .i64 n', f'] 70)) (.slice (some ⟨W.heap.size, 0, none⟩) 2 2) [⟨⟨k, n⟩, fr⟩, ⟨⟨k', n'⟩, fr'⟩] :=
  ⟨_, Gs.lit W 70 (sz := 3) (n := 2) rfl (by simp [maxLen]), ⟨f, [.int .i64 k', .int .i64 n', f'], rfl, hp.below (bel1 _ _), ⟨f', [], rfl, hp'.below (bel1 _ _), rfl⟩⟩⟩
theorem five_src {W : World} {k0 n0 k1 n1 k2 n2 k3 n3 k4 n4 : Int} {f0 f1 f2 f3 f4 : Value} {r0 r1 r2 r3 r4 : List Plc} (h0 : PlIs W f0 r0) (h1 : PlIs W f1 r1) (h2 : PlIs W f2 r2) (h3 : PlIs W f3 r3) (h4 : PlIs W f4 r4) : TsIs (W.alloc (.cells #[.int .i64 k0, .int .i64 n0, f0, .int .i64 k1, .int .i64 n1, f1, .int .i64 k2, .int .i64 n2, f2, .int .i64 k3, .int .i64 n3, f3, .int .i64 k4, .int .i64 n4, f4] 70)) (.slice (some ⟨W.heap.size, 0, none⟩) 5 5) [⟨⟨k0, n0⟩, r0⟩, ⟨⟨k1, n1⟩, r1⟩, ⟨⟨k2, n2⟩, r2⟩, ⟨⟨k3, n3⟩, r3⟩, ⟨⟨k4, n4⟩, r4⟩] :=
  ⟨_, Gs.lit W 70 (sz := 3) (n := 5) rfl (by simp [maxLen]), ⟨f0, _, rfl, h0.below (bel1 _ _), ⟨f1, _, rfl, h1.below (bel1 _ _), ⟨f2, _, rfl, h2.below (bel1 _ _), ⟨f3, _, rfl, h3.below (bel1 _ _), ⟨f4, [], rfl, h4.below (bel1 _ _), rfl⟩⟩⟩⟩⟩⟩
theorem RTrapped_any (w : World) : Calls Tryd.prog 45 #[] w fun e w' => (∃ v, e = .returned v ∧ TsIs w' v trapT) ∧ Below w.heap.size w w' := by
  go_enter Tryd.func45, Tryd.ntmps45
  go_wp2_with fail
  refine (ROnly_any 3 _).mono ?_
  rintro e w1 ⟨rfl, hb⟩
  have HB := Lib.hid hb
  clear hb
  go_wp2_with fail
  refine (ROnly_any 2 _).mono ?_
  rintro e w2 ⟨rfl, hb⟩
  replace HB := Lib.hid (HB.out.trans (hb.mono HB.out.size))
  clear hb
  go_wp2_with fail
  refine (RMove_x 3 0 _ 1 1 _).mono ?_
  rintro e w3 ⟨rfl, hb⟩
  have HP3 := Lib.hid ((pl1 w2 2 0).below hb)
  replace hb : Below w2.heap.size w2 w3 := (bel1 w2 (.cells #[.int .i64 2, .int .i64 0] 49)).trans (hb.mono (bel1 w2 (.cells #[.int .i64 2, .int .i64 0] 49)).size)
  replace HB := Lib.hid (HB.out.trans (hb.mono HB.out.size))
  clear hb
  go_wp2_with fail
  refine (ROnly_any 4 _).mono ?_
  rintro e w4 ⟨rfl, hb⟩
  replace HP3 := Lib.hid (HP3.out.below hb)
  replace HB := Lib.hid (HB.out.trans (hb.mono HB.out.size))
  clear hb
  go_wp2_with fail
  refine (RMove_x 4 0 none 0 0 _).mono ?_
  rintro e w5 ⟨rfl, hb⟩
  replace HP3 := Lib.hid (HP3.out.below hb)
  replace HB := Lib.hid (HB.out.trans (hb.mono HB.out.size))
  clear hb
  go_wp2_with fail
  refine (ROnly_any 7 _).mono ?_
  rintro e w6 ⟨rfl, hb⟩
  replace HP3 := Lib.hid (HP3.out.below hb)
  replace HB := Lib.hid (HB.out.trans (hb.mono HB.out.size))
  clear hb
  go_wp2_with fail
  refine (ROnly_any 7 _).mono ?_
  rintro e w7 ⟨rfl, hb⟩
  replace HP3 := Lib.hid (HP3.out.below hb)
  replace HB := Lib.hid (HB.out.trans (hb.mono HB.out.size))
  clear hb
  go_wp2_with fail
  refine (RMove_x 7 0 _ 1 1 _).mono ?_
  rintro e w8 ⟨rfl, hb⟩
  have HP8 := Lib.hid ((pl1 w7 7 0).below hb)
  replace hb : Below w7.heap.size w7 w8 := (bel1 w7 (.cells #[.int .i64 7, .int .i64 0] 49)).trans (hb.mono (bel1 w7 (.cells #[.int .i64 7, .int .i64 0] 49)).size)
  replace HP3 := Lib.hid (HP3.out.below hb)
  replace HB := Lib.hid (HB.out.trans (hb.mono HB.out.size))
  clear hb
  go_wp2_with fail
  refine (ROnly_any 5 _).mono ?_
  rintro e w9 ⟨rfl, hb⟩
  replace HP3 := Lib.hid (HP3.out.below hb)
  replace HP8 := Lib.hid (HP8.out.below hb)
  replace HB := Lib.hid (HB.out.trans (hb.mono HB.out.size))
  clear hb
  go_wp2_with fail
  refine (RDecide_x _ 1 1 _).mono ?_
  rintro e w10 ⟨rfl, hb⟩
  have HP10 := Lib.hid ((pl1 w9 5 0).below hb)
  replace hb : Below w9.heap.size w9 w10 := (bel1 w9 (.cells #[.int .i64 5, .int .i64 0] 49)).trans (hb.mono (bel1 w9 (.cells #[.int .i64 5, .int .i64 0] 49)).size)
  replace HP3 := Lib.hid (HP3.out.below hb)
  replace HP8 := Lib.hid (HP8.out.below hb)
  replace HB := Lib.hid (HB.out.trans (hb.mono HB.out.size))
  clear hb
  go_wp2_with fail
  refine (ROnly_any 2 _).mono ?_
  rintro e w11 ⟨rfl, hb⟩
  replace HP3 := Lib.hid (HP3.out.below hb)
  replace HP8 := Lib.hid (HP8.out.below hb)
  replace HP10 := Lib.hid (HP10.out.below hb)
  replace HB := Lib.hid (HB.out.trans (hb.mono HB.out.size))
  clear hb
  go_wp2_with fail
  refine (ROnly_any 5 _).mono ?_
  rintro e w12 ⟨rfl, hb⟩
  replace HP3 := Lib.hid (HP3.out.below hb)
  replace HP8 := Lib.hid (HP8.out.below hb)
  replace HP10 := Lib.hid (HP10.out.below hb)
  replace HB := Lib.hid (HB.out.trans (hb.mono HB.out.size))
  clear hb
  go_wp2_with fail
  refine (RMove_x 2 0 _ 1 1 _).mono ?_
  rintro e w13 ⟨rfl, hb⟩
  have HP13 := Lib.hid ((pl1 w12 5 0).below hb)
  replace hb : Below w12.heap.size w12 w13 := (bel1 w12 (.cells #[.int .i64 5, .int .i64 0] 49)).trans (hb.mono (bel1 w12 (.cells #[.int .i64 5, .int .i64 0] 49)).size)
  replace HP3 := Lib.hid (HP3.out.below hb)
  replace HP8 := Lib.hid (HP8.out.below hb)
  replace HP10 := Lib.hid (HP10.out.below hb)
  replace HB := Lib.hid (HB.out.trans (hb.mono HB.out.size))
  clear hb
  have HF : Hid _ := Lib.hid (five_src (W := w13) (k0 := 3) (n0 := 0) (k1 := 4) (n1 := 0) (k2 := 7) (n2 := 0) (k3 := 0) (n3 := 0) (k4 := 2) (n4 := 0) HP3.out (PlIs.nil _) HP8.out HP10.out HP13.out)
  have HG := Lib.hid (HB.out.alloc HB.out.size (.cells #[.int .i64 3, .int .i64 0, .slice (some ⟨w2.heap.size, 0, none⟩) 1 1, .int .i64 4, .int .i64 0, .slice none 0 0, .int .i64 7, .int .i64 0, .slice (some ⟨w7.heap.size, 0, none⟩) 1 1, .int .i64 0, .int .i64 0, .slice (some ⟨w9.heap.size, 0, none⟩) 1 1, .int .i64 2, .int .i64 0, .slice (some ⟨w12.heap.size, 0, none⟩) 1 1] 70))
  clear HP3 HP8 HP10 HP13
  go_wp2
  go_ret
  exact ⟨⟨_, rfl, HF.out⟩, HG.out⟩
end Go.Proofs.YthjdfneibogcgaaDoor

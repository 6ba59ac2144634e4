/-
  Layer 10: at, Plan of package cpu: walks. Written by gen_at.py.
-/
import Derived.Test.YthjdfneibogcgaaDoorIsa
import Derived.Test.YthjdfneibogcgaaDoorStep8
namespace Go.Proofs.YthjdfneibogcgaaDoor
open Go.RowKit
set_option maxHeartbeats 8000000
set_option linter.unusedVariables false
set_option linter.unusedSimpArgs false

theorem ins_ok (i : Ins) : Ok1 4 (ic i) := ⟨rfl, by simp [ic, Value.oneCell']⟩
theorem x_ok (s : Sta) (i : Ins) : Ok1 20 (xc s i) := ⟨rfl, xc_one s i⟩
theorem build_x (s : Sta) (i : Ins) (w : World) : (Instr.build 58 #[(0, .agg (sc s)), (1, .agg (ic i))]).run Tryd.prog w = .ok (.agg (xc s i)) w := by kernel_rfl
/-- A composite literal of two parts whose cells are known. -/
theorem wp_build_2 (c : Array Value) (v0 v1 : Value) {ops : Array Oper} {rest : List Oper} {a : Act} {w : World} {Q : Exit → Act → World → Prop} {d : Option Tmp} {ty ty2 : TypeId} {pos : String} {af : Array Edge} {i0 i1 : Nat} {x0 x1 : Operand} (h0 : a.eval x0 = v0) (h1 : a.eval x1 = v1) (hb : ∀ w, (Instr.build ty #[(i0, v0), (i1, v1)]).run Tryd.prog w = .ok (.agg c) w)
    (h : wpList Tryd.prog ops Q rest (a.put d (.agg c)) w) : wpList Tryd.prog ops Q ({ dst := d, op := .build ty #[(i0, x0), (i1, x1)], type := ty2, pos := pos, after := af, guard := none } :: rest) a w :=
  wpList_plain rfl fun K hK => by
    have e : (#[(i0, x0), (i1, x1)] : Array (Nat × Operand)).map (fun (i, x) => (i, a.eval x)) = #[(i0, v0), (i1, v1)] := by simp [h0, h1]
    have hb' := hb w
    unfold Oper.wp execOp
    simp only [e, Sem.run_bind, hb', Result.andThen_ok]
    exact hK _ _ h
theorem decV_is (x : Int) : (decV x).Is := by
  unfold decV
  split
  · exact .inr (by assumption)
  · exact .inl rfl
theorem decV_nat (x : Int) : ∃ (op : Int) (A B : Nat) (m : Int), decV x = ⟨op, A, B, m⟩ ∧ 0 ≤ op ∧ op < 29 ∧ A < 8 ∧ B < 8 ∧ -32768 ≤ m ∧ m ≤ 32767 := by
  have h := (decV_is x).bounds
  obtain ⟨h1, h2, h3, h4, h5⟩ := h
  refine ⟨(decV x).op, (decV x).a.toNat, (decV x).b.toNat, (decV x).imm, ?_, by omega, by omega, by omega, by omega, by omega, by omega⟩
  rw [Int.toNat_of_nonneg h2.1, Int.toNat_of_nonneg h3.1]
theorem at_aux (s : Sta) (x : Int) (i : Ins) (w : World) (HD : Hid (∀ W, Below w.heap.size w W → Calls Tryd.prog 48 #[.int .u32 x] W fun e w' => e = .returned (.tuple #[.agg (ic i), .bool (decB x)]) ∧ Below W.heap.size W w')) : Calls Tryd.prog 25 #[.agg (sc s), .int .u32 x] w fun e w' => e = .returned (.agg (xc s i)) ∧ Below w.heap.size w w' := by
  have HB := Lib.hid (fun W => build_x s i W)
  obtain ⟨W, HW⟩ : ∃ W, Hid (W = (w.alloc (.cells (sc s) 25)).alloc (.cells #[Value.int .u32 0, Value.int .u32 0, Value.int .u32 0, Value.int .u32 0, Value.int .u32 0, Value.int .u32 0, Value.int .u32 0, Value.int .u32 0, Value.int .u32 0, Value.int .u32 0, Value.int .u32 0, Value.int .u32 0, Value.int .u32 0, Value.bool false, Value.bool false, Value.bool false, Value.int .i64 0, Value.int .i64 0, Value.int .i64 0, Value.int .i64 0] 58)) := ⟨_, rfl⟩
  have hb : Below w.heap.size w W := by rw [HW.out]; exact (bel1 w _).alloc (by simp) _
  have ra : Rf 25 16 W w.heap.size (sc s) := by rw [HW.out]; exact (rs_new w s).alloc _
  have rb : Rf 58 20 W (w.heap.size + 1) (xc S0 zeroI) := by rw [HW.out]; have := (x_ok S0 zeroI).new 58 (w.alloc (.cells (sc s) 25)); rw [World.size_alloc] at this; exact this
  have HC := Lib.hid (HD.out W hb)
  have HBe := Lib.hid hb
  have RA := Lib.hid ra
  have RB := Lib.hid rb
  clear hb ra rb
  go_enter Tryd.func25, Tryd.ntmps25
  go_wp2_with (rw [← HW.out])
  refine HC.out.mono ?_
  rintro e w1 ⟨rfl, b1⟩
  have RA1 := Lib.hid ((RA.out.below b1).alloc (.cells (ic i) 56))
  have RB1 := Lib.hid ((RB.out.below b1).alloc (.cells (ic i) 56))
  have RI := Lib.hid ((ins_ok i).new 56 w1)
  have HB1 := Lib.hid ((HBe.out.trans (b1.mono HBe.out.size)).alloc (HBe.out.trans (b1.mono HBe.out.size)).size (.cells (ic i) 56))
  clear b1 HBe
  have HF := Lib.hid (RB1.out.set (x_ok s i))
  have HG := Lib.hid (below_setRow HB1.out (by omega) (xc s i) (g := w.heap.size + 1))
  go_wp2_with (first | ((with_reducible apply wp_store_Rn (ic i) rowI); (exact ⟨rfl, ins_ok _⟩); (rfl); (rfl)) | ((with_reducible apply wp_load_R rowS); (exact RA1.out); (rfl)) | ((with_reducible apply wp_load_R rowI); (exact RI.out); (rfl)) | ((with_reducible apply wp_build_2 (xc s i) (.agg (sc s)) (.agg (ic i))); (rfl); (rfl); (exact HB.out)) | ((with_reducible apply wp_store_R (xc s i) rowX); (exact ⟨RB1.out, x_ok _ _⟩); (rfl); (rfl)))
  exact bodyPost_ret (res_R rowX (fn := Tryd.f25) rfl _ HF.out rfl) rfl ⟨rfl, HG.out⟩
theorem at_any (s : Sta) (x : Int) (hx : W32 x) (w : World) (h : Env w) : Calls Tryd.prog 25 #[.agg (sc s), .int .u32 x] w fun e w' => e = .returned (.agg (xc s (decV x))) ∧ Below w.heap.size w w' :=
  at_aux s x (decV x) w (fun W hW => Decode_any x hx W (h.below hW))
theorem Plan_any (s : Sta) (hs : s.Ok) (x : Int) (hx : W32 x) (w : World) (h : Env w) : Calls Tryd.prog 17 #[.agg (sc s), .int .u32 x] w fun e w' => e = .returned (.agg (wnt (planS s (decV x)))) ∧ Below w.heap.size w w' := by
  obtain ⟨op, A, B, m, hd, h1, h2, h3, h4, h5, h6⟩ := decV_nat x
  obtain ⟨W, HW⟩ : ∃ W, Hid (W = (w.alloc (.cells (sc s) 25)).alloc (.cells #[Value.int .i64 0, Value.int .u32 0, Value.int .u32 0, Value.int .i64 0, Value.int .i64 0, Value.int .u32 0] 42)) := ⟨_, rfl⟩
  have hb : Below w.heap.size w W := by rw [HW.out]; exact (bel1 w _).alloc (by simp) _
  have ra : Rf 25 16 W w.heap.size (sc s) := by rw [HW.out]; exact (rs_new w s).alloc _
  have rb : Rf 42 6 W (w.heap.size + 1) (wnt W0) := by rw [HW.out]; have := (wnt_ok W0).new 42 (w.alloc (.cells (sc s) 25)); rw [World.size_alloc] at this; exact this
  have hc := at_any s x hx W (h.below hb)
  rw [hd] at hc ⊢
  have HC := Lib.hid hc
  have HBe := Lib.hid hb
  have RA := Lib.hid ra
  have RB := Lib.hid rb
  clear hb ra rb hc hd
  go_enter Tryd.func17, Tryd.ntmps17
  go_wp2_with (first | (rw [← HW.out]) | ((with_reducible apply wp_load_R rowS); (exact RA.out); (rfl)))
  refine HC.out.mono ?_
  rintro e w1 ⟨rfl, b1⟩
  have RB1 := Lib.hid (RB.out.below b1)
  have HB1 := Lib.hid (HBe.out.trans (b1.mono HBe.out.size))
  clear b1 HBe
  go_wp2_with fail
  refine (want_any s hs op A B m h3 h4 _).mono ?_
  rintro e w2 ⟨rfl, b2⟩
  have RB2 := Lib.hid (RB1.out.below b2)
  have HB2 := Lib.hid (HB1.out.trans (b2.mono HB1.out.size))
  clear b2
  have HF := Lib.hid (RB2.out.set (wnt_ok (planS s ⟨op, A, B, m⟩)))
  have HG := Lib.hid (below_setRow HB2.out (by omega) (wnt (planS s ⟨op, A, B, m⟩)) (g := w.heap.size + 1))
  go_wp2_with ((with_reducible apply wp_store_R (wnt (planS s ⟨op, A, B, m⟩)) rowW); (exact ⟨RB2.out, wnt_ok _⟩); (rfl); (rfl))
  exact bodyPost_ret (res_R rowW (fn := Tryd.f17) rfl _ HF.out rfl) rfl ⟨rfl, HG.out⟩
end Go.Proofs.YthjdfneibogcgaaDoor

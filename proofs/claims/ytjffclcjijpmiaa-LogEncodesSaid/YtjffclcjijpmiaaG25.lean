/-
  Layer 16: the program's Decode: walk. Written by gen_dec16.py.
-/
import Derived.Test.YtjffclcjijpmiaaG24
import Derived.Test.YtjffclcjijpmiaaG21
import Derived.Test.YtjffclcjijpmiaaG18
import Derived.Test.YtjffclcjijpmiaaG02
set_option linter.unusedVariables false
set_option linter.unusedSimpArgs false
namespace Go.Proofs.Ytjffclcjijpmiaa.LG
open Go.RowKit
set_option maxHeartbeats 8000000
set_option maxRecDepth 100000
set_option linter.unusedVariables false
set_option linter.unusedSimpArgs false
attribute [local go_sem] Oper.semAt_some

/-- What is needed to leave in panic. -/
def DcE (w : World) (D : Nat) (W : World) : Prop := Below w.heap.size w W ∧ Blk W w.heap.size (lgc Lg.zero (.slice none 0 0)) 26 ∧ Blk W (w.heap.size + 1) #[.int .i64 0] 30 ∧ W.heap[D]? = some (.deferred (some []))
theorem DcI.dcE {w : World} {LX NX O mb BB NB D : Nat} {fr se mo : Int} {b : List Int} {bv : Value} {n0 : Nat} {lo : Loop} {rs : List Rc} {wh : Bool} {en nv at_ : Int} {ed : Bool} {W : World} (h : DcI w w.heap.size (w.heap.size + 1) LX NX O mb BB NB D fr se mo b bv n0 lo rs wh en nv at_ ed W) : DcE w D W := ⟨h.u, h.tb, h.er, h.df⟩
theorem PI.drop {b : List Int} {fr se mo : Int} {rs : List Rc} {wh : Bool} {en at_ : Int} {left : List Int} (h : PI b fr se mo rs wh en at_ left) : b.drop (b.length - left.length) = left := by
  have e : b = Lg.enc ⟨fr, se, mo, rs, wh, en⟩ ++ left := by
    unfold Lg.enc
    simp only [List.append_assoc]
    exact h.sp
  have hl := congrArg List.length e
  rw [List.length_append] at hl
  rw [show b.length - left.length = (Lg.enc ⟨fr, se, mo, rs, wh, en⟩).length by omega]
  conv => lhs; rw [e]
  rw [List.drop_left]
theorem DcE.turned {w W W' : World} {D X : Nat} (h : DcE w D W) (ht : Turned (fun k => k = X) W W') (h1 : w.heap.size + 1 < X) (h2 : D ≠ X) (h3 : w.heap.size ≤ W.heap.size) : DcE w D W' :=
  ⟨h.1.trans (ht.below h3 (fun k hk => by omega)), h.2.1.turned ht (by omega), h.2.2.1.turned ht (by omega), heap_turned h.2.2.2 ht h2⟩
theorem next_no {c : List Int} {at_ : Int} {wh : Bool} {r : Rc} (h : RecR c at_ r) (hn : nextOk at_ wh r = false) : wh = true ∨ body c at_ = none := by
  obtain ⟨h1, h2, _, _, _, _, _, h3⟩ := h
  cases wh with
  | true => exact .inl rfl
  | false =>
    refine .inr (h3 ?_)
    unfold nextOk at hn
    simpa [h1, h2] using hn
theorem next_yes {c : List Int} {at_ : Int} {wh : Bool} {r : Rc} (h : RecR c at_ r) (hn : nextOk at_ wh r = true) : wh = false ∧ body c at_ = some r := by
  obtain ⟨h1, h2, _, _, _, _, h3, _⟩ := h
  unfold nextOk at hn
  simp at hn
  exact ⟨by simp_all, h3 (by simp_all)⟩
/-- The box of a round's record is turned. -/
theorem DcI.rbox {w : World} {T E LX NX O mb BB NB D : Nat} {fr se mo : Int} {b : List Int} {bv : Value} {n0 : Nat} {lo : Loop} {rs : List Rc} {wh : Bool} {en nv at_ : Int} {ed : Bool} {W W' : World} (h : DcI w T E LX NX O mb BB NB D fr se mo b bv n0 lo rs wh en nv at_ ed W) (hx : DcX w T E LX NX O mb BB NB D) {R : Nat} {cs : Array Value} (hR : Blk W R cs 42) (hD : D + 1 < R) (hn : ∀ rv, Blk W LX (lgc ⟨fr, se, mo, rs, wh, en⟩ rv) 26 → blkOf rv ≠ some R) (ht : Turned (fun k => k = R) W W') : DcI w T E LX NX O mb BB NB D fr se mo b bv n0 lo rs wh en nv at_ ed W' :=
  h.turned hx ht (fun k hk => by omega) (fun k hk rv hb => by subst hk; exact hn rv hb) (fun k hk cur hc => by
    subst hk
    have := hR.symm.trans hc
    simp at this)
theorem encR_ge : ∀ (l : List Rc) (last : Int), l.length ≤ (encR last l).length
  | [], _ => Nat.zero_le _
  | r :: t, last => by
    have := encR_ge t r.tm
    have hp := num_pos (bd r last).length
    show t.length + 1 ≤ (rb r last ++ encR r.tm t).length
    unfold rb
    simp only [List.length_append]
    omega
theorem PI.rs_le {b : List Int} {fr se mo : Int} {rs : List Rc} {wh : Bool} {en at_ : Int} {left : List Int} (h : PI b fr se mo rs wh en at_ left) : rs.length ≤ b.length := by
  have h1 := congrArg List.length h.sp
  have h2 := encR_ge rs 0
  simp only [List.length_append] at h1
  omega
theorem chain_ri : ∀ (l : List Rc) (last : Int), Chain last l → (∀ r ∈ l, By8 r.bs) ∧ ∀ r ∈ l, Ri r
  | [], _, _ => ⟨by simp, by simp⟩
  | r :: t, last, h => by
    obtain ⟨h1, h2⟩ := chain_ri t r.tm h.2.2
    have hb := rOk_b h.1.2.2.1
    have h62 : two62 = 4611686018427387904 := rfl
    have ht := h.1.1
    have ht0 := h.1.2.1
    refine ⟨fun x hx => ?_, fun x hx => ?_⟩
    · rcases List.mem_cons.1 hx with rfl | hx
      · exact h.1.2.2.2
      · exact h1 x hx
    · rcases List.mem_cons.1 hx with rfl | hx
      · unfold Ri I64; omega
      · exact h2 x hx
theorem PI.ri {b : List Int} {fr se mo : Int} {rs : List Rc} {wh : Bool} {en at_ : Int} {left : List Int} (h : PI b fr se mo rs wh en at_ left) : (∀ r ∈ rs, By8 r.bs) ∧ ∀ r ∈ rs, Ri r := chain_ri rs 0 h.ch
/-- Only the ordinary end. -/
def onN (K : Act → World → Prop) : Exit → Act → World → Prop
  | .normal, a, w => K a w
  | _, _, _ => False
theorem wp_onN {P : Program} {c : Code} {Q : Exit → Act → World → Prop} {a : Act} {w : World} (h : c.wp P (onN (Q .normal)) a w) : c.wp P Q a w :=
  Code.wp_mono (fun e a w h => by cases e <;> first | exact h | exact h.elim) h
/-- What is held while the end is walked. -/
structure DcZ (LX : Nat) (cs : Array Value) (nv : Int) (W : World) : Prop where
  l : Blk W LX cs 26
  n : Blk W (LX + 1) #[.int .i64 nv] 3
theorem DcZ.stb (LX : Nat) (cs : Array Value) (nv : Int) : Free.Stb (DcZ LX cs nv) := fun _ _ h hb => ⟨h.l.below hb, h.n.below hb⟩
theorem DcZ.turned {LX : Nat} {cs : Array Value} {nv : Int} {W W' : World} {X : Nat} (h : DcZ LX cs nv W) (ht : Turned (fun k => k = X) W W') (h1 : LX ≠ X) (h2 : LX + 1 ≠ X) : DcZ LX cs nv W' := ⟨h.l.turned ht h1, h.n.turned ht h2⟩
theorem DcZ.cells {LX : Nat} {a b c d e f : Value} {nv : Int} {W : World} (h : DcZ LX #[a, b, c, d, e, f] nv W) : W.cell? ⟨LX, 0, none⟩ = some a ∧ W.cell? ⟨LX, 1, none⟩ = some b ∧ W.cell? ⟨LX, 2, none⟩ = some c ∧ W.cell? ⟨LX, 3, none⟩ = some d ∧ W.cell? ⟨LX, 4, none⟩ = some e ∧ W.cell? ⟨LX, 5, none⟩ = some f := ⟨h.l.cell 0, h.l.cell 1, h.l.cell 2, h.l.cell 3, h.l.cell 4, h.l.cell 5⟩
/-- Leaving in panic: nothing is told. -/
theorem dec_leave {w W : World} {b : List Int} {tmps : Array Value} {why : Int} (hT : Blk W w.heap.size (lgc Lg.zero (.slice none 0 0)) 26) (hE : Blk W (w.heap.size + 1) #[.int .i64 0] 30) (hB : Below w.heap.size w W) (hR : DcR b Lg.zero 0 why)
    (h2 : tmps.getD 2 undef = .pointer (some ⟨w.heap.size, 0, none⟩)) (h3 : tmps.getD 3 undef = .int .i64 0) (h4 : tmps.getD 4 undef = .pointer (some ⟨w.heap.size + 1, 0, none⟩)) :
    LeavesP Try.prog Try.f21 tmps (fun e w' => DecP b w e w') [{ target := .fn (.func 39) #[.pointer (some ⟨w.heap.size + 1, 0, none⟩)], args := #[] }] (.panicking (chain why)) W := by
  refine leavesP_fn (g := 39) (args := #[.pointer (some ⟨w.heap.size + 1, 0, none⟩)]) (by simp) (by simp [go_sem]) ?_
  refine CallsD.mono (Decode1_p _ 0 why _ (hE.cell 0) (hE.frozen 0)) ?_
  rintro e u' w'' ⟨rfl, rfl, rfl⟩
  have hT1 : Turned (fun k => k = w.heap.size + 1) W (W.setCell ⟨w.heap.size + 1, 0, none⟩ (.int .i64 why)) := Turned.setCell (p := ⟨w.heap.size + 1, 0, none⟩) (Turned.refl (fun k => k = w.heap.size + 1) W) (.inl rfl) _
  have hE4 := (hE.setCell 0 (.int .i64 why)).cell 0
  have hT4 := hT.turned hT1 (by omega)
  have hB4 := hB.trans (hT1.below hB.size (fun k hk => by omega))
  have HX := Lib.hid (show DecP b w (.returned (.tuple #[.agg (lgc Lg.zero (.slice none 0 0)), .int .i64 0, .int .i64 why])) (W.setCell ⟨w.heap.size + 1, 0, none⟩ (.int .i64 why)) from ⟨hB4, _, _, _, _, rfl, ⟨[], Rd.nil 4 _ none 0, rfl, by intro r hr; cases hr⟩, hR⟩)
  generalize W.setCell ⟨w.heap.size + 1, 0, none⟩ (.int .i64 why) = W4 at *
  obtain ⟨t0, t1, t2, t3, t4, t5⟩ : W4.cell? ⟨w.heap.size, 0, none⟩ = some (.int .i64 0) ∧ W4.cell? ⟨w.heap.size, 1, none⟩ = some (.int .i64 0) ∧ W4.cell? ⟨w.heap.size, 2, none⟩ = some (.int .i64 0) ∧ W4.cell? ⟨w.heap.size, 3, none⟩ = some (.slice none 0 0) ∧ W4.cell? ⟨w.heap.size, 4, none⟩ = some (.bool false) ∧ W4.cell? ⟨w.heap.size, 5, none⟩ = some (.int .i64 0) := ⟨hT4.cell 0, hT4.cell 1, hT4.cell 2, hT4.cell 3, hT4.cell 4, hT4.cell 5⟩
  clear hT1 hT4 hB4
  simp only [Array.getD_eq_getD_getElem?] at h2 h3 h4
  simp only [settle, List.dropWhile]
  refine leavesP_ret (v := .tuple #[.agg (lgc Lg.zero (.slice none 0 0)), .int .i64 0, .int .i64 why]) ?_ HX.out
  simp [results, Try.results21, go_sem, h2, h3, h4, hE4, t0, t1, t2, t3, t4, t5, lgc, Lg.zero]
theorem PDecode_any {w : World} {bv : Value} {b : List Int} (h : Bs w bv b) (hl : b.length ≤ 1000000) : Calls Try.prog 21 #[bv] w fun e w' => DecP b w e w' := by
  have hmf : ∀ (fn : Fn) (first cap : Array Value) (w : World), (Instr.makeFunc fn first cap).run Try.prog w = .ok (.func fn first cap) w := fun _ _ _ _ => rfl
  have kT := (blk_new w (lgc Lg.zero (.slice none 0 0)) 26).alloc (.cells #[.int .i64 0] 30)
  have kE := blk_new (w.alloc (.cells (lgc Lg.zero (.slice none 0 0)) 26)) #[.int .i64 0] 30
  rw [World.size_alloc] at kE
  have hB := belT (bel1 w (.cells (lgc Lg.zero (.slice none 0 0)) 26)) (bel1 _ (.cells #[.int .i64 0] 30))
  have HB8 := Lib.hid h.2
  have HBS := Lib.hid (h.bn.keep hB)
  obtain ⟨bo, bc, rfl, _, _⟩ := h.shape
  have H1 := Lib.hid (And.intro kT (And.intro kE hB))
  have hz1 : ((w.alloc (.cells (lgc Lg.zero (.slice none 0 0)) 26)).alloc (.cells #[.int .i64 0] 30)).heap.size = w.heap.size + 2 := by simp
  clear kT kE hB h
  refine calls_of_wpP Try.func21 rfl ?_
  simp only [Try.ntmps21, List.size_toArray, List.length_cons, List.length_nil, Nat.reduceAdd, Nat.reduceSub, Array.replicate_succ, Array.replicate_zero, List.push_toArray, List.append_toArray, List.nil_append, List.cons_append]
  refine wpB_seq (wpB_of_wp ?_)
  simp only [lgc, Lg.zero] at H1 HBS hz1
  go_wp2_with fail
  generalize (w.alloc (.cells #[.int .i64 0, .int .i64 0, .int .i64 0, .slice none 0 0, .bool false, .int .i64 0] 26)).alloc (.cells #[.int .i64 0] 30) = W1 at *
  refine wpB_seq (wpB_of_wp ?_)
  go_wp2_with fail
  refine wpB_seq (wpB_of_wp ?_)
  go_wp2_with fail
  refine (head_P HBS.out.1 hl).mono ?_
  rintro e W2 ⟨hb2, (⟨rfl, hno⟩ | ⟨fr, se, mo, b3, rfl, hhd, hl3⟩)⟩
  · have HE := Lib.hid (H1.out.2.1.below hb2)
    have HT := Lib.hid (H1.out.1.below hb2)
    have HB := Lib.hid (belT H1.out.2.2 hb2)
    have HR : Hid (DcR b Lg.zero 0 261) := Lib.hid (.inl (by rw [dcL_hdr, hno]))
    clear hb2 hno H1 HBS
    go_wp2
    exact dec_leave HT.out HE.out HB.out HR.out rfl rfl rfl
  have HPI := Lib.hid (PI.first HB8.out hhd)
  have hz2 : w.heap.size + 2 ≤ W2.heap.size := by have := hb2.size; omega
  have HT := Lib.hid (H1.out.1.below hb2)
  have HE := Lib.hid (H1.out.2.1.below hb2)
  have HB := Lib.hid (belT H1.out.2.2 hb2)
  have HV := Lib.hid (HBS.out.keep (hb2.mono (by omega)))
  clear hb2 H1 HBS hz1 hhd
  simp only [lgc]
  go_wp2_with fail
  obtain ⟨LX, hLX⟩ : ∃ X, W2.heap.size = X := ⟨_, rfl⟩
  have bL := belT (bel1 W2 (.cells #[.int .i64 fr, .int .i64 se, .int .i64 mo, .slice none 0 0, .bool false, .int .i64 0] 26)) (bel1 (W2.alloc (.cells #[.int .i64 fr, .int .i64 se, .int .i64 mo, .slice none 0 0, .bool false, .int .i64 0] 26)) (.cells #[.int .i64 ((b.length : Int) - (b3.length : Int))] 3))
  have kL := (blk_new W2 #[.int .i64 fr, .int .i64 se, .int .i64 mo, .slice none 0 0, .bool false, .int .i64 0] 26).alloc (.cells #[.int .i64 ((b.length : Int) - (b3.length : Int))] 3)
  have kN := blk_new (W2.alloc (.cells #[.int .i64 fr, .int .i64 se, .int .i64 mo, .slice none 0 0, .bool false, .int .i64 0] 26)) #[.int .i64 ((b.length : Int) - (b3.length : Int))] 3
  have hz3 : ((W2.alloc (.cells #[.int .i64 fr, .int .i64 se, .int .i64 mo, .slice none 0 0, .bool false, .int .i64 0] 26)).alloc (.cells #[.int .i64 ((b.length : Int) - (b3.length : Int))] 3)).heap.size = W2.heap.size + 2 := by simp
  rw [World.size_alloc] at kN
  rw [hLX] at kL kN hz3 hz2 ⊢
  have HL := Lib.hid kL
  have HN := Lib.hid kN
  replace HT := Lib.hid (HT.out.below bL)
  replace HE := Lib.hid (HE.out.below bL)
  replace HV := Lib.hid (HV.out.keep (bL.mono HB.out.size))
  replace HB := Lib.hid (belT HB.out bL)
  clear bL kL kN
  generalize (W2.alloc (.cells #[.int .i64 fr, .int .i64 se, .int .i64 mo, .slice none 0 0, .bool false, .int .i64 0] 26)).alloc (.cells #[.int .i64 ((b.length : Int) - (b3.length : Int))] 3) = W3 at *
  clear hLX
  refine wpB_seq (wpB_of_wp ?_)
  go_wp2_with fail
  refine (shapes_any _).mono ?_
  rintro e W4 ⟨mb, rfl, hsh, hb4, hmb⟩
  have HS := Lib.hid hsh
  replace HT := Lib.hid (HT.out.below hb4)
  replace HE := Lib.hid (HE.out.below hb4)
  replace HL := Lib.hid (HL.out.below hb4)
  replace HN := Lib.hid (HN.out.below hb4)
  replace HV := Lib.hid (HV.out.keep (hb4.mono (by omega)))
  replace HB := Lib.hid (belT HB.out hb4)
  clear hb4 hsh
  go_wp2_with fail
  have bO := bel1 W4 (.cells #[.map (some mb), .int .i64 0, .bool false] 72)
  have HO : Hid (Ord (W4.alloc (.cells #[.map (some mb), .int .i64 0, .bool false] 72)) W4.heap.size mb 0 false) := Lib.hid ⟨blk_new _ _ _, Turned.map (Turned.of_below bO (fun _ => False)) HS.out (fun e => e)⟩
  obtain ⟨O, hO⟩ : ∃ O, W4.heap.size = O := ⟨_, rfl⟩
  have hmO : mb < O := by
    obtain ⟨es, c, hb, _⟩ := HS.out
    rw [← hO]
    exact (Array.getElem?_eq_some_iff.1 hb).1
  replace HT := Lib.hid (HT.out.below bO)
  replace HE := Lib.hid (HE.out.below bO)
  replace HL := Lib.hid (HL.out.below bO)
  replace HN := Lib.hid (HN.out.below bO)
  replace HV := Lib.hid (HV.out.keep (bO.mono HB.out.size))
  replace HB := Lib.hid (belT HB.out bO)
  rw [hO] at HO ⊢
  clear bO HS hO
  generalize W4.alloc (.cells #[.map (some mb), .int .i64 0, .bool false] 72) = W5 at *
  have c1 := HN.out.cell 0
  simp only [List.getElem?_toArray, List.getElem?_cons_zero] at c1
  refine wpB_seq (wpB_seq (wpB_of_wp ?_))
  go_wp2_with fail
  refine contents_any.mono ?_
  rintro e W6 ⟨rfl, hW6⟩
  clear c1
  replace hW6 := Lib.hid hW6
  go_wp2_with fail
  replace hW6 := hW6.out
  have hcst : ((b.length : Int) - (b3.length : Int)) = ((b.length - b3.length : Nat) : Int) := by omega
  rw [hcst] at hW6
  have hb0 : 0 < b.length := by
    have := congrArg List.length HPI.out.sp
    simp only [encH, pmdr, List.length_append, List.length_cons, List.length_nil] at this
    omega
  have hdr : b.drop (b.length - b3.length) = b3 := HPI.out.drop
  obtain ⟨BB, hBB⟩ : ∃ X, W5.heap.size = X := ⟨_, rfl⟩
  have hOB : O < BB := by rw [← hBB]; exact HO.out.1.lt
  refine wpB_block (wpB_range rfl (fun _ _ => rfl) ?_)
  intro D L r0 W7 hD hL hr0 hW7
  subst hL
  have hfn := congrArg Loop.fn hr0
  have hst := congrArg Loop.state hr0
  have hpe := congrArg Loop.pending hr0
  have htm := congrArg Loop.tmps hr0
  have hpa := congrArg Loop.params hr0
  have has := congrArg Loop.assign hr0
  have hbd := congrArg Loop.body hr0
  dsimp only at hfn hst hpe htm hpa has hbd
  clear hr0
  rw [hBB] at htm ⊢
  have hD6 : D = BB + 2 := by rw [hD, hW6]; simp; omega
  have hz7 : W7.heap.size = D + 2 := by rw [hW7, hD]; simp
  have HX : Hid (DcX w w.heap.size (w.heap.size + 1) LX (LX + 1) O mb BB (BB + 1) D) := Lib.hid ⟨rfl, rfl, by omega, rfl, by omega, hmO, hOB, rfl, by omega⟩
  have HI : Hid (DcI w w.heap.size (w.heap.size + 1) LX (LX + 1) O mb BB (BB + 1) D fr se mo b (.slice bo b.length bc) (b.length - b3.length) r0 [] false 0 ((b.length : Int) - (b3.length : Int)) 0 false W7) := by
    have b6 := belT (bel1 W5 (.cells #[.slice bo b.length bc] 34)) (bel1 (W5.alloc (.cells #[.slice bo b.length bc] 34)) (.cells #[.int .i64 ((b.length - b3.length : Nat) : Int)] 3))
    have k6 := (blk_new W5 #[.slice bo b.length bc] 34).alloc (.cells #[.int .i64 ((b.length - b3.length : Nat) : Int)] 3)
    have n6 := blk_new (W5.alloc (.cells #[.slice bo b.length bc] 34)) #[.int .i64 ((b.length - b3.length : Nat) : Int)] 3
    rw [World.size_alloc, hBB] at n6
    rw [hBB] at k6
    rw [← hW6] at b6 k6 n6
    have b7 := belT (bel1 W6 (.deferred (some []))) (bel1 (W6.alloc (.deferred (some []))) (.loop r0))
    rw [← hW7] at b7
    have bb := belT b6 b7
    refine Lib.hid ⟨belT HB.out bb, HT.out.below bb, HE.out.below bb, ⟨_, HL.out.below bb, RwO.nil _ _⟩, HN.out.below bb, HO.out.below bb, k6.below b7, n6.below b7, HV.out.keep (bb.mono HB.out.size), ?_, ?_⟩
    · rw [hW7, hD]
      have := World.alloc_heap_new (W6.alloc (.deferred (some []))) (.loop r0)
      rw [World.size_alloc] at this
      exact this
    · rw [hW7, hD]; exact (Below.heap_alloc _ _ _ (by simp)).trans (World.alloc_heap_new W6 _)
  have hBD : BB + 1 < D := by omega
  replace hD6 := Lib.hid hD6
  clear hW7 hD hW6 hcst HT HE HL HN HV HB HO hBB
  have hwX : w.heap.size + 2 ≤ LX := hz2
  refine CallsIn.mono (contents1_any (N := w.heap.size) (bv := .slice bo b.length bc) (b := b) (n0 := b.length - b3.length) (BB := BB) (NB := BB + 1)
    (fun left W => ∃ rs wh en at_, PI b fr se mo rs wh en at_ left ∧ DcI w w.heap.size (w.heap.size + 1) LX (LX + 1) O mb BB (BB + 1) D fr se mo b (.slice bo b.length bc) (b.length - b3.length) r0 rs wh en ((b.length : Int) - (left.length : Int)) at_ wh W)
    (fun ch W => ch = chain 260 ∧ dcL b = (Lg.zero, 0, 260) ∧ DcE w D W) hl (by omega) hb0 (by omega)
    (fun left W hJ => by obtain ⟨rs, wh, en, at_, h1, h2⟩ := hJ; exact ⟨h2.bb, h2.nb, h2.bs, h1.len⟩)
    (fun left W W' hJ hb => by obtain ⟨rs, wh, en, at_, h1, h2⟩ := hJ; exact ⟨rs, wh, en, at_, h1, h2.below HX.out hb⟩)
    (fun left W W' v hJ hk ht => by obtain ⟨rs, wh, en, at_, h1, h2⟩ := hJ; exact ⟨rs, wh, en, at_, h1, h2.box HX.out hk (by omega) ht (by decide) (by decide)⟩)
    ?_ ⟨[], false, 0, 0, by rw [hdr]; exact HPI.out, by rw [hdr]; exact HI.out⟩) ?_
  · rw [hz7]
    clear HI HPI hdr
    rintro m left c rest cv W8 hstp ⟨rs, wh, en, at_, hpi, hdc⟩ htk hcv
    refine round_yield ⟨_, by rw [hfn]; exact Try.func21⟩ hdc.lp hst hpe (by rw [hpa]; rfl) ?_
    rw [has, hbd, hpa, htm]
    clear hfn hst hpe htm hpa has hbd
    rw [zip2]
    simp only [List.setIfInBounds_toArray, List.set_cons_zero, List.set_cons_succ]
    obtain ⟨co, cc, rfl, _, _⟩ := hcv.1.shape
    gi_wp2_with fail
    refine ⟨hdc.lp, ?_⟩
    have hDs := (Array.getElem?_eq_some_iff.1 hdc.lp).1
    have HD9 := Lib.hid (hdc.setLp HX.out (busy r0))
    have ht9 := turned_putObj W8 (D + 1) (.loop (busy r0))
    have hs8 := hdc.u.size
    have HT9 := Lib.hid (htk.turned hs8 ht9 (by omega) (by omega) (fun k hk => by omega))
    have HV9 := Lib.hid (hcv.keep (ht9.below hs8 (fun k hk => by omega)))
    have HPI := Lib.hid hpi
    have HST := Lib.hid hstp
    have hlc : c.length ≤ 1000000 := by
      have h1 := (hstp.inv (hpi.by8 HB8.out)).1
      have h2 := congrArg List.length h1
      have h3 := hpi.len
      simp only [List.length_append] at h2
      omega
    have hat0 := hpi.t0
    have hat1 := hpi.t1
    have hww : w.heap.size < W8.heap.size := by omega
    clear hdc htk hcv hpi hstp hDs
    have hs9 : w.heap.size ≤ (W8.putObj (D + 1) (.loop (busy r0))).heap.size := Nat.le_trans hs8 ht9.size
    clear ht9
    generalize W8.putObj (D + 1) (.loop (busy r0)) = W9 at *
    have HC := Lib.hid (PRec_any HV9.out hs9 hlc hat0 hat1)
    obtain ⟨o0, o1, o2⟩ := HD9.out.o.cells
    gi_wp2_with fail
    refine ⟨trivial, fun hd => (by cases hd), (CallsIn.inRound _ (callsIn_wide.2 HC.out)).mono ?_⟩
    rintro e WA ⟨hbA, (⟨rfl, hno⟩ | ⟨r, xv, rfl, hrr, hxv⟩)⟩
    · have HP : Hid (dcL b = (Lg.zero, 0, 260) ∧ DcE w D WA) := Lib.hid ⟨HPI.out.bad HB8.out HST.out (.inr hno), (HD9.out.below HX.out hbA).dcE⟩
      clear hbA hno HC HD9 HT9 HV9 HPI HST o0 o1 o2
      gi_wp2
      exact ⟨rfl, .inr ⟨_, rfl, rfl, HP.out⟩⟩
    have HDA := Lib.hid (HD9.out.below HX.out hbA)
    have HTA := Lib.hid (HT9.out.below hs9 hbA)
    have HRR := Lib.hid hrr
    have hsA : D + 3 < WA.heap.size := by
      have h1 := HTA.out
      obtain ⟨⟨v, h2, _⟩, _, _⟩ := h1
      exact h2.b.lt
    have hsw : w.heap.size ≤ WA.heap.size := Nat.le_trans hs9 hbA.size
    obtain ⟨xo, xc, rfl, _, _⟩ := hxv.1.shape
    have hki : I64 r.kind := by have := hrr.2.2.1; unfold I64; omega
    obtain ⟨rt, rk, rn, rb⟩ := r
    -- the record's box
    have kR := blk_new WA #[.int .i64 rt, .int .i64 rk, .int .i64 rn, .slice xo rb.length xc] 42
    have bR := bel1 WA (.cells #[.int .i64 rt, .int .i64 rk, .int .i64 rn, .slice xo rb.length xc] 42)
    have HDB := Lib.hid (HDA.out.below HX.out bR)
    have HTB := Lib.hid (HTA.out.below hsw bR)
    have HVB := Lib.hid (hxv.keep (bR.mono hsw))
    have HRw : Hid (∀ rv, Blk (WA.alloc (.cells #[.int .i64 rt, .int .i64 rk, .int .i64 rn, .slice xo rb.length xc] 42)) LX (lgc ⟨fr, se, mo, rs, wh, en⟩ rv) 26 → blkOf rv ≠ some WA.heap.size) := by
      refine Lib.hid (fun rv hb e => ?_)
      obtain ⟨rv', l1, l2⟩ := HDA.out.l
      have e2 := hb.symm.trans (l1.below bR)
      simp [lgc] at e2
      subst e2
      have := (HDA.out.row l1).2 _ e
      omega
    have HRB := Lib.hid kR
    clear hbA hxv hrr HC HD9 HT9 HV9 o0 o1 o2 kR HDA HTA hs9
    obtain ⟨R, hR⟩ : ∃ R, WA.heap.size = R := ⟨_, rfl⟩
    have hsB : w.heap.size ≤ (WA.alloc (.cells #[.int .i64 rt, .int .i64 rk, .int .i64 rn, .slice xo rb.length xc] 42)).heap.size := Nat.le_trans hsw bR.size
    clear bR
    obtain ⟨o0, o1, o2⟩ := HDB.out.o.cells
    obtain ⟨y0, y1, y2, y3⟩ : (WA.alloc (.cells #[.int .i64 rt, .int .i64 rk, .int .i64 rn, .slice xo rb.length xc] 42)).cell? ⟨WA.heap.size, 0, none⟩ = some (.int .i64 rt) ∧ (WA.alloc (.cells #[.int .i64 rt, .int .i64 rk, .int .i64 rn, .slice xo rb.length xc] 42)).cell? ⟨WA.heap.size, 1, none⟩ = some (.int .i64 rk) ∧ (WA.alloc (.cells #[.int .i64 rt, .int .i64 rk, .int .i64 rn, .slice xo rb.length xc] 42)).cell? ⟨WA.heap.size, 2, none⟩ = some (.int .i64 rn) ∧ (WA.alloc (.cells #[.int .i64 rt, .int .i64 rk, .int .i64 rn, .slice xo rb.length xc] 42)).cell? ⟨WA.heap.size, 3, none⟩ = some (.slice xo rb.length xc) := ⟨HRB.out.cell 0, HRB.out.cell 1, HRB.out.cell 2, HRB.out.cell 3⟩
    have HC := Lib.hid (next_any (r := ⟨rt, rk, rn, rb⟩) HDB.out.o HVB.out.1 hki)
    simp only [rcl] at HC ⊢
    gi_wp2_with fail
    rw [hR] at HRw HRB hsA
    generalize WA.alloc (.cells #[.int .i64 rt, .int .i64 rk, .int .i64 rn, .slice xo rb.length xc] 42) = WB at *
    clear y0 y1 y2 y3 o0 o1 o2 hR
    refine ⟨trivial, fun hd => (by cases hd), (CallsIn.inRound _ (callsIn_wide.2 HC.out)).mono ?_⟩
    have x9 := HX.out
    obtain ⟨_, _, x3, x4, x5, x6, x7, x8, x9⟩ := x9
    rintro e WC ⟨htC, (⟨hok, rfl, hoC⟩ | ⟨hbad, rfl⟩)⟩
    rotate_left
    · have HP : Hid (dcL b = (Lg.zero, 0, 260) ∧ DcE w D WC) := by
        refine Lib.hid ⟨HPI.out.bad HB8.out HST.out (next_no HRR.out hbad), HDB.out.dcE.turned htC (by omega) (by omega) (by omega)⟩
      clear htC hbad HC HDB HTB HVB HPI HST HRw HRB HRR
      gi_wp2
      exact ⟨rfl, .inr ⟨_, rfl, rfl, HP.out⟩⟩
    obtain ⟨hwf, hbody⟩ := next_yes HRR.out hok
    subst hwf
    obtain ⟨he0, _⟩ := HPI.out.e2 rfl
    subst he0
    have HPN := Lib.hid (HPI.out.next HB8.out HST.out hbody)
    have HDC := Lib.hid (HDB.out.setO HX.out htC hoC)
    have HTC := Lib.hid (HTB.out.turned hsB htC (by omega) (by omega) (fun k hk => by omega))
    have HVC := Lib.hid (HVB.out.keep (htC.below hsB (fun k hk => by omega)))
    have HRC := Lib.hid (HRB.out.turned htC (by omega))
    have HWC : Hid (∀ rv, Blk WC LX (lgc ⟨fr, se, mo, rs, false, 0⟩ rv) 26 → blkOf rv ≠ some R) := by
      refine Lib.hid (fun rv hb e => ?_)
      obtain ⟨rv', l1, l2⟩ := HDB.out.l
      have e2 := hb.symm.trans (l1.turned htC (by omega))
      simp [lgc] at e2
      subst e2
      exact HRw.out _ l1 e
    have hsC : w.heap.size ≤ WC.heap.size := Nat.le_trans hsB htC.size
    have hrl0 : rb.length ≤ 1000000 := Nat.le_trans HRR.out.2.2.2.2.2.1 hlc
    clear htC hok hbody HC HDB HTB HVB HRw HRB HRR HPI hoC hsB
    have n0 := HDC.out.n.cell 0
    have n1 := HDC.out.n.frozen 0
    simp only [List.getElem?_toArray, List.getElem?_cons_zero] at n0
    obtain ⟨o0, o1, o2⟩ := HDC.out.o.cells
    have hTD : Turned (fun k => k = LX + 1) WC (WC.setCell ⟨LX + 1, 0, none⟩ (.int .i64 ((b.length : Int) - (rest.length : Int)))) := Turned.setCell (p := ⟨LX + 1, 0, none⟩) (Turned.refl (fun k => k = LX + 1) WC) (.inl rfl) _
    have HDD := Lib.hid (HDC.out.setN HX.out hTD (by have := HDC.out.n.setCell 0 (.int .i64 ((b.length : Int) - (rest.length : Int))); simpa using this))
    have HTD := Lib.hid (HTC.out.turned hsC hTD (by omega) (by omega) (fun k hk => by omega))
    have HVD := Lib.hid (HVC.out.keep (hTD.below hsC (fun k hk => by omega)))
    have HRD := Lib.hid (HRC.out.turned hTD (by omega))
    have HWD : Hid (∀ rv, Blk (WC.setCell ⟨LX + 1, 0, none⟩ (.int .i64 ((b.length : Int) - (rest.length : Int)))) LX (lgc ⟨fr, se, mo, rs, false, 0⟩ rv) 26 → blkOf rv ≠ some R) := by
      refine Lib.hid (fun rv hb e => ?_)
      obtain ⟨rv', l1, l2⟩ := HDC.out.l
      have e2 := hb.symm.trans (l1.turned hTD (by omega))
      simp [lgc] at e2
      subst e2
      exact HWC.out _ l1 e
    have hsD : w.heap.size ≤ (WC.setCell ⟨LX + 1, 0, none⟩ (.int .i64 ((b.length : Int) - (rest.length : Int)))).heap.size := Nat.le_trans hsC hTD.size
    have YC : WC.cell? ⟨R, 0, none⟩ = some (.int .i64 rt) ∧ WC.cell? ⟨R, 1, none⟩ = some (.int .i64 rk) ∧ WC.cell? ⟨R, 2, none⟩ = some (.int .i64 rn) ∧ WC.cell? ⟨R, 3, none⟩ = some (.slice xo rb.length xc) := ⟨HRC.out.cell 0, HRC.out.cell 1, HRC.out.cell 2, HRC.out.cell 3⟩
    replace YC := Lib.hid YC
    clear hTD HDC HTC HVC HRC HWC hki hat0 hat1
    by_cases h8 : rk = 8
    · have h8d : decide (rk = 8) = true := by simpa using h8
      rw [h8d] at o2 HDD
      have HP8 := Lib.hid (HPN.out.1 h8)
      clear HPN h8d
      gi_wp2_with fail
      generalize WC.setCell ⟨LX + 1, 0, none⟩ (.int .i64 ((b.length : Int) - (rest.length : Int))) = WD at *
      clear o0 o1 o2 n0 n1 YC HVD
      have hsDd : w.heap.size ≤ WD.drew.heap.size := hsD
      have HDE := Lib.hid (HDD.out.below HX.out (Below.refl WD.heap.size WD).drew)
      have HTE := Lib.hid (HTD.out.below hsD (Below.refl WD.heap.size WD).drew)
      have HS : Blk WD.drew R #[.int .i64 rt, .int .i64 rk, .int .i64 rn, .slice xo rb.length xc] 42 := HRD.out.drew
      clear HDD HTD HRD
      refine wpIn_region_round_plain (by kernel_rfl) (by kernel_rfl) (fun _ _ h => h) ?_
      refine Free.Any.out (S := fun W => Blk W R #[.int .i64 rt, .int .i64 rk, .int .i64 rn, .slice xo rb.length xc] 42) HS ?_
      refine Free.tk 0 (some 33) ?_ (hy := by intro W hW; go_simp; try with_reducible rfl)
      refine Free.tk 1 (some 34) (v := .int .i64 rt) ?_ (hy := by intro W hW; have q0 := hW.cell 0; simp only [List.getElem?_toArray, List.getElem?_cons_zero] at q0; go_simp; try with_reducible rfl)
      refine Free.tk 2 (some 35) ?_ (hy := by intro W hW; go_simp; try with_reducible rfl)
      refine Free.one 3 (fun W3 hb3 hW3 => ?_)
      have HD3 := Lib.hid (HDE.out.below HX.out hb3)
      obtain ⟨rv3, l3, _⟩ := HD3.out.l
      have p3 := l3.cell 4
      have z3 := l3.frozen 4
      simp only [lgc, List.getElem?_toArray, List.getElem?_cons_zero, List.getElem?_cons_succ] at p3
      clear l3
      refine o_skip (d := none) rfl (W3.setCell ⟨LX, 4, none⟩ (.bool true)) (by go_simp; try rfl) ?_
      have hT3 : Turned (fun k => k = LX) W3 (W3.setCell ⟨LX, 4, none⟩ (.bool true)) := Turned.setCell (p := ⟨LX, 4, none⟩) (Turned.refl (fun k => k = LX) W3) (.inl rfl) _
      have HD4 := Lib.hid (HD3.out.setL HX.out hT3 (wh' := true) (en' := 0) (fun rv hb => by have := hb.setCell 4 (.bool true); simpa [lgc] using this))
      have hs3 : w.heap.size ≤ W3.heap.size := Nat.le_trans hsDd hb3.size
      have HT4 := Lib.hid ((HTE.out.below hsDd hb3).turned hs3 hT3 (by omega) (by omega) (fun k hk => by omega))
      have hs4 := Nat.le_trans hs3 hT3.size
      refine ⟨hW3.turned hT3 (by omega), ?_⟩
      generalize W3.setCell ⟨LX, 4, none⟩ (.bool true) = W4 at *
      clear hb3 hW3 HD3 p3 z3 hT3 HDE HTE
      refine Free.tk 4 (some 36) ?_ (hy := by intro W hW; go_simp; try with_reducible rfl)
      refine Free.one 5 (fun W5 hb5 hW5 => ?_)
      have HD5 := Lib.hid (HD4.out.below HX.out hb5)
      obtain ⟨rv5, l5, _⟩ := HD5.out.l
      have p5 := l5.cell 5
      have z5 := l5.frozen 5
      simp only [lgc, List.getElem?_toArray, List.getElem?_cons_zero, List.getElem?_cons_succ] at p5
      clear l5
      refine o_skip (d := none) rfl (W5.setCell ⟨LX, 5, none⟩ (.int .i64 rt)) (by go_simp; try rfl) ?_
      have hT5 : Turned (fun k => k = LX) W5 (W5.setCell ⟨LX, 5, none⟩ (.int .i64 rt)) := Turned.setCell (p := ⟨LX, 5, none⟩) (Turned.refl (fun k => k = LX) W5) (.inl rfl) _
      have HD6 := Lib.hid (HD5.out.setL HX.out hT5 (wh' := true) (en' := rt) (fun rv hb => by have := hb.setCell 5 (.int .i64 rt); simpa [lgc] using this))
      have hs5 : w.heap.size ≤ W5.heap.size := Nat.le_trans hs4 hb5.size
      have HT6 := Lib.hid ((HT4.out.below hs4 hb5).turned hs5 hT5 (by omega) (by omega) (fun k hk => by omega))
      have hs6 := Nat.le_trans hs5 hT5.size
      refine ⟨hW5.turned hT5 (by omega), ?_⟩
      generalize W5.setCell ⟨LX, 5, none⟩ (.int .i64 rt) = W6 at *
      clear hb5 hW5 HD5 p5 z5 hT5 HD4 HT4
      refine Free.done (fun W7 hb7 hW7 => ?_)
      have HD7 := Lib.hid (HD6.out.below HX.out hb7)
      have HT7 := Lib.hid (HT6.out.below hs6 hb7)
      have hs7 : w.heap.size ≤ W7.heap.size := Nat.le_trans hs6 hb7.size
      have hlp7 := HD7.out.lp
      have HQ : Hid (∃ rs wh en at_, PI b fr se mo rs wh en at_ rest ∧ DcI w w.heap.size (w.heap.size + 1) LX (LX + 1) O mb BB (BB + 1) D fr se mo b (.slice bo b.length bc) (b.length - b3.length) r0 rs wh en ((b.length : Int) - (rest.length : Int)) at_ wh (W7.putObj (D + 1) (.loop r0))) := Lib.hid ⟨rs, true, rt, rt, HP8.out, HD7.out.setLp HX.out r0⟩
      have HQT := Lib.hid (HT7.out.turned hs7 (turned_putObj W7 (D + 1) (.loop r0)) (by omega) (by omega) (fun k hk => by omega))
      clear hb7 hW7 HD6 HT6 HD7 HT7
      try gi_wp2
      first
        | exact ⟨hlp7, .inl ⟨rfl, HQ.out, HQT.out⟩⟩
        | exact ⟨hlp7, rfl, HQ.out, HQT.out⟩
        | trace_state
    · have h8d : decide (rk = 8) = false := by simpa using h8
      rw [h8d] at o2 HDD
      have HP8 := Lib.hid (HPN.out.2 h8)
      have hrs0 : rs.length + 1 ≤ 1000000 := by have := HP8.out.rs_le; rw [List.length_append, List.length_singleton] at this; omega
      obtain ⟨y0, y1, y2, y3⟩ : WC.cell? ⟨R, 0, none⟩ = some (.int .i64 rt) ∧ WC.cell? ⟨R, 1, none⟩ = some (.int .i64 rk) ∧ WC.cell? ⟨R, 2, none⟩ = some (.int .i64 rn) ∧ WC.cell? ⟨R, 3, none⟩ = some (.slice xo rb.length xc) := YC.out
      clear HPN h8d
      gi_wp2_with fail
      have hrl : rb.length ≤ 1000000 := hrl0
      have HC := Lib.hid (BClone_any HVD.out.1 hrl)
      generalize WC.setCell ⟨LX + 1, 0, none⟩ (.int .i64 ((b.length : Int) - (rest.length : Int))) = WD at *
      clear o0 o1 o2 n0 n1 y0 y1 y2 y3 YC
      have hsR : R < WD.heap.size := HRD.out.lt
      refine ⟨trivial, fun hd => (by cases hd), (CallsIn.inRound _ (callsIn_wide.2 HC.out)).mono ?_⟩
      rintro e WE ⟨hbE, v2, rfl, hog, hk2⟩
      obtain ⟨vo, vc, rfl, _, _⟩ := hog.shape
      have HDE := Lib.hid (HDD.out.below HX.out hbE)
      have HTE := Lib.hid (HTD.out.below hsD hbE)
      have hRE := HRD.out.below hbE
      have HWE : Hid (∀ rv, Blk WE LX (lgc ⟨fr, se, mo, rs, false, 0⟩ rv) 26 → blkOf rv ≠ some R) := by
        refine Lib.hid (fun rv hb e => ?_)
        obtain ⟨rv', l1, l2⟩ := HDD.out.l
        have e2 := hb.symm.trans (l1.below hbE)
        simp [lgc] at e2
        subst e2
        exact HWD.out _ l1 e
      have hsE : w.heap.size ≤ WE.heap.size := Nat.le_trans hsD hbE.size
      have hsRE : R < WE.heap.size := Nat.lt_of_lt_of_le hsR hbE.size
      have hT1 : Turned (fun k => k = R) WE (WE.setCell ⟨R, 3, none⟩ (.slice vo rb.length vc)) := Turned.setCell (p := ⟨R, 3, none⟩) (Turned.refl (fun k => k = R) WE) (.inl rfl) _
      have HD1 := Lib.hid (HDE.out.rbox HX.out hRE (by omega) HWE.out hT1)
      have HT1 := Lib.hid (HTE.out.turned hsE hT1 (by omega) (by omega) (fun k hk => by omega))
      have hR1 : Blk (WE.setCell ⟨R, 3, none⟩ (.slice vo rb.length vc)) R #[.int .i64 rt, .int .i64 rk, .int .i64 rn, .slice vo rb.length vc] 42 := by have := hRE.setCell 3 (.slice vo rb.length vc); simpa using this
      have hO1 : Og (WE.setCell ⟨R, 3, none⟩ (.slice vo rb.length vc)) (.slice vo rb.length vc) rb := Og.turned hog hT1 (fun k hk cur hc => by
        subst hk
        have := hRE.symm.trans hc
        simp at this)
      have hs1 : w.heap.size ≤ (WE.setCell ⟨R, 3, none⟩ (.slice vo rb.length vc)).heap.size := Nat.le_trans hsE hT1.size
      have y3 := hRE.cell 3
      have z3 := hRE.frozen 3
      obtain ⟨rv, l1, _⟩ := HDE.out.l
      obtain ⟨rv1, l2, cs, hg0, hco, hrk⟩ := HD1.out.l
      have e2 := l2.symm.trans (l1.turned hT1 (by omega))
      simp [lgc] at e2
      subst e2
      have hgl := HDE.out.row l1
      obtain ⟨ro, rc, rfl, _, _⟩ := hg0.shape
      have x2 := l1.cell 3
      have q0 := hRE.cell 0
      have q1 := hRE.cell 1
      have q2 := hRE.cell 2
      simp only [lgc, List.getElem?_toArray, List.getElem?_cons_zero, List.getElem?_cons_succ] at y3 x2 q0 q1 q2
      have hLR : LX ≠ R := by omega
      have hrs : rs.length + 1 ≤ 1000000 := hrs0
      -- the new record's cells
      have bA := bel1 (WE.setCell ⟨R, 3, none⟩ (.slice vo rb.length vc)) (.cells #[.int .i64 rt, .int .i64 rk, .int .i64 rn, .slice vo rb.length vc] 42)
      have hsrc := src_rec (WE.setCell ⟨R, 3, none⟩ (.slice vo rb.length vc)) ⟨rt, rk, rn, rb⟩ vo rb.length vc
      have hsz1 : (WE.setCell ⟨R, 3, none⟩ (.slice vo rb.length vc)).heap.size = WE.heap.size := by simp
      rw [hsz1] at hsrc
      have HSrc := Lib.hid hsrc
      clear hsrc
      have HG := Lib.hid (Gs.below hg0 bA)
      have HD2 := Lib.hid (HD1.out.below HX.out bA)
      have HT2 := Lib.hid (HT1.out.below hs1 bA)
      have HL2 := Lib.hid (l2.below bA)
      have HCO : Hid (RcO ((WE.setCell ⟨R, 3, none⟩ (.slice vo rb.length vc)).alloc (.cells #[.int .i64 rt, .int .i64 rk, .int .i64 rn, .slice vo rb.length vc] 42)) (D + 1) rs cs) := Lib.hid (RcO.turned (Turned.of_below bA (fun _ => False)) (fun k hk => hk.elim) hco)
      have HO2 := Lib.hid (hO1.below bA)
      have HK2 : Hid (∀ k, blkOf (.slice vo rb.length vc) = some k → D + 1 < k) := Lib.hid (fun k hk => by have := hk2 k hk; omega)
      have hs2 := Nat.le_trans hs1 bA.size
      have HRk := Lib.hid hrk
      clear hbE hog hk2 hRE hT1 hR1 hO1 hs1 l1 l2 hg0 hco hrk bA HC HDD HTD HVD HRD HWD HDE HTE HWE HD1 HT1 hgl hsRE hsE
      gi_wp2_with (gi_at_builtin; refine wpListIn_append_g rfl _ _ rfl Try.underlying24 infoRec rfl (by omega) (by omega) rfl rfl HG.out HSrc.out (by omega) ?_)
      intro v3 WF hg3 ht3 hn3
      have hsz2 : ((WE.setCell ⟨R, 3, none⟩ (.slice vo rb.length vc)).alloc (.cells #[.int .i64 rt, .int .i64 rk, .int .i64 rn, .slice vo rb.length vc] 42)).heap.size = WE.heap.size + 1 := by simp
      rw [← hsz2] at hn3
      have hrkk := HRk.out
      generalize (WE.setCell ⟨R, 3, none⟩ (.slice vo rb.length vc)).alloc (.cells #[.int .i64 rt, .int .i64 rk, .int .i64 rn, .slice vo rb.length vc] 42) = WA2 at *
      have l3 := HL2.out.turned ht3 (fun e => by have := hrkk _ e; omega)
      have p3 := l3.cell 3
      have w3 := l3.frozen 3
      simp only [lgc, List.getElem?_toArray, List.getElem?_cons_zero, List.getElem?_cons_succ] at p3
      obtain ⟨vo3, vc3, rfl, _, _⟩ := hg3.shape
      have hT4 : Turned (fun k => k = LX) WF (WF.setCell ⟨LX, 3, none⟩ (.slice vo3 (rs.length + 1) vc3)) := Turned.setCell (p := ⟨LX, 3, none⟩) (Turned.refl (fun k => k = LX) WF) (.inl rfl) _
      have HD4 := Lib.hid (HD2.out.push (r := ⟨rt, rk, rn, rb⟩) HX.out HL2.out HCO.out HG.out HO2.out HK2.out hg3 ht3 hn3 hT4 (fun hb => by have := hb.setCell 3 (.slice vo3 (rs.length + 1) vc3); simpa [lgc] using this))
      have hF3 : ∀ k, blkOf (.slice ro rs.length rc) = some k → w.heap.size ≤ k := fun k hk => by have := hrkk k hk; omega
      have HT3 : Hid (Tk w.heap.size WF (D + 2 + 1) (D + 2) rest) := by
        obtain ⟨⟨tv, t1, t2⟩, _, _⟩ := HT2.out
        refine Lib.hid (HT2.out.turned hs2 ht3 (fun e => ?_) (fun e => ?_) hF3)
        · obtain ⟨cur, hc⟩ := Gs.in_ HG.out e
          have := t1.b.symm.trans hc
          simp at this
        · obtain ⟨cur, hc⟩ := Gs.in_ HG.out e
          have := t1.l.symm.trans hc
          simp at this
      have hs3 : w.heap.size ≤ WF.heap.size := Nat.le_trans hs2 ht3.size
      have HT4 := Lib.hid (HT3.out.turned hs3 hT4 (by omega) (by omega) (fun k hk => by omega))
      have hlp7 := HD4.out.lp
      have hs4 : w.heap.size ≤ (WF.setCell ⟨LX, 3, none⟩ (.slice vo3 (rs.length + 1) vc3)).heap.size := Nat.le_trans hs3 hT4.size
      have HQ : Hid (∃ rs' wh' en' at', PI b fr se mo rs' wh' en' at' rest ∧ DcI w w.heap.size (w.heap.size + 1) LX (LX + 1) O mb BB (BB + 1) D fr se mo b (.slice bo b.length bc) (b.length - b3.length) r0 rs' wh' en' ((b.length : Int) - (rest.length : Int)) at' wh' ((WF.setCell ⟨LX, 3, none⟩ (.slice vo3 (rs.length + 1) vc3)).putObj (D + 1) (.loop r0))) := Lib.hid ⟨_, false, 0, rt, HP8.out, HD4.out.setLp HX.out r0⟩
      have HQT := Lib.hid (HT4.out.turned hs4 (turned_putObj (WF.setCell ⟨LX, 3, none⟩ (.slice vo3 (rs.length + 1) vc3)) (D + 1) (.loop r0)) (by omega) (by omega) (fun k hk => by omega))
      replace hlp7 := Lib.hid hlp7
      clear hg3 ht3 hn3 l3 hT4 HD4 HT3 HT4 HT2 HD2 HG HSrc HL2 HCO HO2 HK2 HRk hrkk hF3
      try gi_wp2
      first
        | exact ⟨hlp7.out, .inl ⟨rfl, HQ.out, HQT.out⟩⟩
        | exact ⟨hlp7.out, rfl, HQ.out, HQT.out⟩
        | trace_state
  · clear hfn hst hpe htm hpa has hbd HI HPI
    have hx := HX.out
    obtain ⟨_, _, x3, x4, x5, x6, x7, x8, x9⟩ := hx
    rintro e W8 (⟨v, rest, rfl, ⟨rs, wh, en, at_, hpi, hdc⟩, hstop⟩ | ⟨rest, rfl, ⟨rs, wh, en, at_, hpi, hdc⟩, hlate⟩ | ⟨ch, rfl, rfl, hz, hde⟩)
    rotate_left
    · have hz := hpi.late hlate
      have hde := hdc.dcE
      have hsz := hde.1.size
      have hT := turned_putObj W8 D (.deferred none)
      refine ⟨.inr ⟨_, rfl⟩, leavesP_mark hde.2.2.2 (by simp) ?_⟩
      exact dec_leave (hde.2.1.turned hT (by omega)) (hde.2.2.1.turned hT (by omega)) (hde.1.trans (hT.below hsz (fun k hk => by omega))) (.inl hz.symm) rfl rfl rfl
    · have hsz := hde.1.size
      have hT := turned_putObj W8 D (.deferred none)
      refine ⟨.inr ⟨_, rfl⟩, leavesP_mark hde.2.2.2 (by simp) ?_⟩
      exact dec_leave (hde.2.1.turned hT (by omega)) (hde.2.2.1.turned hT (by omega)) (hde.1.trans (hT.below hsz (fun k hk => by omega))) (.inl hz.symm) rfl rfl rfl
    refine ⟨hdc.lp, .inl rfl, wpB_of_wp ?_⟩
    have HD9 := Lib.hid (hdc.setLp HX.out { r0 with state := .exhausted })
    have HPI := Lib.hid hpi
    have HST := Lib.hid hstop
    have hrl := hpi.len
    generalize W8.putObj (D + 1) (.loop { r0 with state := .exhausted }) = W9 at *
    clear hdc hpi hstop
    obtain ⟨rv, l1, hrw⟩ := HD9.out.l
    obtain ⟨ro, rc, rfl, _, _⟩ := hrw.shape
    have c4 := l1.cell 4
    have cn := HD9.out.n.cell 0
    simp only [lgc, List.getElem?_toArray, List.getElem?_cons_zero, List.getElem?_cons_succ] at c4 cn
    have HL := Lib.hid l1
    have HRW := Lib.hid hrw
    clear l1 hrw
    have key : wh = true → rest = [] ∨ (rest ≠ [] ∧ ((b.length : Int) - (rest.length : Int) == (b.length : Int)) = false) := fun _ => by
      cases rest with
      | nil => exact .inl rfl
      | cons x t => exact .inr ⟨by simp, by simp; omega⟩
    by_cases hok : wh = true → rest = []
    rotate_left
    · obtain ⟨hw, hne⟩ : wh = true ∧ rest ≠ [] := by simpa using hok
      subst hw
      have hz := HPI.out.left hne
      have he : ((b.length : Int) - (rest.length : Int) == (b.length : Int)) = false := by
        rcases key rfl with h | h
        · exact absurd h hne
        · exact h.2
      clear key hok
      have hde := Lib.hid HD9.out.dcE
      replace hz := Lib.hid hz
      clear HD9 HPI HST
      go_wp2_with fail
      refine (must_no 260 _).mono ?_
      rintro e W3 ⟨rfl, rfl⟩
      clear c4 cn
      go_wp2
      have hsz := hde.out.1.size
      have hT := turned_putObj W9 D (.deferred none)
      refine leavesP_mark hde.out.2.2.2 (by simp) ?_
      exact dec_leave (hde.out.2.1.turned hT (by omega)) (hde.out.2.2.1.turned hT (by omega)) (hde.out.1.trans (hT.below hsz (fun k hk => by omega))) (.inl hz.out.symm) rfl rfl rfl
    have HDR := Lib.hid (HPI.out.stop HST.out hok)
    obtain ⟨hby, hri⟩ := HPI.out.ri
    have HRI := Lib.hid (And.intro hby hri)
    have HYES : Hid (∀ (Q : World → Prop), True) := Lib.hid (fun _ => trivial)
    clear hby hri HPI HST
    obtain ⟨dd, hdd⟩ : ∃ d : Bool, d = (if wh = true then ((b.length : Int) - (rest.length : Int) == (b.length : Int)) else true) := ⟨_, rfl⟩
    have hdt : dd = true := by
      rw [hdd]
      cases wh with
      | false => rfl
      | true => rw [hok rfl]; simp
    clear hdd hdt dd key HYES
    have HN9 := Lib.hid HD9.out.n
    cases wh with
    | false =>
      go_wp2_with fail
      refine (must_yes 260 _).mono ?_
      rintro e W3 ⟨rfl, rfl⟩
      go_wp2_with fail
      have hB1 : Below w.heap.size w W9.drew := HD9.out.u.drew
      have hdf1 : W9.drew.heap[D]? = some (.deferred (some [])) := HD9.out.df
      have hR1 : Rf 26 6 W9.drew w.heap.size #[.int .i64 0, .int .i64 0, .int .i64 0, .slice none 0 0, .bool false, .int .i64 0] := ⟨HD9.out.tb.drew, rfl, by simp [Value.oneCell']⟩
      have hE1 : Blk W9.drew (w.heap.size + 1) #[.int .i64 0] 30 := HD9.out.er.drew
      have hrw1 : RwO W9.drew (D + 1) (.slice ro rs.length rc) rs := HRW.out.below (Below.refl W9.heap.size W9).drew
      have hS : DcZ LX #[.int .i64 fr, .int .i64 se, .int .i64 mo, .slice ro rs.length rc, .bool false, .int .i64 en] ((b.length : Int) - (rest.length : Int)) W9.drew := ⟨HL.out.drew, HN9.out.drew⟩
      have hsz1 : w.heap.size + 1 < W9.drew.heap.size := hE1.lt
      have hok6 : Ok1 6 #[.int .i64 fr, .int .i64 se, .int .i64 mo, .slice ro rs.length rc, .bool false, .int .i64 en] := ⟨rfl, by simp [Value.oneCell']⟩
      clear HD9 HL HRW c4 cn HN9
      refine wp_onN ?_
      refine Free.any (DcZ LX #[.int .i64 fr, .int .i64 se, .int .i64 mo, .slice ro rs.length rc, .bool false, .int .i64 en] ((b.length : Int) - (rest.length : Int))) (DcZ.stb _ _ _) hS (fun st => ?_)
      refine Free.tk 0 (some 57) (v := .agg #[.int .i64 fr, .int .i64 se, .int .i64 mo, .slice ro rs.length rc, .bool false, .int .i64 en]) ?_ (hy := by intro W hW; obtain ⟨q0, q1, q2, q3, q4, q5⟩ := hW.cells; go_simp; try with_reducible rfl)
      refine Free.tk 1 (some 58) (v := .int .i64 ((b.length : Int) - (rest.length : Int))) ?_ (hy := by intro W hW; have q0 := hW.n.cell 0; simp only [List.getElem?_toArray, List.getElem?_cons_zero] at q0; go_simp; try with_reducible rfl)
      refine Free.one 2 (fun W2 hb2 hW2 => ?_)
      refine o_store_R (d := none) rfl #[.int .i64 fr, .int .i64 se, .int .i64 mo, .slice ro rs.length rc, .bool false, .int .i64 en] rowLog (hR1.below hb2) hok6 rfl rfl rfl ?_
      have hR3 := (hR1.below hb2).set hok6
      have hT3 := turned_setRow W2 w.heap.size #[.int .i64 fr, .int .i64 se, .int .i64 mo, .slice ro rs.length rc, .bool false, .int .i64 en]
      have hs2 : w.heap.size + 1 < W2.heap.size := Nat.lt_of_lt_of_le hsz1 hb2.size
      have hB3 := (hB1.trans (hb2.mono hB1.size)).trans (hT3.below (by omega) (fun k hk => by omega))
      have hdf3 := heap_turned (heap_below hdf1 hb2) hT3 (by omega)
      have hE3 := (hE1.below hb2).turned hT3 (by omega)
      have hrw3 := (hrw1.below hb2).fixed (by omega) hT3
      have hs3 := Nat.lt_of_lt_of_le hs2 hT3.size
      refine ⟨hW2.turned hT3 (by omega) (by omega), ?_⟩
      generalize W2.setRow w.heap.size #[.int .i64 fr, .int .i64 se, .int .i64 mo, .slice ro rs.length rc, .bool false, .int .i64 en] = W3 at *
      clear hb2 hW2 hT3 hR1 hE1 hdf1 hrw1 hB1 hs2 hsz1 hS
      refine Free.tk 3 (some 3) ?_ (hy := by intro W hW; go_simp; try with_reducible rfl)
      refine Free.one 4 (fun W4 hb4 hW4 => ?_)
      have hE4 := hE3.below hb4
      have p4 := hE4.cell 0
      have z4 := hE4.frozen 0
      simp only [List.getElem?_toArray, List.getElem?_cons_zero] at p4
      refine o_skip (d := none) rfl (W4.setCell ⟨w.heap.size + 1, 0, none⟩ (.int .i64 0)) (by go_simp; try rfl) ?_
      have hT5 : Turned (fun k => k = w.heap.size + 1) W4 (W4.setCell ⟨w.heap.size + 1, 0, none⟩ (.int .i64 0)) := Turned.setCell (p := ⟨w.heap.size + 1, 0, none⟩) (Turned.refl (fun k => k = w.heap.size + 1) W4) (.inl rfl) _
      have hs4 : w.heap.size + 1 < W4.heap.size := Nat.lt_of_lt_of_le hs3 hb4.size
      have hB5 := (hB3.trans (hb4.mono hB3.size)).trans (hT5.below (by omega) (fun k hk => by omega))
      have hdf5 := heap_turned (heap_below hdf3 hb4) hT5 (by omega)
      have hE5 : Blk (W4.setCell ⟨w.heap.size + 1, 0, none⟩ (.int .i64 0)) (w.heap.size + 1) #[.int .i64 0] 30 := by have := hE4.setCell 0 (.int .i64 0); simpa using this
      have hL5 := ((hR3.below hb4).1).turned hT5 (by omega)
      have hrw5 := (hrw3.below hb4).fixed (by omega) hT5
      refine ⟨hW4.turned hT5 (by omega) (by omega), ?_⟩
      generalize W4.setCell ⟨w.heap.size + 1, 0, none⟩ (.int .i64 0) = W5 at *
      clear hb4 hW4 hT5 hE4 p4 z4 hs4 hB3 hdf3 hE3 hrw3 hs3 hR3
      refine Free.done (fun W6 hb6 hW6 => ?_)
      have HB6 := Lib.hid (hB5.trans (hb6.mono hB5.size))
      have HF6 := Lib.hid (heap_below hdf5 hb6)
      have HE6 := Lib.hid (hE5.below hb6)
      have HL6 := Lib.hid (hL5.below hb6)
      have HW6 := Lib.hid (hrw5.below hb6)
      clear hb6 hW6 hB5 hdf5 hE5 hL5 hrw5
      simp only [onN]
      try go_wp2
      have hsz := HB6.out.size
      have hT7 := turned_putObj W6 D (.deferred none)
      refine leavesP_mark HF6.out (by simp) ?_
      have hE7 := HE6.out.turned hT7 (by omega)
      have hL7 := HL6.out.turned hT7 (by omega)
      have hw7 := HW6.out.fixed (by omega) hT7
      have hB7 := HB6.out.trans (hT7.below hsz (fun k hk => by omega))
      generalize W6.putObj D (.deferred none) = W7 at *
      refine leavesP_fn (g := 39) (args := #[.pointer (some ⟨w.heap.size + 1, 0, none⟩)]) (by simp) (by simp [go_sem]) ?_
      refine CallsD.mono (Decode1_r _ 0 _ (hE7.cell 0) (hE7.frozen 0)) ?_
      rintro e u' w'' ⟨rfl, rfl, rfl⟩
      have hT8 : Turned (fun k => k = w.heap.size + 1) W7 (W7.setCell ⟨w.heap.size + 1, 0, none⟩ (.int .i64 0)) := Turned.setCell (p := ⟨w.heap.size + 1, 0, none⟩) (Turned.refl (fun k => k = w.heap.size + 1) W7) (.inl rfl) _
      have hE8 := (hE7.setCell 0 (.int .i64 0)).cell 0
      have hL8 := hL7.turned hT8 (by omega)
      have hw8 := hw7.fixed (by omega) hT8
      have hB8 := hB7.trans (hT8.below hB7.size (fun k hk => by omega))
      generalize W7.setCell ⟨w.heap.size + 1, 0, none⟩ (.int .i64 0) = W8 at *
      have HX8 := Lib.hid (show DecP b w (.returned (.tuple #[.agg (lgc ⟨fr, se, mo, rs, false, en⟩ (.slice ro rs.length rc)), .int .i64 ((b.length : Int) - (rest.length : Int)), .int .i64 0])) W8 from ⟨hB8, _, _, _, _, rfl, hw8.rsIn HRI.out.1 HRI.out.2, HDR.out⟩)
      obtain ⟨t0, t1, t2, t3, t4, t5⟩ : W8.cell? ⟨w.heap.size, 0, none⟩ = some (.int .i64 fr) ∧ W8.cell? ⟨w.heap.size, 1, none⟩ = some (.int .i64 se) ∧ W8.cell? ⟨w.heap.size, 2, none⟩ = some (.int .i64 mo) ∧ W8.cell? ⟨w.heap.size, 3, none⟩ = some (.slice ro rs.length rc) ∧ W8.cell? ⟨w.heap.size, 4, none⟩ = some (.bool false) ∧ W8.cell? ⟨w.heap.size, 5, none⟩ = some (.int .i64 en) := ⟨hL8.cell 0, hL8.cell 1, hL8.cell 2, hL8.cell 3, hL8.cell 4, hL8.cell 5⟩
      clear hT8 hL8 hw8 hB8 hE7 hL7 hw7 hB7 hT7
      simp only [settle]
      refine leavesP_ret (v := .tuple #[.agg (lgc ⟨fr, se, mo, rs, false, en⟩ (.slice ro rs.length rc)), .int .i64 ((b.length : Int) - (rest.length : Int)), .int .i64 0]) ?_ HX8.out
      simp [results, Try.results21, go_sem, hE8, t0, t1, t2, t3, t4, t5, lgc]
    | true =>
      have h0 := hok rfl
      subst h0
      have e0 : (b.length : Int) - (([] : List Int).length : Int) = (b.length : Int) := by simp
      rw [e0] at cn HN9 HDR
      clear e0
      go_wp2_with fail
      refine (must_yes 260 _).mono ?_
      rintro e W3 ⟨rfl, rfl⟩
      go_wp2_with fail
      have hB1 : Below w.heap.size w W9.drew := HD9.out.u.drew
      have hdf1 : W9.drew.heap[D]? = some (.deferred (some [])) := HD9.out.df
      have hR1 : Rf 26 6 W9.drew w.heap.size #[.int .i64 0, .int .i64 0, .int .i64 0, .slice none 0 0, .bool false, .int .i64 0] := ⟨HD9.out.tb.drew, rfl, by simp [Value.oneCell']⟩
      have hE1 : Blk W9.drew (w.heap.size + 1) #[.int .i64 0] 30 := HD9.out.er.drew
      have hrw1 : RwO W9.drew (D + 1) (.slice ro rs.length rc) rs := HRW.out.below (Below.refl W9.heap.size W9).drew
      have hS : DcZ LX #[.int .i64 fr, .int .i64 se, .int .i64 mo, .slice ro rs.length rc, .bool true, .int .i64 en] ((b.length : Int)) W9.drew := ⟨HL.out.drew, HN9.out.drew⟩
      have hsz1 : w.heap.size + 1 < W9.drew.heap.size := hE1.lt
      have hok6 : Ok1 6 #[.int .i64 fr, .int .i64 se, .int .i64 mo, .slice ro rs.length rc, .bool true, .int .i64 en] := ⟨rfl, by simp [Value.oneCell']⟩
      clear HD9 HL HRW c4 cn HN9
      refine wp_onN ?_
      refine Free.any (DcZ LX #[.int .i64 fr, .int .i64 se, .int .i64 mo, .slice ro rs.length rc, .bool true, .int .i64 en] ((b.length : Int))) (DcZ.stb _ _ _) hS (fun st => ?_)
      refine Free.tk 0 (some 57) (v := .agg #[.int .i64 fr, .int .i64 se, .int .i64 mo, .slice ro rs.length rc, .bool true, .int .i64 en]) ?_ (hy := by intro W hW; obtain ⟨q0, q1, q2, q3, q4, q5⟩ := hW.cells; go_simp; try with_reducible rfl)
      refine Free.tk 1 (some 58) (v := .int .i64 ((b.length : Int))) ?_ (hy := by intro W hW; have q0 := hW.n.cell 0; simp only [List.getElem?_toArray, List.getElem?_cons_zero] at q0; go_simp; try with_reducible rfl)
      refine Free.one 2 (fun W2 hb2 hW2 => ?_)
      refine o_store_R (d := none) rfl #[.int .i64 fr, .int .i64 se, .int .i64 mo, .slice ro rs.length rc, .bool true, .int .i64 en] rowLog (hR1.below hb2) hok6 rfl rfl rfl ?_
      have hR3 := (hR1.below hb2).set hok6
      have hT3 := turned_setRow W2 w.heap.size #[.int .i64 fr, .int .i64 se, .int .i64 mo, .slice ro rs.length rc, .bool true, .int .i64 en]
      have hs2 : w.heap.size + 1 < W2.heap.size := Nat.lt_of_lt_of_le hsz1 hb2.size
      have hB3 := (hB1.trans (hb2.mono hB1.size)).trans (hT3.below (by omega) (fun k hk => by omega))
      have hdf3 := heap_turned (heap_below hdf1 hb2) hT3 (by omega)
      have hE3 := (hE1.below hb2).turned hT3 (by omega)
      have hrw3 := (hrw1.below hb2).fixed (by omega) hT3
      have hs3 := Nat.lt_of_lt_of_le hs2 hT3.size
      refine ⟨hW2.turned hT3 (by omega) (by omega), ?_⟩
      generalize W2.setRow w.heap.size #[.int .i64 fr, .int .i64 se, .int .i64 mo, .slice ro rs.length rc, .bool true, .int .i64 en] = W3 at *
      clear hb2 hW2 hT3 hR1 hE1 hdf1 hrw1 hB1 hs2 hsz1 hS
      refine Free.tk 3 (some 3) ?_ (hy := by intro W hW; go_simp; try with_reducible rfl)
      refine Free.one 4 (fun W4 hb4 hW4 => ?_)
      have hE4 := hE3.below hb4
      have p4 := hE4.cell 0
      have z4 := hE4.frozen 0
      simp only [List.getElem?_toArray, List.getElem?_cons_zero] at p4
      refine o_skip (d := none) rfl (W4.setCell ⟨w.heap.size + 1, 0, none⟩ (.int .i64 0)) (by go_simp; try rfl) ?_
      have hT5 : Turned (fun k => k = w.heap.size + 1) W4 (W4.setCell ⟨w.heap.size + 1, 0, none⟩ (.int .i64 0)) := Turned.setCell (p := ⟨w.heap.size + 1, 0, none⟩) (Turned.refl (fun k => k = w.heap.size + 1) W4) (.inl rfl) _
      have hs4 : w.heap.size + 1 < W4.heap.size := Nat.lt_of_lt_of_le hs3 hb4.size
      have hB5 := (hB3.trans (hb4.mono hB3.size)).trans (hT5.below (by omega) (fun k hk => by omega))
      have hdf5 := heap_turned (heap_below hdf3 hb4) hT5 (by omega)
      have hE5 : Blk (W4.setCell ⟨w.heap.size + 1, 0, none⟩ (.int .i64 0)) (w.heap.size + 1) #[.int .i64 0] 30 := by have := hE4.setCell 0 (.int .i64 0); simpa using this
      have hL5 := ((hR3.below hb4).1).turned hT5 (by omega)
      have hrw5 := (hrw3.below hb4).fixed (by omega) hT5
      refine ⟨hW4.turned hT5 (by omega) (by omega), ?_⟩
      generalize W4.setCell ⟨w.heap.size + 1, 0, none⟩ (.int .i64 0) = W5 at *
      clear hb4 hW4 hT5 hE4 p4 z4 hs4 hB3 hdf3 hE3 hrw3 hs3 hR3
      refine Free.done (fun W6 hb6 hW6 => ?_)
      have HB6 := Lib.hid (hB5.trans (hb6.mono hB5.size))
      have HF6 := Lib.hid (heap_below hdf5 hb6)
      have HE6 := Lib.hid (hE5.below hb6)
      have HL6 := Lib.hid (hL5.below hb6)
      have HW6 := Lib.hid (hrw5.below hb6)
      clear hb6 hW6 hB5 hdf5 hE5 hL5 hrw5
      simp only [onN]
      try go_wp2
      have hsz := HB6.out.size
      have hT7 := turned_putObj W6 D (.deferred none)
      refine leavesP_mark HF6.out (by simp) ?_
      have hE7 := HE6.out.turned hT7 (by omega)
      have hL7 := HL6.out.turned hT7 (by omega)
      have hw7 := HW6.out.fixed (by omega) hT7
      have hB7 := HB6.out.trans (hT7.below hsz (fun k hk => by omega))
      generalize W6.putObj D (.deferred none) = W7 at *
      refine leavesP_fn (g := 39) (args := #[.pointer (some ⟨w.heap.size + 1, 0, none⟩)]) (by simp) (by simp [go_sem]) ?_
      refine CallsD.mono (Decode1_r _ 0 _ (hE7.cell 0) (hE7.frozen 0)) ?_
      rintro e u' w'' ⟨rfl, rfl, rfl⟩
      have hT8 : Turned (fun k => k = w.heap.size + 1) W7 (W7.setCell ⟨w.heap.size + 1, 0, none⟩ (.int .i64 0)) := Turned.setCell (p := ⟨w.heap.size + 1, 0, none⟩) (Turned.refl (fun k => k = w.heap.size + 1) W7) (.inl rfl) _
      have hE8 := (hE7.setCell 0 (.int .i64 0)).cell 0
      have hL8 := hL7.turned hT8 (by omega)
      have hw8 := hw7.fixed (by omega) hT8
      have hB8 := hB7.trans (hT8.below hB7.size (fun k hk => by omega))
      generalize W7.setCell ⟨w.heap.size + 1, 0, none⟩ (.int .i64 0) = W8 at *
      have HX8 := Lib.hid (show DecP b w (.returned (.tuple #[.agg (lgc ⟨fr, se, mo, rs, true, en⟩ (.slice ro rs.length rc)), .int .i64 ((b.length : Int)), .int .i64 0])) W8 from ⟨hB8, _, _, _, _, rfl, hw8.rsIn HRI.out.1 HRI.out.2, HDR.out⟩)
      obtain ⟨t0, t1, t2, t3, t4, t5⟩ : W8.cell? ⟨w.heap.size, 0, none⟩ = some (.int .i64 fr) ∧ W8.cell? ⟨w.heap.size, 1, none⟩ = some (.int .i64 se) ∧ W8.cell? ⟨w.heap.size, 2, none⟩ = some (.int .i64 mo) ∧ W8.cell? ⟨w.heap.size, 3, none⟩ = some (.slice ro rs.length rc) ∧ W8.cell? ⟨w.heap.size, 4, none⟩ = some (.bool true) ∧ W8.cell? ⟨w.heap.size, 5, none⟩ = some (.int .i64 en) := ⟨hL8.cell 0, hL8.cell 1, hL8.cell 2, hL8.cell 3, hL8.cell 4, hL8.cell 5⟩
      clear hT8 hL8 hw8 hB8 hE7 hL7 hw7 hB7 hT7
      simp only [settle]
      refine leavesP_ret (v := .tuple #[.agg (lgc ⟨fr, se, mo, rs, true, en⟩ (.slice ro rs.length rc)), .int .i64 ((b.length : Int)), .int .i64 0]) ?_ HX8.out
      simp [results, Try.results21, go_sem, hE8, t0, t1, t2, t3, t4, t5, lgc]
end Go.Proofs.Ytjffclcjijpmiaa.LG

/-
  Layer 8: DiskCopies: walk. Written by gen_copies.py.
-/
import Derived.Test.YtbinpapgfddafaaLaws2
import Derived.Test.YtbinpapgfddafaaPlayed
import Derived.Test.YtbinpapgfddafaaSame
namespace Go.Proofs.Ytbinpapgfddafaa
open Go.RowKit Go.Shelf
attribute [local go_sem] Oper.semAt_some
set_option maxHeartbeats 16000000
set_option linter.unusedVariables false
set_option linter.unusedSimpArgs false

/-- Blocks known whole, and blocks for deferred calls, shut. -/
structure Cps (w : World) (L : List Bx) (Ds : List Nat) (W : World) : Prop where
  bx : Bxs w L W
  ds : ∀ d ∈ Ds, W.heap[d]? = some (.deferred (some []))
section
variable {w W W' : World} {L : List Bx} {Ds : List Nat}
theorem Cps.after (h : Cps w L Ds W) (hb : Below W.heap.size W W') : Cps w L Ds W' :=
  ⟨h.bx.after hb, fun d hd => (hb.block _ (Array.getElem?_eq_some_iff.1 (h.ds d hd)).1).trans (h.ds d hd)⟩
theorem Cps.drew (h : Cps w L Ds W) : Cps w L Ds W.drew := h.after (Below.refl _ _).drew
theorem Cps.alloc (h : Cps w L Ds W) (cs : Array Value) (ty : TypeId) : Cps w ((W.heap.size, cs, ty) :: L) Ds (W.alloc (.cells cs ty)) :=
  ⟨h.bx.alloc cs ty, fun d hd => (Below.heap_alloc _ _ _ (Array.getElem?_eq_some_iff.1 (h.ds d hd)).1).trans (h.ds d hd)⟩
theorem Cps.add (h : Cps w L Ds W) {b : Nat} {cs : Array Value} {ty : TypeId} (hb : Blk W b cs ty) : Cps w ((b, cs, ty) :: L) Ds W :=
  ⟨⟨h.bx.below, fun p hp => by
    rcases List.mem_cons.1 hp with rfl | hp
    · exact hb
    · exact h.bx.at_ p hp⟩, h.ds⟩
theorem Cps.addD (h : Cps w L Ds W) {d : Nat} (hd : W.heap[d]? = some (.deferred (some []))) : Cps w L (d :: Ds) W :=
  ⟨h.bx, fun d' hd' => by
    rcases List.mem_cons.1 hd' with rfl | hd'
    · exact hd
    · exact h.ds d' hd'⟩
theorem Cps.get (h : Cps w L Ds W) (b : Nat) {cs : Array Value} {ty : TypeId} (hm : (b, cs, ty) ∈ L) : Blk W b cs ty := h.bx.at_ _ hm
theorem Cps.sub {L' : List Bx} (h : Cps w L Ds W) (hs : ∀ p ∈ L', p ∈ L) : Cps w L' Ds W := ⟨⟨h.bx.below, fun p hp => h.bx.at_ p (hs p hp)⟩, h.ds⟩
/-- One block turns: all the others stay. -/
theorem Cps.one {L1 L2 : List Bx} {b : Nat} {cs cs' : Array Value} {ty : TypeId} (h : Cps w (L1 ++ (b, cs, ty) :: L2) Ds W) (hlo : w.heap.size ≤ b) (hb : Blk W' b cs' ty) (ht : Turned (fun j => j = b) W W') (hn : ∀ p ∈ L1 ++ L2, p.1 ≠ b) : Cps w (L1 ++ (b, cs', ty) :: L2) Ds W' := by
  refine ⟨⟨h.bx.below.trans (ht.below h.bx.below.size (fun k e => by omega)), fun p hp => ?_⟩, fun d hd => ?_⟩
  · rcases List.mem_append.1 hp with h1 | h1
    · exact (h.bx.at_ p (List.mem_append_left _ h1)).turned ht (hn p (List.mem_append_left _ h1))
    · rcases List.mem_cons.1 h1 with rfl | h1
      · exact hb
      · exact (h.bx.at_ p (List.mem_append_right _ (List.mem_cons_of_mem _ h1))).turned ht (hn p (List.mem_append_right _ h1))
  · have hbk := h.bx.at_ (b, cs, ty) (by simp)
    exact ht.keep (h.ds d hd) (fun e => by
      have h2 := h.ds d hd
      rw [e, hbk] at h2; cases h2)
theorem cps_own {β γ : Type} (w : World) (f : β → γ → Prop) (L : β → γ → List Bx) (Ds : List Nat) {B : Nat} (hB : w.heap.size ≤ B) (hD : ∀ d ∈ Ds, d < B) : OwnFrom B (fun (s : β) W => ∃ x, f s x ∧ Cps w (L s x) Ds W) := by
  intro s W W' row hs hg hr
  obtain ⟨x, hf, hc⟩ := hs
  obtain ⟨x', hf', hb⟩ := bxs_own w (fun (_ : Unit) (_ : Unit) => True) (fun _ _ => L s x) hB () W W' row ⟨(), trivial, hc.bx⟩ hg hr
  exact ⟨x, hf, hb, fun d hd => (hg.block d (Array.getElem?_eq_some_iff.1 (hc.ds d hd)).1 (fun e => by
    have := (hr _ e.symm).1
    have := hD d hd
    omega)).trans (hc.ds d hd)⟩
end
/-- The result is stored, the three blocks for deferred calls are shut. -/
theorem fin_copies {w wb W : World} {L : List Bx} {D0 D1 D2 : Nat} (h : Cps wb L [D2, D1, D0] W) (hb : Below w.heap.size w wb) (hr : Blk W (w.heap.size + 1) #[.bool false] 4) (hD : D0 < D1 ∧ D1 < D2 ∧ w.heap.size + 1 < D0) :
    (W.setCell ⟨w.heap.size + 1, 0, none⟩ (.bool true)).heap[D2]? = some (.deferred (some [])) ∧
    ((W.setCell ⟨w.heap.size + 1, 0, none⟩ (.bool true)).putObj D2 (.deferred none)).heap[D1]? = some (.deferred (some [])) ∧
    (((W.setCell ⟨w.heap.size + 1, 0, none⟩ (.bool true)).putObj D2 (.deferred none)).putObj D1 (.deferred none)).heap[D0]? = some (.deferred (some [])) ∧
    ((((W.setCell ⟨w.heap.size + 1, 0, none⟩ (.bool true)).putObj D2 (.deferred none)).putObj D1 (.deferred none)).putObj D0 (.deferred none)).cell? ⟨w.heap.size + 1, 0, none⟩ = some (.bool true) ∧
    Below w.heap.size w ((((W.setCell ⟨w.heap.size + 1, 0, none⟩ (.bool true)).putObj D2 (.deferred none)).putObj D1 (.deferred none)).putObj D0 (.deferred none)) := by
  obtain ⟨h1, h2, h3⟩ := hD
  have d2 : (W.setCell ⟨w.heap.size + 1, 0, none⟩ (.bool true)).heap[D2]? = some (.deferred (some [])) := (Below.heap_setCell _ _ _ _ (by show D2 ≠ w.heap.size + 1; omega)).trans (h.ds D2 (by simp))
  have d1 : ((W.setCell ⟨w.heap.size + 1, 0, none⟩ (.bool true)).putObj D2 (.deferred none)).heap[D1]? = some (.deferred (some [])) := (World.putObj_heap_other (by omega)).trans ((Below.heap_setCell _ _ _ _ (by show D1 ≠ w.heap.size + 1; omega)).trans (h.ds D1 (by simp)))
  have d0 : (((W.setCell ⟨w.heap.size + 1, 0, none⟩ (.bool true)).putObj D2 (.deferred none)).putObj D1 (.deferred none)).heap[D0]? = some (.deferred (some [])) := (World.putObj_heap_other (by omega)).trans ((World.putObj_heap_other (by omega)).trans ((Below.heap_setCell _ _ _ _ (by show D0 ≠ w.heap.size + 1; omega)).trans (h.ds D0 (by simp))))
  refine ⟨d2, d1, d0, ?_, ?_⟩
  · rw [cell_putObj (show w.heap.size + 1 ≠ D0 by omega), cell_putObj (show w.heap.size + 1 ≠ D1 by omega), cell_putObj (show w.heap.size + 1 ≠ D2 by omega)]
    exact (hr.setCell 0 (.bool true)).cell 0
  · have b0 : Below w.heap.size w (W.setCell ⟨w.heap.size + 1, 0, none⟩ (.bool true)) := (hb.trans (h.bx.below.mono hb.size)).setCell (p := ⟨w.heap.size + 1, 0, none⟩) (by simp) _
    have b1 := b0.trans (belowK_b (w := w) (Nat.le_refl _) _ D2 _ (.deferred none) (by omega) d2 rfl rfl)
    have b2 := b1.trans (belowK_b (w := w) (Nat.le_refl _) _ D1 _ (.deferred none) (by omega) d1 rfl rfl)
    exact b2.trans (belowK_b (w := w) (Nat.le_refl _) _ D0 _ (.deferred none) (by omega) d0 rfl rfl)
/-- What stands behind all the calls ahead of the loops. -/
structure Cy (s : Ac) (z S Sc P : Nat) (b : List Int) (F Fc : Nat → Prop) (vb vn : Value) (B : Nat) (v1 : Value) (H : Nat) (vh : Value) (us : List Nat) (W : World) : Prop where
  box : Blk W z (acL s).toArray 44
  res : Blk W (z + 1) #[.bool false] 4
  c : Dk W Sc P b Fc
  d : Dk W S P (wrE b s.n s.x) F
  nb : NumsIn .u8 W vb b
  nn : NumsIn .u8 W vn (wrE b s.n s.x)
  sq : Blk W B #[v1] 53
  sn : NumsIn .i64 W v1 (nat2int us)
  hb : Blk W H #[vh] 53
  hn : NumsIn .i64 W vh (nat2int us)
theorem Cy.below {s : Ac} {z S Sc P : Nat} {b : List Int} {F Fc : Nat → Prop} {vb vn : Value} {B : Nat} {v1 : Value} {H : Nat} {vh : Value} {us : List Nat} {W W' : World} (h : Cy s z S Sc P b F Fc vb vn B v1 H vh us W) (hw : Below W.heap.size W W') : Cy s z S Sc P b F Fc vb vn B v1 H vh us W' :=
  ⟨h.box.below hw, h.res.below hw, h.c.below hw, h.d.below hw, h.nb.below hw, h.nn.below hw, h.sq.below hw, h.sn.below hw, h.hb.below hw, h.hn.below hw⟩
theorem Cy.facts {s : Ac} {z S Sc P : Nat} {b : List Int} {F Fc : Nat → Prop} {vb vn : Value} {B : Nat} {v1 : Value} {H : Nat} {vh : Value} {us : List Nat} {W : World} (h : Cy s z S Sc P b F Fc vb vn B v1 H vh us W) : W.cell? ⟨z, 0, none⟩ = some (.int .i64 s.n) ∧ W.rangeAt z 1 (bv s.x) ∧ W.cell? ⟨H, 0, none⟩ = some vh := by
  refine ⟨by rw [h.box.cell]; simp [acL], h.box.range 1 _ ?_, by rw [h.hb.cell]; rfl⟩
  have e : (acL s).toArray.toList.drop 1 = bv s.x := rfl
  rw [e]
  exact List.take_length
/-- Boxes of the start: what is written, the result. -/
structure St (w : World) (s : Ac) (W : World) : Prop where
  box : Blk W w.heap.size (acL s).toArray 44
  res : Blk W (w.heap.size + 1) #[.bool false] 4
  below : Below w.heap.size w W
theorem st_start (w : World) (s : Ac) : St w s ((w.alloc (.cells (acL s).toArray 44)).alloc (.cells #[.bool false] 4)) := by
  have h1 := blk_new (w.alloc (.cells (acL s).toArray 44)) #[.bool false] 4
  rw [World.size_alloc] at h1
  exact ⟨(blk_new _ _ _).alloc _, h1, ((Below.refl _ _).alloc (Nat.le_refl _) _).alloc (by simp) _⟩
theorem St.after {w W W' : World} {s : Ac} (h : St w s W) (hb : Below W.heap.size W W') : St w s W' := ⟨h.box.below hb, h.res.below hb, h.below.trans (hb.mono h.below.size)⟩
theorem St.turned {w W W' : World} {s : Ac} {F : Nat → Prop} (h : St w s W) (ht : Turned F W W') (hF : ∀ k, F k → w.heap.size + 1 < k) : St w s W' :=
  ⟨h.box.turned ht (fun e => by have := hF _ e; omega), h.res.turned ht (fun e => by have := hF _ e; omega), h.below.trans (ht.below h.below.size (fun k hk => by have := hF k hk; omega))⟩
theorem str_same {x y : List Int} (hx : Byt x) (hy : Byt y) : ((strOfNums x).toList == (strOfNums y).toList) = decide (x = y) := str_eq hx hy
set_option maxRecDepth 100000 in
theorem DiskCopies_out {n : Int} {va : Value} {xs : List Ac} {s : Ac} {w : World} (ha : ActsIn w va xs) (hin : ¬ ((1 ≤ n ∧ n ≤ 32) ∧ xs.length ≤ 40)) : Calls Try.prog 6 #[.int .i64 n, va, .agg (acL s).toArray] w fun e w' => e = .returned (.bool true) ∧ Below w.heap.size w w' := by
  have hcs : n < 1 ∨ (1 ≤ n ∧ 32 < n) ∨ ((1 ≤ n ∧ n ≤ 32) ∧ 40 < xs.length) := by omega
  have H0 := Lib.hid (st_start w s)
  obtain ⟨ao, c, rfl, hc, hm, _⟩ := ha
  clear hin
  unfold maxLen at hm
  rcases hcs with h | ⟨h, h2⟩ | ⟨⟨h, h2⟩, h3⟩
  all_goals
    go_enter Try.func6, Try.ntmps6
    go_wp2_with fail
    refine (works_any _).mono ?_
    rintro e w1 ⟨rfl, hb⟩
    have H1 := Lib.hid (H0.out.after hb)
    have q1 := H1.out.res.cell 0
    have f1 := H1.out.res.frozen 0
    simp only [List.getElem?_toArray, List.getElem?_cons_zero] at q1
    clear hb
    go_wp2
    refine bodyPost_ret (v := .bool true) (by simp [results, Try.results6, go_sem, (H1.out.res.setCell 0 (.bool true)).cell 0]) rfl ⟨rfl, H1.out.below.setCell (p := ⟨w.heap.size + 1, 0, none⟩) (by simp) _⟩
set_option maxRecDepth 100000 in
theorem DiskCopies_in {P : Nat} (h0 : 1 ≤ P) (h1 : P ≤ 32) {va : Value} {xs : List Ac} {s : Ac} {w : World} (ha : ActsIn w va xs) (hxl : xs.length ≤ 40) (hs : s.Ok) : Calls Try.prog 6 #[.int .i64 (P : Int), va, .agg (acL s).toArray] w fun e w' => e = .returned (.bool true) ∧ Below w.heap.size w w' := by
  have hz := zero_arr
  have H0 := Lib.hid (st_start w s)
  have HPl := Lib.hid (played_any h0 h1 (ha.below H0.out.below) hxl)
  obtain ⟨ao, c, rfl, hc, hm, _⟩ := ha
  unfold maxLen at hm
  refine (callsIn_wide (n := 5)).1 ?_
  refine callsIn_of_wp_marks Try.func6 rfl trivial ?_ rfl
  refine wpIn_wide.2 ?_
  simp only [Try.ntmps6, List.size_toArray, List.length_cons, List.length_nil, Nat.reduceAdd, Nat.reduceSub, Array.replicate_succ, Array.replicate_zero, List.push_toArray, List.append_toArray, List.nil_append, List.cons_append]
  simp only [List.append]
  go_wp2_with fail
  refine HPl.out.mono ?_
  rintro e w1 ⟨S, F, vb, rfl, hp⟩
  generalize plB P xs = b at hp
  have H1 := Lib.hid (H0.out.after hp.below)
  have HP1 := Lib.hid hp
  have HF := Lib.hid (show ∀ k, F k → w.heap.size + 1 < k ∧ k < w1.heap.size from fun k hk => by have := hp.lF k hk; simp at this; exact ⟨by omega, hp.dk.lt k hk⟩)
  clear hp H0 HPl
  go_wp2_with fail
  refine (Copy_any HP1.out.dk).mono ?_
  rintro e w2 ⟨Sc, rfl, Fc, hdc, hFc, hb2⟩
  have H2 := Lib.hid (H1.out.after hb2)
  have HP2 := Lib.hid (HP1.out.after hb2)
  have HC2 := Lib.hid hdc
  have HFc := Lib.hid hFc
  clear hdc hFc hb2 H1 HP1
  go_wp2_with fail
  refine (Used_any HP2.out.dk).mono ?_
  rintro e w3 ⟨B, v1, rfl, hsq⟩
  have H3 := Lib.hid (H2.out.after hsq.below)
  have HP3 := Lib.hid (HP2.out.after hsq.below)
  have HC3 := Lib.hid (HC2.out.below hsq.below)
  have HQ3 := Lib.hid hsq
  clear hsq H2 HP2
  go_wp2_with fail
  refine (Same_any HC3.out HP3.out.dk).mono ?_
  rintro e w4 ⟨rfl, hb4⟩
  have H4 := Lib.hid (H3.out.after hb4)
  have HP4 := Lib.hid (HP3.out.after hb4)
  have HC4 := Lib.hid (HC3.out.below hb4)
  have HQ4 := Lib.hid (HQ3.out.after hb4)
  clear hb4 H3 HP3 HC3 HQ3
  have hdd : decide (b = b) = true := decide_eq_true rfl
  rw [hdd]
  have hlb : b.length ≤ 100000 := by have := HP4.out.dk.dsk.len; omega
  have hq1 : w4.cell? ⟨w.heap.size, 0, none⟩ = some (.int .i64 s.n) := by rw [H4.out.box.cell]; simp [acL]
  have hq2 : w4.rangeAt w.heap.size 1 (bv s.x) := H4.out.box.range 1 _ (by have e : (acL s).toArray.toList.drop 1 = bv s.x := rfl; rw [e]; exact List.take_length)
  go_wp2_with (first | ((with_reducible apply wp_load_Am); (exact ⟨hq2, hs.len⟩); (rfl)))
  refine (RWrite_any HP4.out.n hlb s.n hs.len hs.byt).mono ?_
  rintro e w5 ⟨vn, rfl, hw5⟩
  have H5 := Lib.hid (H4.out.after hw5.2.2)
  have HP5 := Lib.hid (HP4.out.after hw5.2.2)
  have HC5 := Lib.hid (HC4.out.below hw5.2.2)
  have HQ5 := Lib.hid (HQ4.out.after hw5.2.2)
  have HN5 := Lib.hid hw5.1
  clear hw5 H4 HP4 HC4 HQ4 hq1 hq2 hdd
  have hq3 : w5.cell? ⟨w.heap.size, 0, none⟩ = some (.int .i64 s.n) := by rw [H5.out.box.cell]; simp [acL]
  have hq4 : w5.rangeAt w.heap.size 1 (bv s.x) := H5.out.box.range 1 _ (by have e : (acL s).toArray.toList.drop 1 = bv s.x := rfl; rw [e]; exact List.take_length)
  go_wp2_with (first | ((with_reducible apply wp_load_Am); (exact ⟨hq4, hs.len⟩); (rfl)))
  refine (Write_any HP5.out.dk s.n hs.len hs.byt).mono ?_
  rintro e w6 ⟨rfl, hp6⟩
  have H6 := Lib.hid (H5.out.turned hp6.2 (fun k hk => (HF.out k hk).1))
  have HD6 := Lib.hid hp6.1
  have HC6 := Lib.hid (HC5.out.turned hp6.2 (fun k hk hF => by have := HFc.out k hk; have := (HF.out k hF).2; omega))
  have HB6 := Lib.hid (HP5.out.n.turned hp6.2 (HP5.out.dk.apart HP5.out.n))
  have HN6 := Lib.hid (HN5.out.turned hp6.2 (HP5.out.dk.apart HN5.out))
  have hw12 : w1.heap.size ≤ w2.heap.size := by have := HC2.out.lt Sc HC2.out.mem; have := HFc.out Sc HC2.out.mem; omega
  have HQB := Lib.hid (show Blk w6 B #[v1] 53 from HQ5.out.blk.turned hp6.2 (fun hF => by have := HQ5.out.loB; have := (HF.out B hF).2; omega))
  have HQN := Lib.hid (show NumsIn .i64 w6 v1 (nat2int (uses b P)) from HQ5.out.nums.turned hp6.2 (fun k hk hF => by have := HQ5.out.loV k hk; have := (HF.out k hF).2; omega))
  have hzB : w.heap.size + 1 < B ∧ B < w6.heap.size := ⟨by have := HQ5.out.loB; have := H6.out.res.lt; have := (HF.out S HD6.out.mem); omega, HQB.out.lt⟩
  have HLV := Lib.hid (show ∀ k, rdBlk v1 = some k → k < w6.heap.size from fun k hk => HQN.out.lt hk)
  have hdiv : b.length / 64 = P := HP5.out.dk.dsk.div
  have HDb := Lib.hid HP5.out.dk.dsk
  clear hp6 H5 HP5 HC5 HQ5 HN5 hq3 hq4 HC2 HFc hw12
  have hlb2 : b.length ≤ 3000 := by have := HDb.out.len; omega
  go_wp2_with fail
  refine (RUsed_any HB6.out hlb2).mono ?_
  rintro e w7 ⟨vh, rfl, hu7⟩
  rw [hdiv] at hu7
  obtain ⟨aoh, ch, hvh, _⟩ := hu7.1.form
  rw [nat2int_len] at hvh
  subst hvh
  have hus : (uses b P).length ≤ 32 := Nat.le_trans (uses_le b P) h1
  generalize hug : uses b P = us at *
  have HY := Lib.hid (show Cy s w.heap.size S Sc P b F Fc vb vn B v1 w7.heap.size (.slice aoh us.length ch) us (w7.alloc (.cells #[.slice aoh us.length ch] 53)) from by
    have hb := hu7.2.2.alloc hu7.2.2.size (.cells #[.slice aoh us.length ch] 53)
    exact ⟨H6.out.box.below hb, H6.out.res.below hb, HC6.out.below hb, HD6.out.below hb, HB6.out.below hb, HN6.out.below hb, HQB.out.below hb, HQN.out.below hb, blk_new _ _ _, hu7.1.below ((Below.refl _ _).alloc (Nat.le_refl _) _)⟩)
  have HWb := Lib.hid (show Below w.heap.size w (w7.alloc (.cells #[.slice aoh us.length ch] 53)) from (H6.out.below.trans (hu7.2.2.mono H6.out.below.size)).alloc (by have := H6.out.below.size; have := hu7.2.2.size; omega) _)
  have hz67 := hu7.2.2.size
  clear hu7 H6 HC6 HD6 HB6 HN6 HQB HQN
  go_wp2_with fail
  obtain ⟨wb, hwb⟩ : ∃ wb, w7.alloc (.cells #[.slice aoh us.length ch] 53) = wb := ⟨_, rfl⟩
  have hzb : wb.heap.size = w7.heap.size + 1 := by rw [← hwb]; simp
  rw [hwb] at HY HWb ⊢
  obtain ⟨H, hH⟩ : ∃ H, w7.heap.size = H := ⟨_, rfl⟩
  try simp only [World.size_alloc]
  rw [hH] at HY hzb hz67 ⊢
  have H6 : Cps wb [(H + 1, #[.int .i64 0], 3)] [] (wb.alloc (.cells #[.int .i64 0] 3)) := by
    have := (⟨Bxs.nil wb, fun d hd => by cases hd⟩ : Cps wb [] [] wb).alloc #[.int .i64 0] 3
    rw [hzb] at this
    exact this
  have H6 := Lib.hid H6
  have hz6 := (H6.out.get (H + 1) (cs := #[.int .i64 0]) (ty := 3) (by simp)).lt
  generalize wb.alloc (.cells #[.int .i64 0] 3) = W6 at H6 hz6 ⊢
  have HY6 := HY.out.below H6.out.bx.below
  refine (wpIn_wide (n := 5)).1 (wp_over_f (gf := 42) (lb := #[.pointer (some ⟨B, 0, none⟩)]) rfl (enters_of Try.func42 (by kernel_rfl) rfl)
    (Values1_gives HY6.sq HY6.sn (by omega) (fun k => k = H + 1) (fun k hk e => by have := HLV.out k hk; omega))
    (fun k e => by subst e; exact hz6) (fun _ => rfl)
    (fun pre W => ∃ _x : Unit, True ∧ Cps wb [(H + 1, #[.int .i64 (pre.length : Int)], 3)] [] W)
    (fun c pre W => ∃ _x : Unit, False ∧ Cps wb [] [] W)
    (cps_own wb _ _ _ (by omega) (fun d hd => by cases hd)) (fun c => cps_own wb _ _ _ (by omega) (fun d hd => by cases hd)) ⟨(), trivial, H6.out⟩
    (fun tm x => (tm.setIfInBounds 75 (.int .i64 (x : Int))).setIfInBounds 16 (.int .i64 (x : Int)))
    ?assign ?body ?done (fun _ _ _ _ _ _ _ hx _ => by obtain ⟨_, h, _⟩ := hx; exact h.elim))
  case assign =>
    intro ll mm x W3 K hK
    gi_wp2
    simp only [List.setIfInBounds_toArray, List.set_cons_zero, List.set_cons_succ] at hK
    exact hK
  case body =>
    rintro ll mm pre x rest W hf ⟨_, _, hX⟩
    simp only [List.setIfInBounds_toArray, List.set_cons_zero, List.set_cons_succ]
    have hpl : pre.length < us.length := by rw [hf]; simp
    have hat : us[pre.length]'hpl = x := by simp [hf]
    have hy := HY.out.below hX.bx.below
    obtain ⟨a, ha, _, hcell⟩ := nums_cell hy.hn (i := pre.length) (by rw [nat2int_len]; exact hpl)
    have q0 := hy.hb.cell 0
    have k2 := hX.get (H + 1) (cs := #[.int .i64 (pre.length : Int)]) (ty := 3) (by simp)
    have q2 := k2.cell 0
    have f2 := k2.frozen 0
    simp only [List.getElem?_toArray, List.getElem?_cons_zero] at q0 q2
    clear hy HY6
    subst ha
    rw [at0_nat hpl, hat] at hcell
    have HX := Lib.hid (Cps.one (L1 := []) hX (by omega) (k2.setCell 0 (.int .i64 ((pre.length + 1 : Nat) : Int))) ((Turned.refl (fun j => j = H + 1) W).setCell (p := ⟨H + 1, 0, none⟩) (.inl rfl) (.int .i64 ((pre.length + 1 : Nat) : Int))) (fun q hq => by simp at hq))
    have hi : (pre.length : Int) < (us.length : Int) := by omega
    clear hX k2 hf hat H6
    have hpe : (pre ++ [x]).length = pre.length + 1 := by simp
    generalize (pre ++ [x]) = pre' at hpe ⊢
    generalize pre.length = pn at *
    gi_wp2
    have e : ((pn : Int) + 1) = ((pn + 1 : Nat) : Int) := by omega
    rw [e]
    refine ⟨KeptBut.cell _ (p := ⟨H + 1, 0, none⟩) _ rfl, (), trivial, ?_⟩
    rw [hpe]
    exact HX.out
  case done =>
    rintro D0 W9 hD0 ⟨_, _, hX⟩ hK
    have H8 := Lib.hid ((hX.addD hK).alloc #[.int .i64 0] 3)
    have hD9 := (Array.getElem?_eq_some_iff.1 hK).1
    clear hX hK H6 HY6
    go_wp2_with fail
    have hz8 := (H8.out.get W9.heap.size (cs := #[.int .i64 0]) (ty := 3) (by simp)).lt
    generalize W9.alloc (.cells #[.int .i64 0] 3) = W8 at H8 hz8 ⊢
    obtain ⟨A1, hA1⟩ : ∃ A1, W9.heap.size = A1 := ⟨_, rfl⟩
    rw [hA1] at H8 hz8 hD9 ⊢
    have hz69 : W6.heap.size ≤ A1 := by omega
    have HY8 := HY.out.below H8.out.bx.below
    refine (wpIn_wide (n := 5)).1 (wp_over_b (id := 2) (gf := 42) (lb := #[.pointer (some ⟨B, 0, none⟩)]) rfl (enters_of Try.func42 (by kernel_rfl) rfl)
      (Values1_gives HY8.sq HY8.sn (by omega) (fun k => k = A1) (fun k hk e => by have := HLV.out k hk; omega))
      (fun k hk => by rw [hk]; exact hz8) (fun _ => rfl)
      (fun pre W => ∃ _x : Unit, pre = [] ∧ Cps wb [(A1, #[.int .i64 0], 3), (H + 1, #[.int .i64 (us.length : Int)], 3)] [D0] W)
      (fun c pre W => ∃ _x : Unit, (c = .exit 2 ∧ pre ≠ []) ∧ Cps wb [(A1, #[.int .i64 1], 3), (H + 1, #[.int .i64 (us.length : Int)], 3)] [D0] W)
      (cps_own wb _ _ _ (by omega) (fun d hd => by simp only [List.mem_cons, List.not_mem_nil, or_false] at hd; omega)) (fun c => cps_own wb _ _ _ (by omega) (fun d hd => by simp only [List.mem_cons, List.not_mem_nil, or_false] at hd; omega)) ⟨(), rfl, H8.out⟩
      (fun tm x => tm.setIfInBounds 91 (.int .i64 (x : Int)))
      ?assign2 ?body2 (fun _ _ h => h) (fun c pre W ⟨_, h, _⟩ => h.1) ?rest2)
    case assign2 =>
      intro ll mm x W1 K hK
      gi_wp2
      simp only [List.setIfInBounds_toArray, List.set_cons_zero, List.set_cons_succ] at hK
      exact hK
    case body2 =>
      rintro ll mm pre x rest W hf ⟨_, rfl, hX⟩
      simp only [List.setIfInBounds_toArray, List.set_cons_zero, List.set_cons_succ]
      have k1 := hX.get A1 (cs := #[.int .i64 0]) (ty := 3) (by simp)
      have q1 := k1.cell 0
      have f1 := k1.frozen 0
      simp only [List.getElem?_toArray, List.getElem?_cons_zero] at q1
      have HX := Lib.hid (Cps.one (L1 := []) hX (by omega) (k1.setCell 0 (.int .i64 1)) ((Turned.refl (fun j => j = A1) W).setCell (p := ⟨A1, 0, none⟩) (.inl rfl) (.int .i64 1)) (fun q hq e => by
        simp only [List.nil_append, List.mem_cons, List.not_mem_nil, or_false] at hq
        subst hq
        simp only at e; omega))
      clear hX k1 hf H8 HY8
      gi_wp2
      exact ⟨KeptBut.cell _ (p := ⟨A1, 0, none⟩) _ rfl, (), ⟨rfl, by simp⟩, HX.out⟩
    intro D1 W11 hD1 hends hK1
    obtain ⟨n1, hmin, hX⟩ : ∃ n1 : Int, (if (us.length : Int) < 1 then (us.length : Int) else 1) = n1 ∧ Cps wb [(A1, #[.int .i64 n1], 3), (H + 1, #[.int .i64 (us.length : Int)], 3)] [D0] W11 := by
      rcases hends with ⟨_, hem, hX⟩ | ⟨_, pre, rest, hf, _, ⟨_, hne⟩, hX⟩
      · refine ⟨0, ?_, hX⟩
        rw [hem]; rfl
      · refine ⟨1, ?_, hX⟩
        rw [hf]
        cases pre with
        | nil => exact absurd rfl hne
        | cons y r => rw [if_neg (by simp; omega)]
    have H11 := Lib.hid (hX.addD hK1)
    have hD11 := (Array.getElem?_eq_some_iff.1 hK1).1
    have hy := HY.out.below H11.out.bx.below
    have hcv1 := str_conv hy.nb
    have hcv2 := str_conv hy.nn
    have hse := str_eq HDb.out.byt (HDb.out.wrE hs.len hs.byt s.n).byt
    clear hX hK1 hends H8 HY8 hy
    go_wp2_with fail
    refine (Read_nil 0 _).mono ?_
    rintro e w12 ⟨rfl, hb⟩
    have H12 := Lib.hid ((H11.out.after hb).alloc (sc nou) 37)
    have hz12 := hb.size
    clear hb H11 hcv1 hcv2 hse
    go_wp2_with (first | ((with_reducible apply wp_store_An nou); (exact ⟨nou_len, nou_len⟩); (rfl); (rfl)))
    refine (Used_nil _).mono ?_
    rintro e w13 ⟨rfl, hsq⟩
    have H13 := Lib.hid (H12.out.after hsq.below)
    have hsb := hsq.blk
    have hsn := hsq.nums
    have hz13 := hsq.below.size
    rw [World.size_alloc] at hz13
    clear hsq H12
    obtain ⟨B2, hB2⟩ : ∃ B2, (w12.alloc (.cells (sc nou) 37)).heap.size = B2 := ⟨_, rfl⟩
    rw [hB2] at hsb ⊢
    go_wp2_with fail
    refine (wpIn_wide (n := 5)).1 (wp_over_f (gf := 42) (lb := #[.pointer (some ⟨B2, 0, none⟩)]) rfl (enters_of Try.func42 (by kernel_rfl) rfl)
      (Values1_gives (us := []) hsb hsn (by simp) (fun _ => False) (fun k hk e => e))
      (fun k hk => hk.elim) (fun _ => rfl)
      (fun pre W => ∃ _x : Unit, True ∧ Cps wb [(w12.heap.size, sc nou, 37), (A1, #[.int .i64 n1], 3), (H + 1, #[.int .i64 (us.length : Int)], 3)] [D1, D0] W)
      (fun c pre W => ∃ _x : Unit, False ∧ Cps wb [] [] W)
      (cps_own wb _ _ _ (by omega) (fun d hd => by simp only [List.mem_cons, List.not_mem_nil, or_false] at hd; omega)) (fun c => cps_own wb _ _ _ (by omega) (fun d hd => by cases hd)) ⟨(), trivial, H13.out⟩
      (fun tm x => tm.setIfInBounds 106 (.int .i64 (x : Int)))
      ?assign3 ?body3 ?done3 (fun _ _ _ _ _ _ _ hx _ => by obtain ⟨_, h, _⟩ := hx; exact h.elim))
    case assign3 =>
      intro ll mm x W1 K hK
      gi_wp2
      simp only [List.setIfInBounds_toArray, List.set_cons_zero, List.set_cons_succ] at hK
      exact hK
    case body3 =>
      rintro ll mm pre x rest W hf _
      simp at hf
    case done3 =>
      rintro D2 W17 hD2 ⟨_, _, hX⟩ hK2
      have HC := Lib.hid (hX.addD hK2)
      have hD := Lib.hid (show D0 < D1 ∧ D1 < D2 ∧ w.heap.size + 1 < D0 by omega)
      have hmod : (P : Int).tmod 32 = ((P % 32 : Nat) : Int) := by rw [Int.tmod_eq_emod_of_nonneg (by omega)]; omega
      clear hX hK2 H13 hsb hsn
      go_wp2_with fail
      have hPe : ((P : Int) % 32 + 1) = ((P % 32 + 1 : Nat) : Int) := by omega
      have hP1 : 1 ≤ P % 32 + 1 := by omega
      have hP2 : P % 32 + 1 ≤ 32 := by omega
      have hP3 : P % 32 + 1 ≠ P := by omega
      rw [hPe]
      clear hPe hmod
      generalize P % 32 + 1 = P' at hP1 hP2 hP3 ⊢
      refine (New_any _ hP1 hP2).mono ?_
      rintro e w14 ⟨S3, rfl, F3, hd3, hF3, hb⟩
      replace HC := Lib.hid (HC.out.after hb)
      have HW3 := Lib.hid hd3
      clear hd3 hF3 hb
      go_wp2_with fail
      refine (New_any _ h0 h1).mono ?_
      rintro e w15 ⟨S4, rfl, F4, hd4, hF4, hb⟩
      replace HC := Lib.hid (HC.out.after hb)
      replace HW3 := Lib.hid (HW3.out.below hb)
      have HE4 := Lib.hid hd4
      have hnw : decide (nw P' = nw P) = false := by
        have : nw P' ≠ nw P := fun e => hP3 (by have := congrArg List.length e; simp [nw] at this; omega)
        simpa using this
      have HNW := Lib.hid hnw
      clear hd4 hF4 hb hnw
      have hy := HY.out.below HC.out.bx.below
      have q0 := hy.hb.cell 0
      have q1 := (HC.out.get (H + 1) (cs := #[.int .i64 (us.length : Int)]) (ty := 3) (by simp)).cell 0
      have q2 := (HC.out.get A1 (cs := #[.int .i64 n1]) (ty := 3) (by simp)).cell 0
      simp only [List.getElem?_toArray, List.getElem?_cons_zero] at q0 q1 q2
      have hsm : decide (wrE b s.n s.x = b) = decide (b = wrE b s.n s.x) := decide_eq_decide.2 ⟨fun e => e.symm, fun e => e.symm⟩
      clear hy
      generalize hsn9 : decide (b = wrE b s.n s.x) = sm at hsm ⊢
      go_wp2_with fail

      refine (is_any (HY.out.below HC.out.bx.below).c (HY.out.below HC.out.bx.below).nb).mono ?_
      rintro e w16 ⟨rfl, hb⟩
      replace HC := Lib.hid (HC.out.after hb)
      replace HW3 := Lib.hid (HW3.out.below hb)
      replace HE4 := Lib.hid (HE4.out.below hb)
      clear hb
      go_wp2_with fail
      clear q0 q1 q2 hmin
      refine (is_any (HY.out.below HC.out.bx.below).d (HY.out.below HC.out.bx.below).nn).mono ?_
      rintro e w17 ⟨rfl, hb⟩
      replace HC := Lib.hid (HC.out.after hb)
      replace HW3 := Lib.hid (HW3.out.below hb)
      replace HE4 := Lib.hid (HE4.out.below hb)
      clear hb
      go_wp2_with fail
      refine (Same_any (HY.out.below HC.out.bx.below).c (HY.out.below HC.out.bx.below).d).mono ?_
      rintro e w18 ⟨rfl, hb⟩
      replace HC := Lib.hid (HC.out.after hb)
      replace HW3 := Lib.hid (HW3.out.below hb)
      replace HE4 := Lib.hid (HE4.out.below hb)
      clear hb
      rw [hsn9]
      go_wp2_with fail
      refine (Same_any (HY.out.below HC.out.bx.below).d (HY.out.below HC.out.bx.below).c).mono ?_
      rintro e w19 ⟨rfl, hb⟩
      replace HC := Lib.hid (HC.out.after hb)
      replace HW3 := Lib.hid (HW3.out.below hb)
      replace HE4 := Lib.hid (HE4.out.below hb)
      clear hb
      rw [hsm]
      go_wp2_with fail
      have hq := (HY.out.below HC.out.bx.below).facts.2.1
      refine (num_any _ _).mono ?_
      rintro e w19 ⟨rfl, rfl⟩
      go_wp2_with (first | ((with_reducible apply wp_load_Amg); (kernel_rfl); (exact ⟨hq, hs.len⟩); (rfl)))
      clear hq
      refine (Write_nil 0 hs.len _).mono ?_
      rintro e w20 ⟨rfl, hb⟩
      replace HC := Lib.hid (HC.out.after hb)
      replace HW3 := Lib.hid (HW3.out.below hb)
      replace HE4 := Lib.hid (HE4.out.below hb)
      clear hb
      go_wp2_with fail
      refine (num_any _ _).mono ?_
      rintro e w20 ⟨rfl, rfl⟩
      go_wp2_with fail
      refine (Sectors_nil _).mono ?_
      rintro e w20 ⟨rfl, rfl⟩
      go_wp2_with fail
      refine (Bytes_nil _).mono ?_
      rintro e w21 ⟨rfl, hb⟩
      replace HC := Lib.hid (HC.out.after hb)
      replace HW3 := Lib.hid (HW3.out.below hb)
      replace HE4 := Lib.hid (HE4.out.below hb)
      clear hb
      go_wp2_with fail
      refine (Copy_nil _).mono ?_
      rintro e w21 ⟨rfl, rfl⟩
      go_wp2_with fail
      refine (Same_nils _).mono ?_
      rintro e w21 ⟨rfl, rfl⟩
      go_wp2_with fail
      refine (Same_left (HY.out.below HC.out.bx.below).c).mono ?_
      rintro e w21 ⟨rfl, rfl⟩
      go_wp2_with fail
      refine (Same_right (HY.out.below HC.out.bx.below).c).mono ?_
      rintro e w21 ⟨rfl, rfl⟩
      go_wp2_with fail
      refine (Same_any HW3.out HE4.out).mono ?_
      rintro e w22 ⟨rfl, hb⟩
      replace HC := Lib.hid (HC.out.after hb)
      replace HW3 := Lib.hid (HW3.out.below hb)
      replace HE4 := Lib.hid (HE4.out.below hb)
      clear hb
      rw [HNW.out]
      go_wp2_with fail
      refine (works_any _).mono ?_
      rintro e w23 ⟨rfl, hb⟩
      replace HC := Lib.hid (HC.out.after hb)
      clear hb HW3 HE4 HNW
      have hr := (HY.out.below HC.out.bx.below).res
      have fr := hr.frozen 0
      have hrc := hr.cell 0
      simp only [List.getElem?_toArray, List.getElem?_cons_zero] at hrc
      obtain ⟨f1, f2, f3, f4, f5⟩ := fin_copies HC.out HWb.out hr hD.out
      have HF1 := Lib.hid f1
      have HF2 := Lib.hid f2
      have HF3 := Lib.hid f3
      have HF4 := Lib.hid f4
      have HF5 := Lib.hid f5
      clear f1 f2 f3 f4 f5 hr HC
      go_wp2
      refine ⟨by simp, .inl ⟨_, _, rfl, run_takeDeferred HF1.out, ?_⟩⟩
      refine ⟨by simp, .inl ⟨_, _, rfl, run_takeDeferred HF2.out, ?_⟩⟩
      refine ⟨by simp, .inl ⟨_, _, rfl, run_takeDeferred HF3.out, ?_⟩⟩
      exact ⟨.bool true, by simp [results, Try.results6, go_sem, HF4.out], rfl, HF5.out⟩
theorem DiskCopies_walk (n : Int) (va : Value) (xs : List Ac) (s : Ac) (w : World) (ha : ActsIn w va xs) (hs : s.Ok) : Calls Try.prog 6 #[.int .i64 n, va, .agg (acL s).toArray] w fun e w' => e = .returned (.bool true) ∧ Below w.heap.size w w' := by
  by_cases hin : (1 ≤ n ∧ n ≤ 32) ∧ xs.length ≤ 40
  · obtain ⟨P, rfl⟩ : ∃ P : Nat, n = (P : Int) := ⟨n.toNat, by omega⟩
    exact DiskCopies_in (by omega) (by omega) ha hin.2 hs
  · exact DiskCopies_out ha hin
end Go.Proofs.Ytbinpapgfddafaa

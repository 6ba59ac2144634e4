/-
  Layer 6: the walk of TlbCopies. Written by gen_copies.py out of XLaws6.part.
-/
import Derived.Test.YtafkjokbidkkhaaLaws1
namespace Go.Proofs.Ytafkjokbidkkhaa
open Go.RowKit Go.Shelf
set_option maxHeartbeats 40000000
set_option linter.unusedVariables false
set_option linter.unusedSimpArgs false
attribute [local go_sem] Oper.semAt_some

/-- Blocks known whole, and blocks for deferred calls, shut. -/
structure Cps (w : World) (L : List Bx) (Ds : List Nat) (W : World) : Prop where
  bx : Bxs w L W
  ds : ∀ d ∈ Ds, W.heap[d]? = some (.deferred (some []))
section
variable {w W W' : World} {L : List Bx} {Ds : List Nat}
theorem Cps.after (h : Cps w L Ds W) (hb : Below W.heap.size W W') : Cps w L Ds W' :=
  ⟨h.bx.after hb, fun d hd => (hb.block _ (Array.getElem?_eq_some_iff.1 (h.ds d hd)).1).trans (h.ds d hd)⟩
theorem Cps.drew (h : Cps w L Ds W) : Cps w L Ds W.drew := h.after (Below.refl _ _).drew
theorem Cps.alloc (h : Cps w L Ds W) (cs : Array Value) (ty : TypeId) : Cps w ((W.heap.size, cs, ty) :: L) Ds (W.alloc (.cells cs ty)) :=
  ⟨h.bx.alloc cs ty, fun d hd => (Below.heap_alloc _ _ _ (Array.getElem?_eq_some_iff.1 (h.ds d hd)).1).trans (h.ds d hd)⟩
theorem Cps.add (h : Cps w L Ds W) {b : Nat} {cs : Array Value} {ty : TypeId} (hb : Blk W b cs ty) : Cps w ((b, cs, ty) :: L) Ds W :=
  ⟨⟨h.bx.below, fun p hp => by
    rcases List.mem_cons.1 hp with rfl | hp
    · exact hb
    · exact h.bx.at_ p hp⟩, h.ds⟩
theorem Cps.addD (h : Cps w L Ds W) {d : Nat} (hd : W.heap[d]? = some (.deferred (some []))) : Cps w L (d :: Ds) W :=
  ⟨h.bx, fun d' hd' => by
    rcases List.mem_cons.1 hd' with rfl | hd'
    · exact hd
    · exact h.ds d' hd'⟩
theorem Cps.get (h : Cps w L Ds W) (b : Nat) {cs : Array Value} {ty : TypeId} (hm : (b, cs, ty) ∈ L) : Blk W b cs ty := h.bx.at_ _ hm
theorem Cps.sub {L' : List Bx} (h : Cps w L Ds W) (hs : ∀ p ∈ L', p ∈ L) : Cps w L' Ds W := ⟨⟨h.bx.below, fun p hp => h.bx.at_ p (hs p hp)⟩, h.ds⟩
/-- One block turns: all the others stay. -/
theorem Cps.one {L1 L2 : List Bx} {b : Nat} {cs cs' : Array Value} {ty : TypeId} (h : Cps w (L1 ++ (b, cs, ty) :: L2) Ds W) (hlo : w.heap.size ≤ b) (hb : Blk W' b cs' ty) (ht : Turned (fun j => j = b) W W') (hn : ∀ p ∈ L1 ++ L2, p.1 ≠ b) : Cps w (L1 ++ (b, cs', ty) :: L2) Ds W' := by
  refine ⟨⟨h.bx.below.trans (ht.below h.bx.below.size (fun k e => by omega)), fun p hp => ?_⟩, fun d hd => ?_⟩
  · rcases List.mem_append.1 hp with h1 | h1
    · exact (h.bx.at_ p (List.mem_append_left _ h1)).turned ht (hn p (List.mem_append_left _ h1))
    · rcases List.mem_cons.1 h1 with rfl | h1
      · exact hb
      · exact (h.bx.at_ p (List.mem_append_right _ (List.mem_cons_of_mem _ h1))).turned ht (hn p (List.mem_append_right _ h1))
  · have hbk := h.bx.at_ (b, cs, ty) (by simp)
    exact ht.keep (h.ds d hd) (fun e => by
      have h2 := h.ds d hd
      rw [e, hbk] at h2; cases h2)
theorem cps_own {β γ : Type} (w : World) (f : β → γ → Prop) (L : β → γ → List Bx) (Ds : List Nat) {B : Nat} (hB : w.heap.size ≤ B) (hD : ∀ d ∈ Ds, d < B) : OwnFrom B (fun (s : β) W => ∃ x, f s x ∧ Cps w (L s x) Ds W) := by
  intro s W W' row hs hg hr
  obtain ⟨x, hf, hc⟩ := hs
  obtain ⟨x', hf', hb⟩ := bxs_own w (fun (_ : Unit) (_ : Unit) => True) (fun _ _ => L s x) hB () W W' row ⟨(), trivial, hc.bx⟩ hg hr
  exact ⟨x, hf, hb, fun d hd => (hg.block d (Array.getElem?_eq_some_iff.1 (hc.ds d hd)).1 (fun e => by
    have := (hr _ e.symm).1
    have := hD d hd
    omega)).trans (hc.ds d hd)⟩
end
theorem es_st (t : Tl) {i : Nat} (hi : i < 4) (e : Ent) : ((es t).toArray.toList.take (i * 4) ++ (cE e ++ (es t).toArray.toList.drop (i * 4 + (cE e).length))).toArray = (es (t.st i e)).toArray := by
  rcases lt4 hi with rfl | rfl | rfl | rfl <;> rfl
theorem had_set {w W : World} {L : List Bx} {b : Nat} {hT : Tl} (h : Cps w ((b, (es hT).toArray, 28) :: L) [] W) {x : Nat} (hx : x < 4) (e : Ent) (hlo : w.heap.size ≤ b) (hn : ∀ p ∈ L, p.1 ≠ b) :
    Cps w ((b, (es (hT.st x e)).toArray, 28) :: L) [] (((((W.setCell ⟨b, x * 4, none⟩ (.bool e.th)).setCell ⟨b, x * 4 + 1, none⟩ (.int .u32 e.pg)).setCell ⟨b, x * 4 + 2, none⟩ (.int .u32 e.fr)).setCell ⟨b, x * 4 + 3, none⟩ (.bool e.wr))) ∧
    Turned (fun k => k = b) W (((((W.setCell ⟨b, x * 4, none⟩ (.bool e.th)).setCell ⟨b, x * 4 + 1, none⟩ (.int .u32 e.pg)).setCell ⟨b, x * 4 + 2, none⟩ (.int .u32 e.fr)).setCell ⟨b, x * 4 + 3, none⟩ (.bool e.wr))) := by
  have hb := h.get b (cs := (es hT).toArray) (ty := 28) (by simp)
  have hs := Blk.setCells (cE e) (x * 4) hb (by simp [es_len, cE]; omega)
  rw [es_st hT hx] at hs
  have ht := turned_setCells b (cE e) (x * 4) W
  exact ⟨Cps.one (L1 := []) h hlo hs ht (fun p hp => hn p hp), ht⟩
theorem had_all {t hT : Tl} (hok : Ok t) (h : ∀ i, i < 4 → hT.g i = if i ∈ wks t 4 then t.g i else E0) : es hT = es t := by
  have hg : ∀ i, i < 4 → hT.g i = t.g i := fun i hi => by
    rw [h i hi]
    cases ht : (t.g i).th with
    | true => rw [if_pos (wks_mem.2 ⟨hi, ht⟩)]
    | false =>
      rw [if_neg (fun e => by have := (wks_mem.1 e).2; rw [ht] at this; cases this)]
      exact (hok.zero i hi ht).symm
  have e0 : hT.s0 = t.s0 := hg 0 (by omega)
  have e1 : hT.s1 = t.s1 := hg 1 (by omega)
  have e2 : hT.s2 = t.s2 := hg 2 (by omega)
  have e3 : hT.s3 = t.s3 := hg 3 (by omega)
  unfold es
  rw [e0, e1, e2, e3]
/-- The result is stored, the three blocks for deferred calls are shut. -/
theorem fin_copies {w W : World} {LF : List Bx} {D0 D1 D2 : Nat} (h : Cps w ((w.heap.size + 1, #[.bool false], 4) :: LF) [D2, D1, D0] W) (hD : D0 < D1 ∧ D1 < D2 ∧ w.heap.size + 1 < D0) (hF : ∀ q ∈ LF, q.1 ≠ w.heap.size + 1) :
    Bks LF (W.setCell ⟨w.heap.size + 1, 0, none⟩ (.bool true)) ∧
    (W.setCell ⟨w.heap.size + 1, 0, none⟩ (.bool true)).heap[D2]? = some (.deferred (some [])) ∧
    ((W.setCell ⟨w.heap.size + 1, 0, none⟩ (.bool true)).putObj D2 (.deferred none)).heap[D1]? = some (.deferred (some [])) ∧
    (((W.setCell ⟨w.heap.size + 1, 0, none⟩ (.bool true)).putObj D2 (.deferred none)).putObj D1 (.deferred none)).heap[D0]? = some (.deferred (some [])) ∧
    ((((W.setCell ⟨w.heap.size + 1, 0, none⟩ (.bool true)).putObj D2 (.deferred none)).putObj D1 (.deferred none)).putObj D0 (.deferred none)).cell? ⟨w.heap.size + 1, 0, none⟩ = some (.bool true) ∧
    Below w.heap.size w ((((W.setCell ⟨w.heap.size + 1, 0, none⟩ (.bool true)).putObj D2 (.deferred none)).putObj D1 (.deferred none)).putObj D0 (.deferred none)) := by
  obtain ⟨h1, h2, h3⟩ := hD
  have kr := h.get (w.heap.size + 1) (cs := #[.bool false]) (ty := 4) (by simp)
  have d2 : (W.setCell ⟨w.heap.size + 1, 0, none⟩ (.bool true)).heap[D2]? = some (.deferred (some [])) := (Below.heap_setCell _ _ _ _ (by show D2 ≠ w.heap.size + 1; omega)).trans (h.ds D2 (by simp))
  have d1 : ((W.setCell ⟨w.heap.size + 1, 0, none⟩ (.bool true)).putObj D2 (.deferred none)).heap[D1]? = some (.deferred (some [])) := (World.putObj_heap_other (by omega)).trans ((Below.heap_setCell _ _ _ _ (by show D1 ≠ w.heap.size + 1; omega)).trans (h.ds D1 (by simp)))
  have d0 : (((W.setCell ⟨w.heap.size + 1, 0, none⟩ (.bool true)).putObj D2 (.deferred none)).putObj D1 (.deferred none)).heap[D0]? = some (.deferred (some [])) := (World.putObj_heap_other (by omega)).trans ((World.putObj_heap_other (by omega)).trans ((Below.heap_setCell _ _ _ _ (by show D0 ≠ w.heap.size + 1; omega)).trans (h.ds D0 (by simp))))
  refine ⟨fun q hq => ?_, d2, d1, d0, ?_, ?_⟩
  · exact Blk.off (h.bx.at_ q (List.mem_cons_of_mem _ hq)) (hF q hq) _
  · rw [cell_putObj (show w.heap.size + 1 ≠ D0 by omega), cell_putObj (show w.heap.size + 1 ≠ D1 by omega), cell_putObj (show w.heap.size + 1 ≠ D2 by omega)]
    exact (kr.setCell 0 (.bool true)).cell 0
  · have b0 : Below w.heap.size w (W.setCell ⟨w.heap.size + 1, 0, none⟩ (.bool true)) := h.bx.below.setCell (p := ⟨w.heap.size + 1, 0, none⟩) (by simp) _
    have b1 := b0.trans (belowK_b (w := w) (Nat.le_refl _) _ D2 _ (.deferred none) (by omega) d2 rfl rfl)
    have b2 := b1.trans (belowK_b (w := w) (Nat.le_refl _) _ D1 _ (.deferred none) (by omega) d1 rfl rfl)
    exact b2.trans (belowK_b (w := w) (Nat.le_refl _) _ D0 _ (.deferred none) (by omega) d0 rfl rfl)
abbrev aV (s : Act5) : Array Value := #[.int .i64 s.k, .int .u32 s.p, .int .u32 s.f, .bool s.wr, .bool s.th]
set_option maxRecDepth 100000 in
theorem TlbCopies_walk (v : Value) (xs : List Act5) (s : Act5) (w : World) (h : ActsIn w v xs) : Calls Try.prog 6 #[v, .agg #[.int .i64 s.k, .int .u32 s.p, .int .u32 s.f, .bool s.wr, .bool s.th]] w fun e w' => e = .returned (.bool true) ∧ Below w.heap.size w w' := by
  obtain ⟨o, c, rfl, hc, hm⟩ := h.form
  unfold maxLen at hm
  have H0 : Cps w [(w.heap.size + 1, #[.bool false], 4), (w.heap.size, aV s, 40)] [] ((w.alloc (.cells (aV s) 40)).alloc (.cells #[.bool false] 4)) := by
    have := (Cps.alloc (Ds := []) (Cps.alloc (⟨Bxs.nil w, fun d hd => by cases hd⟩ : Cps w [] [] w) (aV s) 40) #[.bool false] 4)
    rwa [World.size_alloc] at this
  have HI := Lib.hid (h.below H0.bx.below)
  have H0 := Lib.hid H0
  clear h
  by_cases hlen : (60 : Int) < xs.length
  · go_enter Try.func6, Try.ntmps6
    go_wp2_with fail
    refine (works_any _).mono ?_
    rintro e w1 ⟨rfl, hb⟩
    have H1 := Lib.hid (H0.out.after hb)
    have k1 := H1.out.get (w.heap.size + 1) (cs := #[.bool false]) (ty := 4) (by simp)
    have q1 := k1.cell 0
    have f1 := k1.frozen 0
    simp only [List.getElem?_toArray, List.getElem?_cons_zero] at q1
    clear hb H0
    go_wp2
    refine bodyPost_ret (v := .bool true) (by simp [results, Try.results6, go_sem, (k1.setCell 0 (.bool true)).cell 0]) rfl ⟨rfl, H1.out.bx.below.setCell (p := ⟨w.heap.size + 1, 0, none⟩) (by simp) _⟩
  · refine (callsIn_wide (n := 5)).1 ?_
    refine callsIn_of_wp_marks Try.func6 rfl trivial ?_ rfl
    refine wpIn_wide.2 ?_
    simp only [Try.ntmps6, List.size_toArray, List.length_cons, List.length_nil, Nat.reduceAdd, Nat.reduceSub, Array.replicate_succ, Array.replicate_zero, List.push_toArray, List.append_toArray, List.nil_append, List.cons_append]
    go_wp2_with fail
    refine (played_any _ _ xs HI.out).mono ?_
    rintro e w1 ⟨S, rfl, hO⟩
    have hok := ok_plT xs
    generalize plT xs = t at hO hok ⊢
    have hSlo := hO.lo
    have hShi := hO.at_.lt
    simp only [World.size_alloc] at hSlo
    have H1 := ((H0.out.after hO.below).add hO.at_).alloc (rc t) 30
    have H1 := Lib.hid H1
    clear hO H0 HI
    go_wp2_with ((with_reducible apply wp_store_Rn t); (rfl); (rfl); (rfl))
    refine (Copy_any (H1.out.get S (cs := pc t) (ty := 62) (by simp))).mono ?_
    rintro e w2 ⟨rfl, hC, hb⟩
    simp only [World.size_alloc] at hC ⊢
    obtain ⟨C, hCd⟩ : ∃ C, w1.heap.size + 1 = C := ⟨_, rfl⟩
    rw [hCd] at hC ⊢
    have H2 := Lib.hid ((H1.out.after hb).add hC)
    have hz2 := hC.lt
    clear hb hC H1
    obtain ⟨b6, hb6⟩ : ∃ b6, w1.heap.size = b6 := ⟨_, rfl⟩
    rw [hb6] at H2 hCd hShi ⊢
    go_wp2_with fail
    refine (Walked_any (H2.out.get S (cs := pc t) (ty := 62) (by simp))).mono ?_
    rintro e w3 ⟨B, g, cc, rfl, hB, ⟨tl, hrow⟩, hBl, hgl, hc4, hb⟩
    have H3 := Lib.hid (((H2.out.after hb).add hB).add (show Blk w3 g (es t ++ tl).toArray 27 from hrow))
    have hBh := hB.lt
    have hgh : g < w3.heap.size := (Array.getElem?_eq_some_iff.1 hrow).1
    clear hb hB hrow H2
    go_wp2_with fail
    refine (Same_any (H3.out.get S (cs := pc t) (ty := 62) (by simp)) (H3.out.get C (cs := pc t) (ty := 62) (by simp))).mono ?_
    rintro e w4 ⟨rfl, hb⟩
    rw [Tl.eqb_self]
    have H4 := Lib.hid (H3.out.after hb)
    have hz4 := hb.size
    clear hb H3
    have ka := H4.out.get w.heap.size (cs := aV s) (ty := 40) (by simp)
    have a0 := ka.cell 0
    have a1 := ka.cell 1
    have a2 := ka.cell 2
    have a3 := ka.cell 3
    have a4 := ka.cell 4
    simp only [aV, List.getElem?_toArray, List.getElem?_cons_zero, List.getElem?_cons_succ] at a0 a1 a2 a3 a4
    have hR6 : Rf w4 b6 t := H4.out.get b6 (cs := rc t) (ty := 30) (by simp)
    go_wp2_with ((with_reducible apply wp_load_R); (exact hR6); (rfl))
    refine (act_any (H4.out.get S (cs := pc t) (ty := 62) (by simp)) hok s.k s.p s.f s.wr s.th).mono ?_
    rintro e w5 ⟨rfl, ha, ht⟩
    generalize actT t s.k s.p s.f s.wr = t2 at ha ⊢
    have h5 : Cps w [(g, (es t ++ tl).toArray, 27), (B, #[.slice (some ⟨g, 0, none⟩) 4 cc], 52), (C, pc t, 62), (b6, rc t, 30), (S, pc t2, 62), (w.heap.size + 1, #[.bool false], 4), (w.heap.size, aV s, 40)] [] w5 :=
      Cps.one (L1 := [(g, (es t ++ tl).toArray, 27), (B, #[.slice (some ⟨g, 0, none⟩) 4 cc], 52), (C, pc t, 62), (b6, rc t, 30)]) (L2 := [(w.heap.size + 1, #[.bool false], 4), (w.heap.size, aV s, 40)]) H4.out (by omega) ha ht (fun q hq e => by
        simp only [List.cons_append, List.nil_append, List.mem_cons, List.not_mem_nil, or_false] at hq
        rcases hq with rfl | rfl | rfl | rfl | rfl | rfl <;> simp only at e <;> omega)
    have hz5 := ht.size
    have H6 := (h5.alloc (rc t2) 30).alloc (es T0).toArray 28
    rw [World.size_alloc] at H6
    have H6 := Lib.hid H6
    clear h5 ha ht H4 ka a0 a1 a2 a3 a4 hR6
    go_wp2_with ((with_reducible apply wp_store_Rn t2); (rfl); (rfl); (rfl))
    have hBk : ∀ W : World, Cps w [(w5.heap.size + 1, (es T0).toArray, 28), (w5.heap.size, rc t2, 30), (g, (es t ++ tl).toArray, 27), (B, #[.slice (some ⟨g, 0, none⟩) 4 cc], 52), (C, pc t, 62), (b6, rc t, 30), (S, pc t2, 62), (w.heap.size + 1, #[.bool false], 4), (w.heap.size, aV s, 40)] [] W → Blk W B #[.slice (some ⟨g, 0, none⟩) 4 cc] 52 ∧ Row4 W g t := fun W h => ⟨h.get B (by simp), tl, h.get g (cs := (es t ++ tl).toArray) (ty := 27) (by simp)⟩
    have hB6 := (hBk _ H6.out).1
    have hr6 := (hBk _ H6.out).2
    have hz6 := (H6.out.get (w5.heap.size + 1) (cs := (es T0).toArray) (ty := 28) (by simp)).lt
    show (Code.rangeFunc _ _ _ _).wp Try.prog _ _ ((w5.alloc (.cells (rc t2) 30)).alloc (.cells (es T0).toArray 28))
    generalize (w5.alloc (.cells (rc t2) 30)).alloc (.cells (es T0).toArray 28) = W6 at H6 hB6 hr6 hz6 ⊢
    obtain ⟨b10, hb10⟩ : ∃ b10, w5.heap.size = b10 := ⟨_, rfl⟩
    rw [hb10] at H6 hz6 hz5 ⊢
    clear hBk
    refine (wpIn_wide (n := 5)).1 (wp_over_a (gf := 28) (lb := #[.pointer (some ⟨B, 0, none⟩)]) rfl (enters_of Try.func28 (by kernel_rfl) rfl)
      (Walked1_gives hB6 hr6 (fun k => k = b10 + 1) (by omega))
      (fun k hk => by rw [hk]; exact hz6) (fun _ => rfl)
      (fun pre W => ∃ hT : Tl, (∀ i, i < 4 → hT.g i = if i ∈ pre then t.g i else E0) ∧ Cps w [(b10 + 1, (es hT).toArray, 28), (b10, rc t2, 30), (g, (es t ++ tl).toArray, 27), (B, #[.slice (some ⟨g, 0, none⟩) 4 cc], 52), (C, pc t, 62), (b6, rc t, 30), (S, pc t2, 62), (w.heap.size + 1, #[.bool false], 4), (w.heap.size, aV s, 40)] [] W)
      (fun c pre W => ∃ _x : Unit, False ∧ Cps w [] [] W)
      (cps_own w _ _ _ (by omega) (fun d hd => by cases hd)) (fun c => cps_own w _ _ _ (by omega) (fun d hd => by cases hd)) ⟨T0, fun i _ => by rw [T0_g]; simp, H6.out⟩
      (fun x => .cells #[.bool (t.g x).th, .int .u32 (t.g x).pg, .int .u32 (t.g x).fr, .bool (t.g x).wr] 27)
      (fun tm x b => (((tm.setIfInBounds 51 (.int .i64 (x : Int))).setIfInBounds 52 (.agg #[.bool (t.g x).th, .int .u32 (t.g x).pg, .int .u32 (t.g x).fr, .bool (t.g x).wr])).setIfInBounds 13 (.int .i64 (x : Int))).setIfInBounds 14 (.pointer (some ⟨b, 0, none⟩)))
      ?assign ?body ?done (fun _ _ _ _ _ _ _ hx _ => by obtain ⟨_, h, _⟩ := hx; exact h.elim))
    case assign =>
      intro ll mm x W1 K hK
      gi_wp2
      simp only [List.setIfInBounds_toArray, List.set_cons_zero, List.set_cons_succ] at hK
      exact hK
    case body =>
      rintro ll mm pre x rest W b hf ⟨hT, hg, hX⟩ hob hb2 hbl
      obtain ⟨hx4, hth, hlt⟩ := wks_next hf
      simp only [List.setIfInBounds_toArray, List.set_cons_zero, List.set_cons_succ]
      have kh := hX.get (b10 + 1) (cs := (es hT).toArray) (ty := 28) (by simp)
      have hrn := kh.range (x * 4) (cE (hT.g x)) (es_part hT hx4)
      have p0 := hrn 0 _ rfl
      have p1 := hrn 1 _ rfl
      have p2 := hrn 2 _ rfl
      have p3 := hrn 3 _ rfl
      have f0 := kh.frozen (x * 4)
      have f1 := kh.frozen (x * 4 + 1)
      have f2 := kh.frozen (x * 4 + 2)
      have f3 := kh.frozen (x * 4 + 3)
      have hbk : Blk W b #[.bool (t.g x).th, .int .u32 (t.g x).pg, .int .u32 (t.g x).fr, .bool (t.g x).wr] 27 := hob
      have r0 := hbk.cell 0
      have r1 := hbk.cell 1
      have r2 := hbk.cell 2
      have r3 := hbk.cell 3
      simp only [Nat.add_zero] at p0
      simp only [List.getElem?_toArray, List.getElem?_cons_zero, List.getElem?_cons_succ] at r0 r1 r2 r3
      have hx0 : ¬ (x : Int) < 0 := by omega
      have hx3 : ¬ (x : Int) > 3 := by omega
      have hx44 : (x : Int) < 4 := by omega
      have hst := had_set hX hx4 (t.g x) (by omega) (fun q hq e => by
        simp only [List.mem_cons, List.not_mem_nil, or_false] at hq
        rcases hq with rfl | rfl | rfl | rfl | rfl | rfl | rfl | rfl <;> simp only at e <;> omega)
      have HST := Lib.hid hst
      have HG := Lib.hid hg
      clear hX hg hf kh hrn hbk hob hst hth H6 hB6 hr6
      gi_wp2
      obtain ⟨hc1, ht1⟩ := HST.out
      refine ⟨KeptBut.ofTurned ht1, hT.st x (t.g x), fun i hi => ?_, hc1⟩
      rw [Tl.g_st _ hx4 hi, HG.out i hi]
      by_cases e : i = x
      · subst e; simp
      · rw [if_neg e]; simp [e]
    case done =>
      rintro D0 W9 hD0 ⟨hT, hg, hX⟩ hK
      have he : es hT = es t := had_all hok hg
      rw [he] at hX
      have H8 := Lib.hid ((hX.addD hK).alloc #[.int .i64 0] 3)
      have hD9 := (Array.getElem?_eq_some_iff.1 hK).1
      clear hX hK hg H6 hB6 hr6 he
      go_wp2_with fail
      have hB8 := H8.out.get B (cs := #[.slice (some ⟨g, 0, none⟩) 4 cc]) (ty := 52) (by simp)
      have hr8 : Row4 (W9.alloc (.cells #[.int .i64 0] 3)) g t := ⟨tl, H8.out.get g (cs := (es t ++ tl).toArray) (ty := 27) (by simp)⟩
      have hz8 := (H8.out.get W9.heap.size (cs := #[.int .i64 0]) (ty := 3) (by simp)).lt
      generalize W9.alloc (.cells #[.int .i64 0] 3) = W8 at H8 hB8 hr8 hz8 ⊢
      obtain ⟨b15, hb15⟩ : ∃ b15, W9.heap.size = b15 := ⟨_, rfl⟩
      rw [hb15] at H8 hz8 hD9 ⊢
      have hz69 : W6.heap.size ≤ b15 := by omega
      refine (wpIn_wide (n := 5)).1 (wp_over_b (id := 2) (gf := 28) (lb := #[.pointer (some ⟨B, 0, none⟩)]) rfl (enters_of Try.func28 (by kernel_rfl) rfl)
        (Walked1_gives hB8 hr8 (fun k => k = b15) (by omega))
        (fun k hk => by rw [hk]; exact hz8) (fun _ => rfl)
        (fun pre W => ∃ _x : Unit, pre = [] ∧ Cps w [(b15, #[.int .i64 0], 3), (b10 + 1, (es t).toArray, 28), (b10, rc t2, 30), (g, (es t ++ tl).toArray, 27), (B, #[.slice (some ⟨g, 0, none⟩) 4 cc], 52), (C, pc t, 62), (b6, rc t, 30), (S, pc t2, 62), (w.heap.size + 1, #[.bool false], 4), (w.heap.size, aV s, 40)] [D0] W)
        (fun c pre W => ∃ _x : Unit, (c = .exit 2 ∧ pre ≠ []) ∧ Cps w [(b15, #[.int .i64 1], 3), (b10 + 1, (es t).toArray, 28), (b10, rc t2, 30), (g, (es t ++ tl).toArray, 27), (B, #[.slice (some ⟨g, 0, none⟩) 4 cc], 52), (C, pc t, 62), (b6, rc t, 30), (S, pc t2, 62), (w.heap.size + 1, #[.bool false], 4), (w.heap.size, aV s, 40)] [D0] W)
        (cps_own w _ _ _ (by omega) (fun d hd => by simp only [List.mem_cons, List.not_mem_nil, or_false] at hd; omega)) (fun c => cps_own w _ _ _ (by omega) (fun d hd => by simp only [List.mem_cons, List.not_mem_nil, or_false] at hd; omega)) ⟨(), rfl, H8.out⟩
        (fun tm x => (tm.setIfInBounds 63 (.int .i64 (x : Int))).setIfInBounds 64 (.agg #[.bool (t.g x).th, .int .u32 (t.g x).pg, .int .u32 (t.g x).fr, .bool (t.g x).wr]))
        ?assign2 ?body2 (fun _ _ h => h) (fun c pre W ⟨_, h, _⟩ => h.1) ?rest2)
      case assign2 =>
        intro ll mm x W1 K hK
        gi_wp2
        simp only [List.setIfInBounds_toArray, List.set_cons_zero, List.set_cons_succ] at hK
        exact hK
      case body2 =>
        rintro ll mm pre x rest W hf ⟨_, rfl, hX⟩
        simp only [List.setIfInBounds_toArray, List.set_cons_zero, List.set_cons_succ]
        have k1 := hX.get b15 (cs := #[.int .i64 0]) (ty := 3) (by simp)
        have q1 := k1.cell 0
        have f1 := k1.frozen 0
        simp only [List.getElem?_toArray, List.getElem?_cons_zero] at q1
        have HX := Lib.hid (Cps.one (L1 := []) hX (by omega) (k1.setCell 0 (.int .i64 1)) ((Turned.refl (fun j => j = b15) W).setCell (p := ⟨b15, 0, none⟩) (.inl rfl) (.int .i64 1)) (fun q hq e => by
          simp only [List.nil_append, List.mem_cons, List.not_mem_nil, or_false] at hq
          rcases hq with rfl | rfl | rfl | rfl | rfl | rfl | rfl | rfl | rfl <;> simp only at e <;> omega))
        clear hX k1 hf H8 hB8 hr8
        gi_wp2
        exact ⟨KeptBut.cell _ (p := ⟨b15, 0, none⟩) _ rfl, (), ⟨rfl, by simp⟩, HX.out⟩
      intro D1 W11 hD1 hends hK1
      obtain ⟨n1, hmin, hX⟩ : ∃ n1 : Int, (if (t.many : Int) < 1 then (t.many : Int) else 1) = n1 ∧ Cps w [(b15, #[.int .i64 n1], 3), (b10 + 1, (es t).toArray, 28), (b10, rc t2, 30), (g, (es t ++ tl).toArray, 27), (B, #[.slice (some ⟨g, 0, none⟩) 4 cc], 52), (C, pc t, 62), (b6, rc t, 30), (S, pc t2, 62), (w.heap.size + 1, #[.bool false], 4), (w.heap.size, aV s, 40)] [D0] W11 := by
        rcases hends with ⟨_, hem, hX⟩ | ⟨_, pre, rest, hf, _, ⟨_, hne⟩, hX⟩
        · refine ⟨0, ?_, hX⟩
          rw [← wks_len, hem]; rfl
        · refine ⟨1, ?_, hX⟩
          rw [← wks_len, hf]
          cases pre with
          | nil => exact absurd rfl hne
          | cons y r => rw [if_neg (by simp; omega)]
      have H11 := Lib.hid (hX.addD hK1)
      have hD11 := (Array.getElem?_eq_some_iff.1 hK1).1
      clear hX hK1 hends H8 hB8 hr8
      go_wp2_with fail
      refine (Fill_nil ⟨false, 1, 0, false⟩ _).mono ?_
      rintro e w12 ⟨rfl, hb⟩
      have H12 := Lib.hid (H11.out.after hb)
      have hz12 := hb.size
      clear hb H11
      go_wp2_with fail
      refine (Flush_nil _).mono ?_
      rintro e w13 ⟨rfl, rfl⟩
      go_wp2_with fail
      refine (Look_nil 1 _).mono ?_
      rintro e w13 ⟨rfl, hb⟩
      have hz13 := hb.size
      have H13 := Lib.hid ((H12.out.after hb).alloc #[.bool false, .int .u32 0, .int .u32 0, .bool false] 27)
      clear hb H12
      go_wp2_with fail
      refine (Walked_nil _).mono ?_
      rintro e w14 ⟨rfl, rfl⟩
      have h14 := H13.out.alloc #[.slice none 0 0] 52
      rw [World.size_alloc] at h14
      have hBn := h14.get (w13.heap.size + 1) (cs := #[.slice none 0 0]) (ty := 52) (by simp)
      have hz14 := hBn.lt
      clear H13
      go_wp2_with fail
      generalize (w13.alloc (.cells #[.bool false, .int .u32 0, .int .u32 0, .bool false] 27)).alloc (.cells #[.slice none 0 0] 52) = W15 at h14 hBn hz14 ⊢
      obtain ⟨b18, hb18⟩ : ∃ b18, w13.heap.size = b18 := ⟨_, rfl⟩
      try simp only [World.size_alloc]
      rw [hb18] at h14 hBn hz14 hz13 ⊢
      have H14 := Lib.hid h14
      clear h14
      have hz18 : D1 < b18 := by omega
      refine (wpIn_wide (n := 5)).1 (wp_over_f (gf := 28) (lb := #[.pointer (some ⟨b18 + 1, 0, none⟩)]) rfl (enters_of Try.func28 (by kernel_rfl) rfl)
        (Walked1_nil _ _ hBn (fun _ => False) T0)
        (fun k hk => hk.elim) (fun _ => rfl)
        (fun pre W => ∃ _x : Unit, True ∧ Cps w ((b18 + 1, #[.slice none 0 0], 52) :: (b18, #[.bool false, .int .u32 0, .int .u32 0, .bool false], 27) :: [(b15, #[.int .i64 n1], 3), (b10 + 1, (es t).toArray, 28), (b10, rc t2, 30), (g, (es t ++ tl).toArray, 27), (B, #[.slice (some ⟨g, 0, none⟩) 4 cc], 52), (C, pc t, 62), (b6, rc t, 30), (S, pc t2, 62), (w.heap.size + 1, #[.bool false], 4), (w.heap.size, aV s, 40)]) [D1, D0] W)
        (fun c pre W => ∃ _x : Unit, False ∧ Cps w [] [] W)
        (cps_own w _ _ _ (by omega) (fun d hd => by simp only [List.mem_cons, List.not_mem_nil, or_false] at hd; omega)) (fun c => cps_own w _ _ _ (by omega) (fun d hd => by cases hd)) ⟨(), trivial, H14.out⟩
        (fun tm x => (tm.setIfInBounds 80 (.int .i64 (x : Int))).setIfInBounds 81 (.agg #[.bool (T0.g x).th, .int .u32 (T0.g x).pg, .int .u32 (T0.g x).fr, .bool (T0.g x).wr]))
        ?assign3 ?body3 ?done3 (fun _ _ _ _ _ _ _ hx _ => by obtain ⟨_, h, _⟩ := hx; exact h.elim))
      case assign3 =>
        intro ll mm x W1 K hK
        gi_wp2
        simp only [List.setIfInBounds_toArray, List.set_cons_zero, List.set_cons_succ] at hK
        exact hK
      case body3 =>
        rintro ll mm pre x rest W hf _
        simp at hf
      case done3 =>
        rintro D2 W17 hD2 ⟨_, _, hX⟩ hK2
        obtain ⟨LF, hLF⟩ : ∃ LF : List Bx, LF = [(b18, #[.bool false, .int .u32 0, .int .u32 0, .bool false], 27), (b15, #[.int .i64 n1], 3), (b10 + 1, (es t).toArray, 28), (b10, rc t2, 30), (C, pc t, 62), (b6, rc t, 30), (S, pc t2, 62)] := ⟨_, rfl⟩
        have hP : Cps w ((w.heap.size + 1, #[.bool false], 4) :: LF) [D2, D1, D0] W17.drew := by
          refine (Cps.sub (hX.addD hK2) (fun q hq => ?_)).drew
          rw [hLF] at hq
          simp only [List.mem_cons, List.not_mem_nil, or_false] at hq ⊢
          rcases hq with rfl | rfl | rfl | rfl | rfl | rfl | rfl | rfl <;> simp
        have G1 : Hid (∀ W, Bks LF W → W.rangeAt (b10 + 1) 0 (es t)) := fun W h => Blk.range (h (b10 + 1, (es t).toArray, 28) (by rw [hLF]; simp)) 0 _ rfl
        have G4 : Hid (∀ W, Bks LF W → Rf W b6 t) := fun W h => h (b6, rc t, 30) (by rw [hLF]; simp)
        have G2 : Hid (∀ W, Bks LF W → W.rangeAt b6 0 (es t)) := fun W h => Rf.ents (G4.out W h)
        have G3 : Hid (∀ W, Bks LF W → W.cell? ⟨b15, 0, none⟩ = some (.int .i64 n1)) := fun W h => Blk.cell (h (b15, #[.int .i64 n1], 3) (by rw [hLF]; simp)) 0
        have G5 : Hid (∀ W, Bks LF W → Rf W b10 t2) := fun W h => h (b10, rc t2, 30) (by rw [hLF]; simp)
        have G6 : Hid (∀ W, Bks LF W → W.rangeAt b18 0 (cE E0)) := fun W h => Blk.range (h (b18, #[.bool false, .int .u32 0, .int .u32 0, .bool false], 27) (by rw [hLF]; simp)) 0 _ rfl
        have GC : Hid (∀ W, Bks LF W → At W C t) := fun W h => h (C, pc t, 62) (by rw [hLF]; simp)
        have GS : Hid (∀ W, Bks LF W → At W S t2) := fun W h => h (S, pc t2, 62) (by rw [hLF]; simp)
        have hF1 : Hid (∀ q ∈ LF, q.1 ≠ w.heap.size + 1) := fun q hq e => by
          rw [hLF] at hq
          simp only [List.mem_cons, List.not_mem_nil, or_false] at hq
          rcases hq with rfl | rfl | rfl | rfl | rfl | rfl | rfl <;> simp only at e <;> omega
        have hK0 : Bks LF W17.drew := fun q hq => hP.bx.at_ q (List.mem_cons_of_mem _ hq)
        have HM := Lib.hid (fun W => RMany_any t W)
        generalize t.many = N at hmin HM
        have HEQ := Lib.hid (t2.eqb_comm t)
        have hD01 : D0 < D1 ∧ D1 < D2 ∧ w.heap.size + 1 < D0 := by omega
        have HD := Lib.hid hD01
        have hee := eqEs t t
        rw [Tl.eqs_self] at hee
        have HEE := Lib.hid hee
        have HE0 : Hid (∀ W : World, (Op.equalIn 10000 27 (.agg #[.bool false, .int .u32 0, .int .u32 0, .bool false]) (.agg #[.bool false, .int .u32 0, .int .u32 0, .bool false])).run Try.prog W = .ok true W) := fun W => by
          have := eqE_any E0 E0 9998 W
          rw [Ent.eqb_self] at this
          exact this
        have HP := Lib.hid hP
        clear hP hX hK2 H14 hLF hee hD01 hBn hz14 hz13 hz12 hz8 hz6 hz4 hz5 hz2 hz18 hz69 hBl hgl hBh hgh hSlo hShi hc4 hm hc hD0 hD1 hD2 hD9 hD11 hok hb18 hb15 hb10 hCd hb6
        go_wp2_with fail
        refine wp_region_noPanic ?_
        refine wp_region_held_drew (S := (Bks LF)) (by kernel_rfl) hK0 (fun _ => ?_)
        have hS := hK0
        refine take_d (i := 0) (d := some 82) (v := .bool true) rfl rfl (by kernel_rfl) (by kernel_rfl) (by kernel_rfl) (fun _ _ _ h => h) (.inl ⟨by rfl, fun W hW => by go_simp⟩) hS ?_
        try simp only [Act.put, List.setIfInBounds_toArray, List.set_cons_zero, List.set_cons_succ]
        refine take_d (i := 1) (d := some 83) (v := .bool true) rfl rfl (by kernel_rfl) (by kernel_rfl) (by kernel_rfl) (fun _ _ _ h => h) (.inl ⟨by rfl, fun W hW => by go_simp⟩) hS ?_
        try simp only [Act.put, List.setIfInBounds_toArray, List.set_cons_zero, List.set_cons_succ]
        refine take_d (i := 2) (d := some 84) (v := .agg (es t).toArray) rfl rfl (by kernel_rfl) (by kernel_rfl) (by kernel_rfl) (fun _ _ _ h => h) (y_Es (by kernel_rfl) rfl rfl (fun W hW => G1.out W hW)) hS ?_
        try simp only [Act.put, List.setIfInBounds_toArray, List.set_cons_zero, List.set_cons_succ]
        refine take_d (i := 3) (d := some 85) (v := .pointer (some ⟨b6, 0, none⟩)) rfl rfl (by kernel_rfl) (by kernel_rfl) (by kernel_rfl) (fun _ _ _ h => h) (.inl ⟨by rfl, fun W hW => by go_simp⟩) hS ?_
        try simp only [Act.put, List.setIfInBounds_toArray, List.set_cons_zero, List.set_cons_succ]
        refine take_d (i := 4) (d := some 86) (v := .agg (es t).toArray) rfl rfl (by kernel_rfl) (by kernel_rfl) (by kernel_rfl) (fun _ _ _ h => h) (y_Es (by kernel_rfl) rfl rfl (fun W hW => G2.out W hW)) hS ?_
        try simp only [Act.put, List.setIfInBounds_toArray, List.set_cons_zero, List.set_cons_succ]
        refine take_d (i := 5) (d := some 87) (v := .bool true) rfl rfl (by kernel_rfl) (by kernel_rfl) (by kernel_rfl) (fun _ _ _ h => h) (.inl ⟨by rfl, fun W hW => by have q := HEE.out; go_simp⟩) hS ?_
        try simp only [Act.put, List.setIfInBounds_toArray, List.set_cons_zero, List.set_cons_succ]
        refine take_d (i := 6) (d := some 88) (v := .bool true) rfl rfl (by kernel_rfl) (by kernel_rfl) (by kernel_rfl) (fun _ _ _ h => h) (.inl ⟨by rfl, fun W hW => by go_simp⟩) hS ?_
        try simp only [Act.put, List.setIfInBounds_toArray, List.set_cons_zero, List.set_cons_succ]
        refine take_d (i := 7) (d := some 89) (v := .bool true) rfl rfl (by kernel_rfl) (by kernel_rfl) (by kernel_rfl) (fun _ _ _ h => h) (.inl ⟨by rfl, fun W hW => by go_simp⟩) hS ?_
        try simp only [Act.put, List.setIfInBounds_toArray, List.set_cons_zero, List.set_cons_succ]
        refine take_d (i := 8) (d := some 90) (v := .int .i64 n1) rfl rfl (by kernel_rfl) (by kernel_rfl) (by kernel_rfl) (fun _ _ _ h => h) (.inl ⟨by rfl, fun W hW => by have q := G3.out W hW; go_simp⟩) hS ?_
        try simp only [Act.put, List.setIfInBounds_toArray, List.set_cons_zero, List.set_cons_succ]
        as_aux_lemma =>
          refine take_d (i := 9) (d := some 91) (v := .agg (rc t)) rfl rfl (by kernel_rfl) (by kernel_rfl) (by kernel_rfl) (fun _ _ _ h => h) (y_R (by kernel_rfl) rfl rfl (fun W hW => G4.out W hW)) hS ?_
          try simp only [Act.put, List.setIfInBounds_toArray, List.set_cons_zero, List.set_cons_succ]
          refine wpAnyH_all (rs := [10]) (by kernel_rfl) (by simp) (fun i hi => ?_)
          simp only [List.mem_cons, List.not_mem_nil, or_false] at hi
          subst hi
          refine .inl ?_
          go_simp
          refine (HM.out _).mono ?_
          rintro e wc ⟨rfl, hb⟩
          have hP := Lib.hid (HP.out.after hb)
          clear HP
          have HP := hP
          clear hP
          have hS : Bks LF wc := fun q hq => HP.out.bx.at_ q (List.mem_cons_of_mem _ hq)
          clear hb
          refine ⟨hS, ?_⟩
          try simp only [Act.put, List.setIfInBounds_toArray, List.set_cons_zero, List.set_cons_succ]
          refine take_d (i := 11) (d := some 93) (v := .int .i64 n1) rfl rfl (by kernel_rfl) (by kernel_rfl) (by kernel_rfl) (fun _ _ _ h => h) (.inl ⟨by rfl, fun W hW => by have q := hmin; go_simp⟩) hS ?_
          try simp only [Act.put, List.setIfInBounds_toArray, List.set_cons_zero, List.set_cons_succ]
          refine take_d (i := 12) (d := some 94) (v := .bool true) rfl rfl (by kernel_rfl) (by kernel_rfl) (by kernel_rfl) (fun _ _ _ h => h) (.inl ⟨by rfl, fun W hW => by go_simp⟩) hS ?_
          try simp only [Act.put, List.setIfInBounds_toArray, List.set_cons_zero, List.set_cons_succ]
          refine take_d (i := 13) (d := some 95) (v := .bool true) rfl rfl (by kernel_rfl) (by kernel_rfl) (by kernel_rfl) (fun _ _ _ h => h) (.inl ⟨by rfl, fun W hW => by go_simp⟩) hS ?_
          try simp only [Act.put, List.setIfInBounds_toArray, List.set_cons_zero, List.set_cons_succ]
          refine take_d (i := 14) (d := some 96) (v := .bool true) rfl rfl (by kernel_rfl) (by kernel_rfl) (by kernel_rfl) (fun _ _ _ h => h) (.inl ⟨by rfl, fun W hW => by go_simp⟩) hS ?_
          try simp only [Act.put, List.setIfInBounds_toArray, List.set_cons_zero, List.set_cons_succ]
          refine take_d (i := 15) (d := some 97) (v := .pointer (some ⟨C, 0, none⟩)) rfl rfl (by kernel_rfl) (by kernel_rfl) (by kernel_rfl) (fun _ _ _ h => h) (.inl ⟨by rfl, fun W hW => by go_simp⟩) hS ?_
          try simp only [Act.put, List.setIfInBounds_toArray, List.set_cons_zero, List.set_cons_succ]
          refine take_d (i := 16) (d := some 98) (v := .agg (rc t)) rfl rfl (by kernel_rfl) (by kernel_rfl) (by kernel_rfl) (fun _ _ _ h => h) (y_R (by kernel_rfl) rfl rfl (fun W hW => G4.out W hW)) hS ?_
          try simp only [Act.put, List.setIfInBounds_toArray, List.set_cons_zero, List.set_cons_succ]
          refine wpAnyH_all (rs := [17]) (by kernel_rfl) (by simp) (fun i hi => ?_)
          simp only [List.mem_cons, List.not_mem_nil, or_false] at hi
          subst hi
          refine .inl ?_
          go_simp
          refine (is_any (GC.out _ hS)).mono ?_
          rintro e wc ⟨rfl, hb⟩
          have hP := Lib.hid (HP.out.after hb)
          clear HP
          have HP := hP
          clear hP
          have hS : Bks LF wc := fun q hq => HP.out.bx.at_ q (List.mem_cons_of_mem _ hq)
          clear hb
          refine ⟨hS, ?_⟩
          try simp only [Act.put, List.setIfInBounds_toArray, List.set_cons_zero, List.set_cons_succ]
          as_aux_lemma =>
            refine take_d (i := 18) (d := some 100) (v := .bool true) rfl rfl (by kernel_rfl) (by kernel_rfl) (by kernel_rfl) (fun _ _ _ h => h) (.inl ⟨by rfl, fun W hW => by go_simp⟩) hS ?_
            try simp only [Act.put, List.setIfInBounds_toArray, List.set_cons_zero, List.set_cons_succ]
            refine take_d (i := 19) (d := some 101) (v := .bool true) rfl rfl (by kernel_rfl) (by kernel_rfl) (by kernel_rfl) (fun _ _ _ h => h) (.inl ⟨by rfl, fun W hW => by go_simp⟩) hS ?_
            try simp only [Act.put, List.setIfInBounds_toArray, List.set_cons_zero, List.set_cons_succ]
            refine take_d (i := 20) (d := some 102) (v := .pointer (some ⟨S, 0, none⟩)) rfl rfl (by kernel_rfl) (by kernel_rfl) (by kernel_rfl) (fun _ _ _ h => h) (.inl ⟨by rfl, fun W hW => by go_simp⟩) hS ?_
            try simp only [Act.put, List.setIfInBounds_toArray, List.set_cons_zero, List.set_cons_succ]
            refine take_d (i := 21) (d := some 103) (v := .agg (rc t2)) rfl rfl (by kernel_rfl) (by kernel_rfl) (by kernel_rfl) (fun _ _ _ h => h) (y_R (by kernel_rfl) rfl rfl (fun W hW => G5.out W hW)) hS ?_
            try simp only [Act.put, List.setIfInBounds_toArray, List.set_cons_zero, List.set_cons_succ]
            refine wpAnyH_all (rs := [22]) (by kernel_rfl) (by simp) (fun i hi => ?_)
            simp only [List.mem_cons, List.not_mem_nil, or_false] at hi
            subst hi
            refine .inl ?_
            go_simp
            refine (is_any (GS.out _ hS)).mono ?_
            rintro e wc ⟨rfl, hb⟩
            have hP := Lib.hid (HP.out.after hb)
            clear HP
            have HP := hP
            clear hP
            have hS : Bks LF wc := fun q hq => HP.out.bx.at_ q (List.mem_cons_of_mem _ hq)
            clear hb
            refine ⟨hS, ?_⟩
            try simp only [Act.put, List.setIfInBounds_toArray, List.set_cons_zero, List.set_cons_succ]
            refine take_d (i := 23) (d := some 105) (v := .bool true) rfl rfl (by kernel_rfl) (by kernel_rfl) (by kernel_rfl) (fun _ _ _ h => h) (.inl ⟨by rfl, fun W hW => by go_simp⟩) hS ?_
            try simp only [Act.put, List.setIfInBounds_toArray, List.set_cons_zero, List.set_cons_succ]
            refine take_d (i := 24) (d := some 106) (v := .bool true) rfl rfl (by kernel_rfl) (by kernel_rfl) (by kernel_rfl) (fun _ _ _ h => h) (.inl ⟨by rfl, fun W hW => by go_simp⟩) hS ?_
            try simp only [Act.put, List.setIfInBounds_toArray, List.set_cons_zero, List.set_cons_succ]
            refine take_d (i := 25) (d := some 107) (v := .pointer (some ⟨S, 0, none⟩)) rfl rfl (by kernel_rfl) (by kernel_rfl) (by kernel_rfl) (fun _ _ _ h => h) (.inl ⟨by rfl, fun W hW => by go_simp⟩) hS ?_
            try simp only [Act.put, List.setIfInBounds_toArray, List.set_cons_zero, List.set_cons_succ]
            refine take_d (i := 26) (d := some 108) (v := .pointer (some ⟨C, 0, none⟩)) rfl rfl (by kernel_rfl) (by kernel_rfl) (by kernel_rfl) (fun _ _ _ h => h) (.inl ⟨by rfl, fun W hW => by go_simp⟩) hS ?_
            try simp only [Act.put, List.setIfInBounds_toArray, List.set_cons_zero, List.set_cons_succ]
            as_aux_lemma =>
              refine take_d (i := 28) (d := some 110) (v := .agg (rc t)) rfl rfl (by kernel_rfl) (by kernel_rfl) (by kernel_rfl) (fun _ _ _ h => h) (y_R (by kernel_rfl) rfl rfl (fun W hW => G4.out W hW)) hS ?_
              try simp only [Act.put, List.setIfInBounds_toArray, List.set_cons_zero, List.set_cons_succ]
              refine take_d (i := 29) (d := some 111) (v := .agg (rc t2)) rfl rfl (by kernel_rfl) (by kernel_rfl) (by kernel_rfl) (fun _ _ _ h => h) (y_R (by kernel_rfl) rfl rfl (fun W hW => G5.out W hW)) hS ?_
              try simp only [Act.put, List.setIfInBounds_toArray, List.set_cons_zero, List.set_cons_succ]
              refine take_d (i := 30) (d := some 112) (v := .bool (t.eqb t2)) rfl rfl (by kernel_rfl) (by kernel_rfl) (by kernel_rfl) (fun _ _ _ h => h) (.inl ⟨by rfl, fun W hW => by have q := eqR t t2; go_simp⟩) hS ?_
              try simp only [Act.put, List.setIfInBounds_toArray, List.set_cons_zero, List.set_cons_succ]
              refine wpAnyH_all (rs := [27]) (by kernel_rfl) (by simp) (fun i hi => ?_)
              simp only [List.mem_cons, List.not_mem_nil, or_false] at hi
              subst hi
              refine .inl ?_
              go_simp
              refine (Same_any (GS.out _ hS) (GC.out _ hS)).mono ?_
              rintro e wc ⟨rfl, hb⟩
              have hP := Lib.hid (HP.out.after hb)
              clear HP
              have HP := hP
              clear hP
              have hS : Bks LF wc := fun q hq => HP.out.bx.at_ q (List.mem_cons_of_mem _ hq)
              clear hb
              refine ⟨hS, ?_⟩
              try simp only [Act.put, List.setIfInBounds_toArray, List.set_cons_zero, List.set_cons_succ]
              refine take_d (i := 31) (d := some 113) (v := .bool true) rfl rfl (by kernel_rfl) (by kernel_rfl) (by kernel_rfl) (fun _ _ _ h => h) (.inl ⟨by rfl, fun W hW => by have q := HEQ.out; go_simp⟩) hS ?_
              try simp only [Act.put, List.setIfInBounds_toArray, List.set_cons_zero, List.set_cons_succ]
              refine take_d (i := 32) (d := some 114) (v := .bool true) rfl rfl (by kernel_rfl) (by kernel_rfl) (by kernel_rfl) (fun _ _ _ h => h) (.inl ⟨by rfl, fun W hW => by go_simp⟩) hS ?_
              try simp only [Act.put, List.setIfInBounds_toArray, List.set_cons_zero, List.set_cons_succ]
              refine take_d (i := 33) (d := some 115) (v := .bool true) rfl rfl (by kernel_rfl) (by kernel_rfl) (by kernel_rfl) (fun _ _ _ h => h) (.inl ⟨by rfl, fun W hW => by go_simp⟩) hS ?_
              try simp only [Act.put, List.setIfInBounds_toArray, List.set_cons_zero, List.set_cons_succ]
              refine take_d (i := 34) (d := some 116) (v := .pointer (some ⟨C, 0, none⟩)) rfl rfl (by kernel_rfl) (by kernel_rfl) (by kernel_rfl) (fun _ _ _ h => h) (.inl ⟨by rfl, fun W hW => by go_simp⟩) hS ?_
              try simp only [Act.put, List.setIfInBounds_toArray, List.set_cons_zero, List.set_cons_succ]
              refine take_d (i := 35) (d := some 117) (v := .pointer (some ⟨S, 0, none⟩)) rfl rfl (by kernel_rfl) (by kernel_rfl) (by kernel_rfl) (fun _ _ _ h => h) (.inl ⟨by rfl, fun W hW => by go_simp⟩) hS ?_
              try simp only [Act.put, List.setIfInBounds_toArray, List.set_cons_zero, List.set_cons_succ]
              as_aux_lemma =>
                refine take_d (i := 37) (d := some 119) (v := .agg (rc t)) rfl rfl (by kernel_rfl) (by kernel_rfl) (by kernel_rfl) (fun _ _ _ h => h) (y_R (by kernel_rfl) rfl rfl (fun W hW => G4.out W hW)) hS ?_
                try simp only [Act.put, List.setIfInBounds_toArray, List.set_cons_zero, List.set_cons_succ]
                refine take_d (i := 38) (d := some 120) (v := .agg (rc t2)) rfl rfl (by kernel_rfl) (by kernel_rfl) (by kernel_rfl) (fun _ _ _ h => h) (y_R (by kernel_rfl) rfl rfl (fun W hW => G5.out W hW)) hS ?_
                try simp only [Act.put, List.setIfInBounds_toArray, List.set_cons_zero, List.set_cons_succ]
                refine take_d (i := 39) (d := some 121) (v := .bool (t.eqb t2)) rfl rfl (by kernel_rfl) (by kernel_rfl) (by kernel_rfl) (fun _ _ _ h => h) (.inl ⟨by rfl, fun W hW => by have q := eqR t t2; go_simp⟩) hS ?_
                try simp only [Act.put, List.setIfInBounds_toArray, List.set_cons_zero, List.set_cons_succ]
                refine wpAnyH_all (rs := [36]) (by kernel_rfl) (by simp) (fun i hi => ?_)
                simp only [List.mem_cons, List.not_mem_nil, or_false] at hi
                subst hi
                refine .inl ?_
                go_simp
                refine (Same_any (GC.out _ hS) (GS.out _ hS)).mono ?_
                rintro e wc ⟨rfl, hb⟩
                have hP := Lib.hid (HP.out.after hb)
                clear HP
                have HP := hP
                clear hP
                have hS : Bks LF wc := fun q hq => HP.out.bx.at_ q (List.mem_cons_of_mem _ hq)
                clear hb
                refine ⟨hS, ?_⟩
                try simp only [Act.put, List.setIfInBounds_toArray, List.set_cons_zero, List.set_cons_succ]
                refine take_d (i := 40) (d := some 122) (v := .bool true) rfl rfl (by kernel_rfl) (by kernel_rfl) (by kernel_rfl) (fun _ _ _ h => h) (.inl ⟨by rfl, fun W hW => by go_simp⟩) hS ?_
                try simp only [Act.put, List.setIfInBounds_toArray, List.set_cons_zero, List.set_cons_succ]
                refine take_d (i := 41) (d := some 123) (v := .bool true) rfl rfl (by kernel_rfl) (by kernel_rfl) (by kernel_rfl) (fun _ _ _ h => h) (.inl ⟨by rfl, fun W hW => by go_simp⟩) hS ?_
                try simp only [Act.put, List.setIfInBounds_toArray, List.set_cons_zero, List.set_cons_succ]
                refine take_d (i := 42) (d := some 124) (v := .bool true) rfl rfl (by kernel_rfl) (by kernel_rfl) (by kernel_rfl) (fun _ _ _ h => h) (.inl ⟨by rfl, fun W hW => by go_simp⟩) hS ?_
                try simp only [Act.put, List.setIfInBounds_toArray, List.set_cons_zero, List.set_cons_succ]
                refine take_d (i := 43) (d := some 125) (v := .int .i64 0) rfl rfl (by kernel_rfl) (by kernel_rfl) (by kernel_rfl) (fun _ _ _ h => h) (.inl ⟨by rfl, fun W hW => by go_simp⟩) hS ?_
                try simp only [Act.put, List.setIfInBounds_toArray, List.set_cons_zero, List.set_cons_succ]
                refine take_d (i := 44) (d := some 126) (v := .bool true) rfl rfl (by kernel_rfl) (by kernel_rfl) (by kernel_rfl) (fun _ _ _ h => h) (.inl ⟨by rfl, fun W hW => by go_simp⟩) hS ?_
                try simp only [Act.put, List.setIfInBounds_toArray, List.set_cons_zero, List.set_cons_succ]
                as_aux_lemma =>
                  refine take_d (i := 45) (d := some 127) (v := .bool true) rfl rfl (by kernel_rfl) (by kernel_rfl) (by kernel_rfl) (fun _ _ _ h => h) (.inl ⟨by rfl, fun W hW => by go_simp⟩) hS ?_
                  try simp only [Act.put, List.setIfInBounds_toArray, List.set_cons_zero, List.set_cons_succ]
                  refine take_d (i := 46) (d := some 128) (v := .bool true) rfl rfl (by kernel_rfl) (by kernel_rfl) (by kernel_rfl) (fun _ _ _ h => h) (.inl ⟨by rfl, fun W hW => by go_simp⟩) hS ?_
                  try simp only [Act.put, List.setIfInBounds_toArray, List.set_cons_zero, List.set_cons_succ]
                  refine take_d (i := 47) (d := some 129) (v := .pointer none) rfl rfl (by kernel_rfl) (by kernel_rfl) (by kernel_rfl) (fun _ _ _ h => h) (.inl ⟨by rfl, fun W hW => by go_simp⟩) hS ?_
                  try simp only [Act.put, List.setIfInBounds_toArray, List.set_cons_zero, List.set_cons_succ]
                  refine wpAnyH_all (rs := [48]) (by kernel_rfl) (by simp) (fun i hi => ?_)
                  simp only [List.mem_cons, List.not_mem_nil, or_false] at hi
                  subst hi
                  refine .inl ?_
                  go_simp
                  refine (All_nil _).mono ?_
                  rintro e wc ⟨rfl, rfl⟩
                  refine ⟨hS, ?_⟩
                  try simp only [Act.put, List.setIfInBounds_toArray, List.set_cons_zero, List.set_cons_succ]
                  refine take_d (i := 49) (d := some 131) (v := .int .i64 0) rfl rfl (by kernel_rfl) (by kernel_rfl) (by kernel_rfl) (fun _ _ _ h => h) (.inl ⟨by rfl, fun W hW => by go_simp⟩) hS ?_
                  try simp only [Act.put, List.setIfInBounds_toArray, List.set_cons_zero, List.set_cons_succ]
                  refine take_d (i := 50) (d := some 132) (v := .bool true) rfl rfl (by kernel_rfl) (by kernel_rfl) (by kernel_rfl) (fun _ _ _ h => h) (.inl ⟨by rfl, fun W hW => by go_simp⟩) hS ?_
                  try simp only [Act.put, List.setIfInBounds_toArray, List.set_cons_zero, List.set_cons_succ]
                  refine take_d (i := 51) (d := some 133) (v := .bool true) rfl rfl (by kernel_rfl) (by kernel_rfl) (by kernel_rfl) (fun _ _ _ h => h) (.inl ⟨by rfl, fun W hW => by go_simp⟩) hS ?_
                  try simp only [Act.put, List.setIfInBounds_toArray, List.set_cons_zero, List.set_cons_succ]
                  refine take_d (i := 52) (d := some 134) (v := .bool true) rfl rfl (by kernel_rfl) (by kernel_rfl) (by kernel_rfl) (fun _ _ _ h => h) (.inl ⟨by rfl, fun W hW => by go_simp⟩) hS ?_
                  try simp only [Act.put, List.setIfInBounds_toArray, List.set_cons_zero, List.set_cons_succ]
                  refine take_d (i := 53) (d := some 135) (v := .agg #[.bool false, .int .u32 0, .int .u32 0, .bool false]) rfl rfl (by kernel_rfl) (by kernel_rfl) (by kernel_rfl) (fun _ _ _ h => h) (y_E (e := E0) (by kernel_rfl) rfl rfl (fun W hW => G6.out W hW)) hS ?_
                  try simp only [Act.put, List.setIfInBounds_toArray, List.set_cons_zero, List.set_cons_succ]
                  as_aux_lemma =>
                    refine take_d (i := 54) (d := some 136) (v := .agg #[.bool false, .int .u32 0, .int .u32 0, .bool false]) rfl rfl (by kernel_rfl) (by kernel_rfl) (by kernel_rfl) (fun _ _ _ h => h) (.inl ⟨by rfl, fun W hW => by go_simp⟩) hS ?_
                    try simp only [Act.put, List.setIfInBounds_toArray, List.set_cons_zero, List.set_cons_succ]
                    refine take_d (i := 55) (d := some 137) (v := .bool true) rfl rfl (by kernel_rfl) (by kernel_rfl) (by kernel_rfl) (fun _ _ _ h => h) (.inl ⟨by rfl, fun W hW => by have q := HE0.out; go_simp⟩) hS ?_
                    try simp only [Act.put, List.setIfInBounds_toArray, List.set_cons_zero, List.set_cons_succ]
                    refine take_d (i := 56) (d := some 138) (v := .bool true) rfl rfl (by kernel_rfl) (by kernel_rfl) (by kernel_rfl) (fun _ _ _ h => h) (.inl ⟨by rfl, fun W hW => by go_simp⟩) hS ?_
                    try simp only [Act.put, List.setIfInBounds_toArray, List.set_cons_zero, List.set_cons_succ]
                    refine take_d (i := 57) (d := some 139) (v := .bool true) rfl rfl (by kernel_rfl) (by kernel_rfl) (by kernel_rfl) (fun _ _ _ h => h) (.inl ⟨by rfl, fun W hW => by go_simp⟩) hS ?_
                    try simp only [Act.put, List.setIfInBounds_toArray, List.set_cons_zero, List.set_cons_succ]
                    refine take_d (i := 58) (d := some 140) (v := .int .i64 0) rfl rfl (by kernel_rfl) (by kernel_rfl) (by kernel_rfl) (fun _ _ _ h => h) (.inl ⟨by rfl, fun W hW => by go_simp⟩) hS ?_
                    try simp only [Act.put, List.setIfInBounds_toArray, List.set_cons_zero, List.set_cons_succ]
                    refine take_d (i := 59) (d := some 141) (v := .bool true) rfl rfl (by kernel_rfl) (by kernel_rfl) (by kernel_rfl) (fun _ _ _ h => h) (.inl ⟨by rfl, fun W hW => by go_simp⟩) hS ?_
                    try simp only [Act.put, List.setIfInBounds_toArray, List.set_cons_zero, List.set_cons_succ]
                    refine take_d (i := 60) (d := some 142) (v := .bool true) rfl rfl (by kernel_rfl) (by kernel_rfl) (by kernel_rfl) (fun _ _ _ h => h) (.inl ⟨by rfl, fun W hW => by go_simp⟩) hS ?_
                    try simp only [Act.put, List.setIfInBounds_toArray, List.set_cons_zero, List.set_cons_succ]
                    refine take_d (i := 61) (d := some 143) (v := .bool true) rfl rfl (by kernel_rfl) (by kernel_rfl) (by kernel_rfl) (fun _ _ _ h => h) (.inl ⟨by rfl, fun W hW => by go_simp⟩) hS ?_
                    try simp only [Act.put, List.setIfInBounds_toArray, List.set_cons_zero, List.set_cons_succ]
                    refine take_d (i := 62) (d := some 144) (v := .bool false) rfl rfl (by kernel_rfl) (by kernel_rfl) (by kernel_rfl) (fun _ _ _ h => h) (.inl ⟨by rfl, fun W hW => by go_simp⟩) hS ?_
                    try simp only [Act.put, List.setIfInBounds_toArray, List.set_cons_zero, List.set_cons_succ]
                    as_aux_lemma =>
                      refine take_d (i := 63) (d := some 145) (v := .bool true) rfl rfl (by kernel_rfl) (by kernel_rfl) (by kernel_rfl) (fun _ _ _ h => h) (.inl ⟨by rfl, fun W hW => by go_simp⟩) hS ?_
                      try simp only [Act.put, List.setIfInBounds_toArray, List.set_cons_zero, List.set_cons_succ]
                      refine take_d (i := 64) (d := some 146) (v := .bool true) rfl rfl (by kernel_rfl) (by kernel_rfl) (by kernel_rfl) (fun _ _ _ h => h) (.inl ⟨by rfl, fun W hW => by go_simp⟩) hS ?_
                      try simp only [Act.put, List.setIfInBounds_toArray, List.set_cons_zero, List.set_cons_succ]
                      refine take_d (i := 65) (d := some 147) (v := .bool true) rfl rfl (by kernel_rfl) (by kernel_rfl) (by kernel_rfl) (fun _ _ _ h => h) (.inl ⟨by rfl, fun W hW => by go_simp⟩) hS ?_
                      try simp only [Act.put, List.setIfInBounds_toArray, List.set_cons_zero, List.set_cons_succ]
                      refine take_d (i := 66) (d := some 148) (v := .pointer none) rfl rfl (by kernel_rfl) (by kernel_rfl) (by kernel_rfl) (fun _ _ _ h => h) (.inl ⟨by rfl, fun W hW => by go_simp⟩) hS ?_
                      try simp only [Act.put, List.setIfInBounds_toArray, List.set_cons_zero, List.set_cons_succ]
                      refine wpAnyH_all (rs := [67]) (by kernel_rfl) (by simp) (fun i hi => ?_)
                      simp only [List.mem_cons, List.not_mem_nil, or_false] at hi
                      subst hi
                      refine .inl ?_
                      go_simp
                      refine (Drop_nil 1 _).mono ?_
                      rintro e wc ⟨rfl, hb⟩
                      have hP := Lib.hid (HP.out.after hb)
                      clear HP
                      have HP := hP
                      clear hP
                      have hS : Bks LF wc := fun q hq => HP.out.bx.at_ q (List.mem_cons_of_mem _ hq)
                      clear hb
                      refine ⟨hS, ?_⟩
                      try simp only [Act.put, List.setIfInBounds_toArray, List.set_cons_zero, List.set_cons_succ]
                      refine take_d (i := 68) (d := some 150) (v := .bool true) rfl rfl (by kernel_rfl) (by kernel_rfl) (by kernel_rfl) (fun _ _ _ h => h) (.inl ⟨by rfl, fun W hW => by go_simp⟩) hS ?_
                      try simp only [Act.put, List.setIfInBounds_toArray, List.set_cons_zero, List.set_cons_succ]
                      refine take_d (i := 69) (d := some 151) (v := .bool true) rfl rfl (by kernel_rfl) (by kernel_rfl) (by kernel_rfl) (fun _ _ _ h => h) (.inl ⟨by rfl, fun W hW => by go_simp⟩) hS ?_
                      try simp only [Act.put, List.setIfInBounds_toArray, List.set_cons_zero, List.set_cons_succ]
                      refine take_d (i := 70) (d := some 152) (v := .bool true) rfl rfl (by kernel_rfl) (by kernel_rfl) (by kernel_rfl) (fun _ _ _ h => h) (.inl ⟨by rfl, fun W hW => by go_simp⟩) hS ?_
                      try simp only [Act.put, List.setIfInBounds_toArray, List.set_cons_zero, List.set_cons_succ]
                      refine take_d (i := 71) (d := some 153) (v := .pointer none) rfl rfl (by kernel_rfl) (by kernel_rfl) (by kernel_rfl) (fun _ _ _ h => h) (.inl ⟨by rfl, fun W hW => by go_simp⟩) hS ?_
                      try simp only [Act.put, List.setIfInBounds_toArray, List.set_cons_zero, List.set_cons_succ]
                      as_aux_lemma =>
                        refine wpAnyH_all (rs := [72]) (by kernel_rfl) (by simp) (fun i hi => ?_)
                        simp only [List.mem_cons, List.not_mem_nil, or_false] at hi
                        subst hi
                        refine .inl ?_
                        go_simp
                        refine (Next_nil _).mono ?_
                        rintro e wc ⟨rfl, rfl⟩
                        refine ⟨hS, ?_⟩
                        try simp only [Act.put, List.setIfInBounds_toArray, List.set_cons_zero, List.set_cons_succ]
                        refine take_d (i := 73) (d := some 155) (v := .bool true) rfl rfl (by kernel_rfl) (by kernel_rfl) (by kernel_rfl) (fun _ _ _ h => h) (.inl ⟨by rfl, fun W hW => by go_simp⟩) hS ?_
                        try simp only [Act.put, List.setIfInBounds_toArray, List.set_cons_zero, List.set_cons_succ]
                        refine take_d (i := 74) (d := some 156) (v := .bool true) rfl rfl (by kernel_rfl) (by kernel_rfl) (by kernel_rfl) (fun _ _ _ h => h) (.inl ⟨by rfl, fun W hW => by go_simp⟩) hS ?_
                        try simp only [Act.put, List.setIfInBounds_toArray, List.set_cons_zero, List.set_cons_succ]
                        refine take_d (i := 75) (d := some 157) (v := .bool true) rfl rfl (by kernel_rfl) (by kernel_rfl) (by kernel_rfl) (fun _ _ _ h => h) (.inl ⟨by rfl, fun W hW => by go_simp⟩) hS ?_
                        try simp only [Act.put, List.setIfInBounds_toArray, List.set_cons_zero, List.set_cons_succ]
                        refine take_d (i := 76) (d := some 158) (v := .pointer none) rfl rfl (by kernel_rfl) (by kernel_rfl) (by kernel_rfl) (fun _ _ _ h => h) (.inl ⟨by rfl, fun W hW => by go_simp⟩) hS ?_
                        try simp only [Act.put, List.setIfInBounds_toArray, List.set_cons_zero, List.set_cons_succ]
                        refine wpAnyH_all (rs := [77]) (by kernel_rfl) (by simp) (fun i hi => ?_)
                        simp only [List.mem_cons, List.not_mem_nil, or_false] at hi
                        subst hi
                        refine .inl ?_
                        go_simp
                        refine (Copy_nil _).mono ?_
                        rintro e wc ⟨rfl, rfl⟩
                        refine ⟨hS, ?_⟩
                        try simp only [Act.put, List.setIfInBounds_toArray, List.set_cons_zero, List.set_cons_succ]
                        refine take_d (i := 78) (d := some 160) (v := .bool true) rfl rfl (by kernel_rfl) (by kernel_rfl) (by kernel_rfl) (fun _ _ _ h => h) (.inl ⟨by rfl, fun W hW => by go_simp⟩) hS ?_
                        try simp only [Act.put, List.setIfInBounds_toArray, List.set_cons_zero, List.set_cons_succ]
                        refine take_d (i := 79) (d := some 161) (v := .bool true) rfl rfl (by kernel_rfl) (by kernel_rfl) (by kernel_rfl) (fun _ _ _ h => h) (.inl ⟨by rfl, fun W hW => by go_simp⟩) hS ?_
                        try simp only [Act.put, List.setIfInBounds_toArray, List.set_cons_zero, List.set_cons_succ]
                        refine take_d (i := 80) (d := some 162) (v := .bool true) rfl rfl (by kernel_rfl) (by kernel_rfl) (by kernel_rfl) (fun _ _ _ h => h) (.inl ⟨by rfl, fun W hW => by go_simp⟩) hS ?_
                        try simp only [Act.put, List.setIfInBounds_toArray, List.set_cons_zero, List.set_cons_succ]
                        as_aux_lemma =>
                          refine take_d (i := 81) (d := some 163) (v := .pointer none) rfl rfl (by kernel_rfl) (by kernel_rfl) (by kernel_rfl) (fun _ _ _ h => h) (.inl ⟨by rfl, fun W hW => by go_simp⟩) hS ?_
                          try simp only [Act.put, List.setIfInBounds_toArray, List.set_cons_zero, List.set_cons_succ]
                          refine wpAnyH_all (rs := [82]) (by kernel_rfl) (by simp) (fun i hi => ?_)
                          simp only [List.mem_cons, List.not_mem_nil, or_false] at hi
                          subst hi
                          refine .inl ?_
                          go_simp
                          refine (Same_nil _).mono ?_
                          rintro e wc ⟨rfl, rfl⟩
                          refine ⟨hS, ?_⟩
                          try simp only [Act.put, List.setIfInBounds_toArray, List.set_cons_zero, List.set_cons_succ]
                          refine take_d (i := 83) (d := some 165) (v := .bool true) rfl rfl (by kernel_rfl) (by kernel_rfl) (by kernel_rfl) (fun _ _ _ h => h) (.inl ⟨by rfl, fun W hW => by go_simp⟩) hS ?_
                          try simp only [Act.put, List.setIfInBounds_toArray, List.set_cons_zero, List.set_cons_succ]
                          refine take_d (i := 84) (d := some 166) (v := .bool true) rfl rfl (by kernel_rfl) (by kernel_rfl) (by kernel_rfl) (fun _ _ _ h => h) (.inl ⟨by rfl, fun W hW => by go_simp⟩) hS ?_
                          try simp only [Act.put, List.setIfInBounds_toArray, List.set_cons_zero, List.set_cons_succ]
                          refine take_d (i := 85) (d := some 167) (v := .pointer none) rfl rfl (by kernel_rfl) (by kernel_rfl) (by kernel_rfl) (fun _ _ _ h => h) (.inl ⟨by rfl, fun W hW => by go_simp⟩) hS ?_
                          try simp only [Act.put, List.setIfInBounds_toArray, List.set_cons_zero, List.set_cons_succ]
                          refine take_d (i := 86) (d := some 168) (v := .pointer (some ⟨C, 0, none⟩)) rfl rfl (by kernel_rfl) (by kernel_rfl) (by kernel_rfl) (fun _ _ _ h => h) (.inl ⟨by rfl, fun W hW => by go_simp⟩) hS ?_
                          try simp only [Act.put, List.setIfInBounds_toArray, List.set_cons_zero, List.set_cons_succ]
                          refine wpAnyH_all (rs := [87]) (by kernel_rfl) (by simp) (fun i hi => ?_)
                          simp only [List.mem_cons, List.not_mem_nil, or_false] at hi
                          subst hi
                          refine .inl ?_
                          go_simp
                          refine (Same_right (GC.out _ hS)).mono ?_
                          rintro e wc ⟨rfl, rfl⟩
                          refine ⟨hS, ?_⟩
                          try simp only [Act.put, List.setIfInBounds_toArray, List.set_cons_zero, List.set_cons_succ]
                          refine take_d (i := 88) (d := some 170) (v := .bool true) rfl rfl (by kernel_rfl) (by kernel_rfl) (by kernel_rfl) (fun _ _ _ h => h) (.inl ⟨by rfl, fun W hW => by go_simp⟩) hS ?_
                          try simp only [Act.put, List.setIfInBounds_toArray, List.set_cons_zero, List.set_cons_succ]
                          refine take_d (i := 89) (d := some 171) (v := .bool true) rfl rfl (by kernel_rfl) (by kernel_rfl) (by kernel_rfl) (fun _ _ _ h => h) (.inl ⟨by rfl, fun W hW => by go_simp⟩) hS ?_
                          try simp only [Act.put, List.setIfInBounds_toArray, List.set_cons_zero, List.set_cons_succ]
                          as_aux_lemma =>
                            refine take_d (i := 90) (d := some 172) (v := .bool true) rfl rfl (by kernel_rfl) (by kernel_rfl) (by kernel_rfl) (fun _ _ _ h => h) (.inl ⟨by rfl, fun W hW => by go_simp⟩) hS ?_
                            try simp only [Act.put, List.setIfInBounds_toArray, List.set_cons_zero, List.set_cons_succ]
                            refine take_d (i := 91) (d := some 173) (v := .pointer (some ⟨C, 0, none⟩)) rfl rfl (by kernel_rfl) (by kernel_rfl) (by kernel_rfl) (fun _ _ _ h => h) (.inl ⟨by rfl, fun W hW => by go_simp⟩) hS ?_
                            try simp only [Act.put, List.setIfInBounds_toArray, List.set_cons_zero, List.set_cons_succ]
                            refine take_d (i := 92) (d := some 174) (v := .pointer none) rfl rfl (by kernel_rfl) (by kernel_rfl) (by kernel_rfl) (fun _ _ _ h => h) (.inl ⟨by rfl, fun W hW => by go_simp⟩) hS ?_
                            try simp only [Act.put, List.setIfInBounds_toArray, List.set_cons_zero, List.set_cons_succ]
                            refine wpAnyH_all (rs := [93]) (by kernel_rfl) (by simp) (fun i hi => ?_)
                            simp only [List.mem_cons, List.not_mem_nil, or_false] at hi
                            subst hi
                            refine .inl ?_
                            go_simp
                            refine (Same_left (GC.out _ hS)).mono ?_
                            rintro e wc ⟨rfl, rfl⟩
                            refine ⟨hS, ?_⟩
                            try simp only [Act.put, List.setIfInBounds_toArray, List.set_cons_zero, List.set_cons_succ]
                            refine take_d (i := 94) (d := some 176) (v := .bool true) rfl rfl (by kernel_rfl) (by kernel_rfl) (by kernel_rfl) (fun _ _ _ h => h) (.inl ⟨by rfl, fun W hW => by go_simp⟩) hS ?_
                            try simp only [Act.put, List.setIfInBounds_toArray, List.set_cons_zero, List.set_cons_succ]
                            refine take_d (i := 95) (d := some 177) (v := .bool true) rfl rfl (by kernel_rfl) (by kernel_rfl) (by kernel_rfl) (fun _ _ _ h => h) (.inl ⟨by rfl, fun W hW => by go_simp⟩) hS ?_
                            try simp only [Act.put, List.setIfInBounds_toArray, List.set_cons_zero, List.set_cons_succ]
                            refine take_d (i := 96) (d := some 178) (v := .bool true) rfl rfl (by kernel_rfl) (by kernel_rfl) (by kernel_rfl) (fun _ _ _ h => h) (.inl ⟨by rfl, fun W hW => by go_simp⟩) hS ?_
                            try simp only [Act.put, List.setIfInBounds_toArray, List.set_cons_zero, List.set_cons_succ]
                            refine wpAnyH_all (rs := [97]) (by kernel_rfl) (by simp) (fun i hi => ?_)
                            simp only [List.mem_cons, List.not_mem_nil, or_false] at hi
                            subst hi
                            refine .inl ?_
                            go_simp
                            refine (works_any _).mono ?_
                            rintro e wc ⟨rfl, hb⟩
                            have hP := Lib.hid (HP.out.after hb)
                            clear HP
                            have HP := hP
                            clear hP
                            have hS : Bks LF wc := fun q hq => HP.out.bx.at_ q (List.mem_cons_of_mem _ hq)
                            clear hb
                            refine ⟨hS, ?_⟩
                            try simp only [Act.put, List.setIfInBounds_toArray, List.set_cons_zero, List.set_cons_succ]
                            refine take_d (i := 98) (d := some 180) (v := .bool true) rfl rfl (by kernel_rfl) (by kernel_rfl) (by kernel_rfl) (fun _ _ _ h => h) (.inl ⟨by rfl, fun W hW => by go_simp⟩) hS ?_
                            try simp only [Act.put, List.setIfInBounds_toArray, List.set_cons_zero, List.set_cons_succ]
                            as_aux_lemma =>
                              refine wpAnyH_all (rs := [99]) (by kernel_rfl) (by simp) (fun i hi => ?_)
                              simp only [List.mem_cons, List.not_mem_nil, or_false] at hi
                              subst hi
                              refine .inl ?_
                              have kr := HP.out.get (w.heap.size + 1) (cs := #[.bool false]) (ty := 4) (by simp)
                              refine o_store_bool (v := true) (kr.cell 0) (kr.frozen 0) rfl rfl rfl ?_
                              obtain ⟨hfa, hfb⟩ := fin_copies HP.out HD.out hF1.out
                              refine ⟨hfa, ?_⟩
                              try simp only [Act.put, List.setIfInBounds_toArray, List.set_cons_zero, List.set_cons_succ]
                              refine wpAnyH_done (by kernel_rfl) ?_ _
                              refine NoPanic.normal ?_
                              have HFB := Lib.hid hfb
                              clear hfa hfb hS hK0 kr HP
                              go_wp2_with fail
                              obtain ⟨f1, f2, f3, f4, f5⟩ := HFB.out
                              refine ⟨by simp, .inl ⟨_, _, rfl, run_takeDeferred f1, ?_⟩⟩
                              refine ⟨by simp, .inl ⟨_, _, rfl, run_takeDeferred f2, ?_⟩⟩
                              refine ⟨by simp, .inl ⟨_, _, rfl, run_takeDeferred f3, ?_⟩⟩
                              exact ⟨.bool true, by simp [results, Try.results6, go_sem, f4], rfl, f5⟩
end Go.Proofs.Ytafkjokbidkkhaa

/-
  Layer 9: act of the statements, where a packet is taken: walk; whatever is called. Written by gen_act1.py.
-/
import Derived.Test.YtepimbebodmajaaAct
namespace Go.Proofs.Ytepimbebodmajaa
open Go.RowKit
set_option maxHeartbeats 8000000
set_option linter.unusedVariables false
set_option linter.unusedSimpArgs false

structure AcJ (w : World) (S : Nat) (n : Nt) (F : Nat → Prop) (N z : Nat) (c' : Array Value) (W : World) : Prop where
  nb : Rf 28 3 W N c'
  r : ∃ c0, Rf 28 3 W (z + 1 + 1) c0
  ne : N ≠ z + 1 + 1
theorem RvC.weak {w w' : World} {n : Nt} {G : Nat → Prop} {pv : Value} {c' : Array Value} (h : RvC w n G (.slice none 0 0) c' w') : RvC w n G pv c' w' := by
  obtain ⟨G', h1, h2, h3⟩ := h
  exact ⟨G', h1, fun k hk => by rcases h2 k hk with e | e | e; exact .inl e; (simp [rdBlk] at e); exact .inr (.inr e), h3⟩
set_option maxRecDepth 100000 in
theorem act1 {w : World} {S : Nat} {n : Nt} {cv sv : Value} {cl sl : List Pk} {F : Nat → Prop} (h : AB w S n cv sv cl sl F) (bv : Value) (b : List Int) (hbv : NumsIn .u8 w bv b) (hbl : b.length ≤ 140737488355328) (sepb : ∀ k, rdBlk bv = some k → ¬ F k) :
    Calls Try.prog 13 #[.pointer (some ⟨S, 0, none⟩), .agg (rcL n cv sv), .agg #[.int .i64 1, bv]] w fun e w' => ∃ c', e = .returned (.tuple #[.agg c', .bool true]) ∧ ActC w S (n.took) F (rvG cv sv cl sl) bv c' w' := by
  have hx1 : Ok1 2 #[.int .i64 1, bv] := ⟨rfl, by simp [hbv.one]; rfl⟩
  have HB0 := Lib.hid (b3_start w (rcL n cv sv) #[.int .i64 1, bv] F (h.r.ok n) hx1)
  have HH := Lib.hid h
  have HBV := Lib.hid hbv
  have HSP := Lib.hid (show ∀ k, rdBlk bv = some k → k < w.heap.size ∧ ¬ F k from fun k hk => ⟨hbv.lt hk, sepb k hk⟩)
  have HOC := Lib.hid (show Ok1 3 (rcL n cv sv) from h.r.ok n)
  have HFl := Lib.hid h.at_.lt
  obtain ⟨W0, hW0⟩ : ∃ W0, ((w.alloc (.cells (rcL n cv sv) 28)).alloc (.cells #[.int .i64 1, bv] 36)).alloc (.cells zR 28) = W0 := ⟨_, rfl⟩
  have hz0 : W0.heap.size = w.heap.size + 1 + 1 + 1 := by rw [← hW0]; simp
  have hbw0 : Below w.heap.size w W0 := by rw [← hW0]; exact (((Below.refl _ _).alloc (Nat.le_refl _) _).alloc (by simp) _).alloc (by simp; omega) _
  have hba : Below W0.heap.size W0 (W0.alloc (.cells #[] 5)) := (Below.refl _ _).alloc (Nat.le_refl _) _
  have HX := Lib.hid ((hbv.below hbw0).below hba)
  have HW0 := Lib.hid hbw0
  have HZ0 := Lib.hid hz0
  obtain ⟨bo, bc, rfl, -, hbm, -⟩ := hbv.form
  unfold maxLen at hbm
  rw [hW0] at HB0
  have HEq := Lib.hid hW0
  subst hW0
  clear h hbv sepb hx1 hbw0 hba hz0
  go_enter Try.func13, Try.ntmps13
  go_wp2_with (at_builtin; refine wp_append_e rfl _ _ rfl rfl rfl HX.out hbl ?_)
  intro v1 w1 hq ht hn
  have hba : Below _ (((w.alloc (.cells (rcL n cv sv) 28)).alloc (.cells #[.int .i64 1, .slice bo b.length bc] 36)).alloc (.cells zR 28)) (_) := (Below.refl _ _).alloc (Nat.le_refl _) (.cells #[] 5)
  have hb1 := hba.trans (ht.mono (by simp))
  have HB1 := Lib.hid (HB0.out.after hb1)
  have HW1 := Lib.hid (HW0.out.trans (hb1.mono HW0.out.size))
  have HQ1 : Hid (Qs w1 v1 b) := ⟨HBV.out.byt, hq⟩
  have HL1 : Hid (∀ k, blkOf v1 = some k → w.heap.size + 1 + 1 + 1 ≤ k) := fun k hk => by
    have e := hn k hk
    have := HZ0.out
    first | omega | (simp at e; omega)
  obtain ⟨ao1, c1, e1, -, -⟩ := HQ1.out.shape
  subst e1
  clear hq ht hn hba hb1 HX HB0 HW0 HEq HZ0
  have hbn : Below w1.heap.size w1 (w1.alloc (.cells (rcL n cv sv) 28)) := (Below.refl _ _).alloc (Nat.le_refl _) _
  have HB2 := Lib.hid (HB1.out.after hbn)
  have HW2 := Lib.hid (HW1.out.trans (hbn.mono HW1.out.size))
  have HN2 := Lib.hid (HOC.out.new 28 w1)
  have HQ2 := Lib.hid (HQ1.out.below hbn)
  have k0 := HB2.out.x.cell 0
  have k1 := HB2.out.x.cell 1
  simp only [List.getElem?_toArray, List.getElem?_cons_zero, List.getElem?_cons_succ] at k0 k1
  have HRN := Lib.hid (show zR.size = 3 ∧ Ok1 3 (rcL n cv sv) from ⟨rfl, HOC.out⟩)
  clear hbn
  go_wp2_with (first | ((with_reducible apply wp_load_R rowR); (exact HB1.out.a); (rfl)) | ((with_reducible apply wp_load_R rowR); (exact HB2.out.a); (rfl)) | ((with_reducible apply wp_store_Rn _ rowR); (exact HRN.out); (rfl); (rfl)))
  refine (RTake_any (HH.out.r.below HW2.out) HH.out.ok (by have := HH.out.sz; omega)).mono ?_
  rintro e w2 ⟨c', rfl, hr0⟩
  have hr : RvC (w1.alloc (.cells (rcL n cv sv) 28)) n.took (rvG cv sv cl sl) (.slice bo b.length bc) c' w2 := hr0.weak
  clear hr0
  have HOk := Lib.hid hr.ok
  have hb2 := hr.below
  have HR := Lib.hid hr
  have HW3 := Lib.hid (HW2.out.trans (hb2.mono HW2.out.size))
  have hbn : Below w2.heap.size w2 (w2.alloc (.cells c' 28)) := (Below.refl _ _).alloc (Nat.le_refl _) _
  have hzN : w.heap.size + 1 + 1 < w1.heap.size := HB1.out.lt
  have hz12 : w1.heap.size + 1 ≤ w2.heap.size := by have := hb2.size; simpa using this
  have HBl := Lib.hid (HW3.out.trans (hbn.mono HW3.out.size))
  have HB3 := Lib.hid ((HB2.out.after hb2).after hbn)
  have HN3 := Lib.hid (hr.ok.new 28 w2)
  have HRN2 := Lib.hid (show zR.size = 3 ∧ Ok1 3 c' from ⟨rfl, hr.ok⟩)
  have HKp : Hid (∀ k, (k < w.heap.size ∨ (w1.alloc (.cells (rcL n cv sv) 28)).heap.size ≤ k) → k < w2.heap.size → (w2.alloc (.cells c' 28)).heap[k]? = w2.heap[k]?) := fun k _ hk => Below.heap_alloc _ _ _ hk
  have HZs : Hid (w2.heap.size ≤ (w2.alloc (.cells c' 28)).heap.size) := by show _ ≤ _; simp
  clear hr hb2 hbn HB1 HB2 HQ2 HN2 k0 k1 HRN HQ1 HL1
  go_wp2_with ((with_reducible apply wp_store_Rn _ rowR); (exact HRN2.out); (rfl); (rfl))
  have HK : Hid (AcJ w S n F w2.heap.size w.heap.size c' (w2.alloc (.cells c' 28)).drew) := ⟨HN3.out.drew, ⟨_, HB3.out.r.drew⟩, by omega⟩
  have HT := Lib.hid (Take_any (HH.out.at_.below (HBl.out.drew)) HH.out.ok)
  have hK0 := HK.out
  refine wp_region_held_drew (S := AcJ w S n F w2.heap.size w.heap.size c') (by kernel_rfl) hK0 (fun _ => ?_)
  have hS := hK0
  refine take_d (i := 0) (d := some 62) (v := .agg c') rfl rfl (by kernel_rfl) (by kernel_rfl) (by kernel_rfl) (fun _ _ _ h => h) (y_R rowR (by kernel_rfl) rfl rfl (fun W hW => hW.nb)) hS ?_
  try simp only [Act.put, List.setIfInBounds_toArray, List.set_cons_zero, List.set_cons_succ]
  refine take_d (i := 1) (d := some 63) (v := ?_) rfl rfl (by kernel_rfl) (by kernel_rfl) (by kernel_rfl) (fun _ _ _ h => h) (.inl ⟨by rfl, ?_⟩) hS ?_
  rotate_left
  · intro W hW
    go_simp
    try with_reducible rfl
  try simp only [Act.put, List.setIfInBounds_toArray, List.set_cons_zero, List.set_cons_succ]
  refine take_d (i := 3) (d := some 65) (v := ?_) rfl rfl (by kernel_rfl) (by kernel_rfl) (by kernel_rfl) (fun _ _ _ h => h) (.inl ⟨by rfl, ?_⟩) hS ?_
  rotate_left
  · intro W hW
    go_simp
    try with_reducible rfl
  try simp only [Act.put, List.setIfInBounds_toArray, List.set_cons_zero, List.set_cons_succ]
  refine wpAnyH_all (rs := [2]) (by kernel_rfl) (by simp) (fun i hi => ?_)
  simp only [List.mem_cons, List.not_mem_nil, or_false] at hi
  subst hi
  refine .inl ?_
  go_simp
  refine (HT.out).mono ?_
  rintro e wc ⟨rfl, hc⟩
  obtain ⟨F', G', hact, hfree⟩ := act_end HH.out HSP.out (by simp; omega) HR.out HKp.out (by have := HZs.out; exact this) (show Chg (w2.alloc (.cells c' 28)) S n.took F wc from by obtain ⟨F9, a9, b9, c9⟩ := hc; exact ⟨F9, a9, b9, ((Turned.refl F _).drew).trans c9 (fun x hx => .inl hx)⟩) (Turned.of_below HBl.out F)
  have HAct := Lib.hid hact
  have hnz := hfree (w.heap.size + 1 + 1) (by omega) (by simp; omega)
  obtain ⟨F2, -, -, htt⟩ := hc
  have hS1 : AcJ w S n F w2.heap.size w.heap.size c' wc := ⟨hS.nb.turned htt (fun hF => by have := HFl.out _ hF; omega), by obtain ⟨c0, hr⟩ := hS.r; exact ⟨c0, hr.turned htt (fun hF => by have := HFl.out _ hF; omega)⟩, hS.ne⟩
  have hS := hS1
  clear hact hfree htt HT
  refine ⟨hS, ?_⟩
  try simp only [Act.put, List.setIfInBounds_toArray, List.set_cons_zero, List.set_cons_succ]
  refine take_d (i := 4) (d := some 66) (v := ?_) rfl rfl (by kernel_rfl) (by kernel_rfl) (by kernel_rfl) (fun _ _ _ h => h) (.inl ⟨by rfl, ?_⟩) hS ?_
  rotate_left
  · intro W hW
    go_simp
    try with_reducible rfl
  try simp only [Act.put, List.setIfInBounds_toArray, List.set_cons_zero, List.set_cons_succ]
  refine wpAnyH_all (rs := [5]) (by kernel_rfl) (by simp) (fun i hi => ?_)
  simp only [List.mem_cons, List.not_mem_nil, or_false] at hi
  subst hi
  refine .inl ?_
  obtain ⟨c0, hr⟩ := hS.r
  refine o_store_R (d := none) rfl c' rowR hr HOk.out rfl rfl rfl ?_
  have hres := hr.set HOk.out
  have HE := Lib.hid (show ActC w S n.took F (rvG cv sv cl sl) (.slice bo b.length bc) c' (wc.setRow (w.heap.size + 1 + 1) c') from ⟨F', G', HAct.out.turned (turned_setRow wc (w.heap.size + 1 + 1) c') (fun k hk => by subst hk; exact ⟨by omega, hnz⟩)⟩)
  have hS2 : AcJ w S n F w2.heap.size w.heap.size c' (wc.setRow (w.heap.size + 1 + 1) c') := ⟨hS.nb.setOther hS.ne _, ⟨_, hres⟩, hS.ne⟩
  refine ⟨hS2, ?_⟩
  have hS := hS2
  try simp only [Act.put, List.setIfInBounds_toArray, List.set_cons_zero, List.set_cons_succ]
  refine take_d (i := 6) (d := some 7) (v := ?_) rfl rfl (by kernel_rfl) (by kernel_rfl) (by kernel_rfl) (fun _ _ _ h => h) (.inl ⟨by rfl, ?_⟩) hS ?_
  rotate_left
  · intro W hW
    go_simp
    try with_reducible rfl
  try simp only [Act.put, List.setIfInBounds_toArray, List.set_cons_zero, List.set_cons_succ]
  refine wpAnyH_done (by kernel_rfl) ?_ _
  have HRes := Lib.hid hres
  clear hS hK0 HK hres
  go_wp2
  refine bodyPost_ret (res_R_tmp rowR (fn := Try.f13) rfl _ HRes.out rfl) rfl ⟨c', by first | rfl | (simp; done), HE.out⟩
theorem act_any {w : World} {S : Nat} {n : Nt} {cv sv : Value} {cl sl : List Pk} {F : Nat → Prop} (h : AB w S n cv sv cl sl F) (s : Ac) (bv : Value) (hbv : NumsIn .u8 w bv s.b) (hbl : s.b.length ≤ 140737488355328) (sepb : ∀ k, rdBlk bv = some k → ¬ F k) :
    Calls Try.prog 13 #[.pointer (some ⟨S, 0, none⟩), .agg (rcL n cv sv), .agg #[.int .i64 s.k, bv]] w fun e w' => ∃ c', e = .returned (.tuple #[.agg c', .bool true]) ∧ ActC w S (n.act s) F (rvG cv sv cl sl) bv c' w' := by
  obtain ⟨k, b⟩ := s
  simp only at hbv hbl ⊢
  by_cases k0 : k = 0
  · subst k0; exact act0 h bv b hbv hbl sepb
  by_cases k1 : k = 1
  · subst k1; exact act1 h bv b hbv hbl sepb
  have e : n.act ⟨k, b⟩ = n.sent b := by simp [Nt.act, k0, k1]
  rw [e]
  exact act2 h k k0 k1 bv b hbv hbl sepb
end Go.Proofs.Ytepimbebodmajaa

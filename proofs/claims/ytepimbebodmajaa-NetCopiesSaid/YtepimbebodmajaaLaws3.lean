/-
  Layer 9: the walk of NetOne. Written by gen_laws3.py.
-/
import Derived.Test.YtepimbebodmajaaLaws2
namespace Go.Proofs.Ytepimbebodmajaa
open Go.RowKit
set_option maxHeartbeats 16000000
set_option linter.unusedVariables false
set_option linter.unusedSimpArgs false

/-- A net n, the document's r in box B. -/
structure Pm (w : World) (S B : Nat) (n r : Nt) (cv sv : Value) (cl sl : List Pk) (F : Nat → Prop) (W : World) : Prop where
  at_ : At W S n F
  rv : RvIs W r cv sv cl sl
  sep : ∀ k, F k → ¬ rvG cv sv cl sl k
  loF : ∀ k, F k → k = S ∨ B + 1 ≤ k
  loG : ∀ k, rvG cv sv cl sl k → k < w.heap.size ∨ B + 1 ≤ k
  box : Rf 28 3 W B (rcL r cv sv)
  below : Below w.heap.size w W
def PmE (w : World) (S B : Nat) (n r : Nt) (W : World) : Prop := ∃ cv sv cl sl F, Pm w S B n r cv sv cl sl F W
section
variable {w W W' : World} {S B : Nat} {n n' r r' : Nt} {cv sv : Value} {cl sl : List Pk} {F : Nat → Prop}
theorem Pm.after (h : Pm w S B n r cv sv cl sl F W) (hb : Below W.heap.size W W') : Pm w S B n r cv sv cl sl F W' := ⟨h.at_.below hb, h.rv.below hb, h.sep, h.loF, h.loG, h.box.below hb, h.below.trans (hb.mono h.below.size)⟩
theorem PmE.after (h : PmE w S B n r W) (hb : Below W.heap.size W W') : PmE w S B n r W' := by obtain ⟨cv, sv, cl, sl, F, h⟩ := h; exact ⟨cv, sv, cl, sl, F, h.after hb⟩
theorem PmE.below (h : PmE w S B n r W) : Below w.heap.size w W := by obtain ⟨cv, sv, cl, sl, F, h⟩ := h; exact h.below
theorem PlE.pm (h : PlE w S B n W) : PmE w S B n n W := by obtain ⟨cv, sv, cl, sl, F, h⟩ := h; exact ⟨cv, sv, cl, sl, F, h.at_, h.r, h.sep, h.loF, h.loG, h.box, h.below⟩
theorem PmE.pl (h : PmE w S B n n W) : PlE w S B n W := by obtain ⟨cv, sv, cl, sl, F, h⟩ := h; exact ⟨cv, sv, cl, sl, F, h.at_, h.rv, h.sep, h.loF, h.loG, h.box, h.below⟩
/-- A call of the document's; its answer is stored in the box. -/
theorem Pm.ref {c' : Array Value} {pv : Value} (h : Pm w S B n r cv sv cl sl F W) (hc : RvC W r' (rvG cv sv cl sl) pv c' W') (hS : w.heap.size ≤ S ∧ S < B) (hpv : ∀ k, rdBlk pv = some k → k < w.heap.size) :
    Rf 28 3 W' B (rcL r cv sv) ∧ Below w.heap.size w W' ∧ Ok1 3 c' ∧ PmE w S B n r' (W'.setRow B c') := by
  have ho := hc.ok
  obtain ⟨G', ⟨cv2, sv2, cl2, sl2, rfl, rfl, hr2⟩, hg, hb⟩ := hc
  have hB := h.box.lt
  have hzw := h.below.size
  have hbox := h.box.below hb
  have hbw := h.below.trans (hb.mono hzw)
  have ht := turned_setRow W' B (rcL r' cv2 sv2)
  have hloF : ∀ k, F k → w.heap.size ≤ k := fun k hk => by rcases h.loF k hk with e | e <;> omega
  have hG2 : ∀ k, rvG cv2 sv2 cl2 sl2 k → k < w.heap.size ∨ B + 1 ≤ k := fun k hk => by
    rcases hg k hk with e | e | e
    · exact h.loG k e
    · exact .inl (hpv k e)
    · omega
  refine ⟨hbox, hbw, ho, cv2, sv2, cl2, sl2, F, (h.at_.below hb).turned ht (fun k hk e => by have := h.loF k hk; omega), hr2.keep (fun k hk => ht.block k (hr2.lt k hk) (fun e => by have := hG2 k hk; omega)), fun k hF hG => ?_, h.loF, hG2, hbox.set ho, below_setRow hbw (by omega) _⟩
  rcases hg k hG with e | e | e
  · exact h.sep k hF e
  · have := hpv k e; have := hloF k hF; omega
  · have := h.at_.lt k hF; omega
/-- A call of the net's. -/
theorem Pm.net (h : Pm w S B n r cv sv cl sl F W) (hc : Chg W S n' F W') (hS : w.heap.size ≤ S ∧ S < B) : PmE w S B n' r W' := by
  obtain ⟨F', ha, hf, ht⟩ := hc
  have hB := h.box.lt
  have hzw := h.below.size
  have hloF : ∀ k, F k → w.heap.size ≤ k := fun k hk => by rcases h.loF k hk with e | e <;> omega
  refine ⟨cv, sv, cl, sl, F', ha, h.rv.keep (fun k hk => ht.block k (h.rv.lt k hk) (fun e => h.sep k e hk)), fun k hF hG => ?_, fun k hk => ?_, h.loG, h.box.turned ht (fun e => by rcases h.loF _ e with e | e <;> omega), h.below.trans (ht.below hzw hloF)⟩
  · rcases hf k hF with e | e
    · exact h.sep k e hG
    · have := h.rv.lt k hG; omega
  · rcases hf k hk with e | e
    · exact h.loF k e
    · omega
end
def onN (xs : List (List Int)) (k : Nat) : Nt := (List.range k).foldl (fun n i => (n.pushed (xs[i]?.getD [])).took) N0
theorem onN_succ (xs : List (List Int)) (k : Nat) : onN xs (k + 1) = ((onN xs k).pushed (xs[k]?.getD [])).took := by
  unfold onN; rw [List.range_succ, List.foldl_append]; rfl
theorem sz_pushed (n : Nt) (p : List Int) : (n.pushed p).sz ≤ n.sz + 1 := n.sz_act ⟨0, p⟩
theorem sz_took (n : Nt) : n.took.sz ≤ n.sz + 1 := by have := n.sz_act ⟨1, []⟩; simpa [Nt.act] using this
theorem onN_ok (xs : List (List Int)) : ∀ k, (onN xs k).Ok ∧ (onN xs k).sz ≤ 2 * k
  | 0 => ⟨ok_N0, by simp [onN, N0, Nt.sz]⟩
  | k + 1 => by
    have h := onN_ok xs k
    rw [onN_succ]
    refine ⟨(h.1.pushed _).took, ?_⟩
    have h1 := sz_pushed (onN xs k) (xs[k]?.getD [])
    have h2 := sz_took ((onN xs k).pushed (xs[k]?.getD []))
    omega
set_option maxRecDepth 100000 in
theorem NetOne_walk (v : Value) (xs : List (List Int)) (pv : Value) (p : List Int) (w : World) (h : BysIn w v xs) (hp : NumsIn .u8 w pv p) : Calls Try.prog 7 #[v, pv] w fun e w' => e = .returned (.bool true) ∧ Below w.heap.size w w' := by
  have HA := Lib.hid (fun (i : Nat) (hi : i < xs.length) => h.ats hi)
  obtain ⟨o, cc, rfl, hc, hm, -⟩ := h.form
  have HP := Lib.hid hp
  obtain ⟨po, pc, rfl, -, hpm, -⟩ := hp.form
  unfold maxLen at hm hpm
  clear h hp
  by_cases hlen : (20 : Int) < xs.length
  · go_enter Try.func7, Try.ntmps7
    go_wp2_with (go_at_call 10; refine (works_any _).mono ?_; rintro e w' ⟨rfl, hb⟩)
    go_ret
    exact ⟨rfl, hb⟩
  by_cases hpl : (3000 : Int) < p.length
  · go_enter Try.func7, Try.ntmps7
    go_wp2_with (go_at_call 10; refine (works_any _).mono ?_; rintro e w' ⟨rfl, hb⟩)
    go_ret
    exact ⟨rfl, hb⟩
  · have hx20 : xs.length ≤ 20 := by omega
    have H0 : Hid (PmE w w.heap.size (w.heap.size + 1) N0 N0 ((w.alloc (.cells (ncL N0 (.slice none 0 0) (.slice none 0 0)) 61)).alloc (.cells zR 28))) := PlE.pm ⟨_, _, _, _, _, pl_start w (Below.refl _ _)⟩
    go_enter Try.func7, Try.ntmps7
    go_wp2_with fail
    refine (New_any _).mono ?_
    rintro e w1 ⟨rfl, rfl⟩
    go_wp2_with fail
    show Code.wp Try.prog _ _ _ ((w.alloc (.cells (ncL N0 (.slice none 0 0) (.slice none 0 0)) 61)).alloc (.cells zR 28))
    generalize (w.alloc (.cells (ncL N0 (.slice none 0 0) (.slice none 0 0)) 61)).alloc (.cells zR 28) = W0 at H0 ⊢
    go_loopw [7] (fun q wr => ∃ k : Nat, k ≤ xs.length ∧ q = .int .i64 (k : Int) ∧ Hid (PmE w w.heap.size (w.heap.size + 1) (onN xs k) (onN xs k) wr)) (fun q _ => xs.length + 1 - (intOf q).toNat)
    case atStart => exact ⟨0, by omega, rfl, H0.out⟩
    case round =>
      obtain ⟨k, hk, rfl, HPm⟩ := hrel
      by_cases hlt : k < xs.length
      · have hi : (k : Int) < (xs.length : Int) := by omega
        obtain ⟨a, c2, o1, m1, e1, hc1, hn1, hl1⟩ := HA.out k hlt
        simp at e1
        obtain ⟨rfl, rfl⟩ := e1
        have hpk := onN_ok xs k
        have HS := Lib.hid (onN_succ xs k)
        have HOK := Lib.hid hpk.1
        have HSZ : Hid ((onN xs k).sz ≤ 1000) := by show _ ≤ _; omega
        generalize xs[k]?.getD [] = x1 at *
        generalize onN xs k = n at *
        have hcw := cell_below hc1 (Below.mono HPm.out.below (Nat.le_refl _))
        have HC1 := Lib.hid hc1
        have HN1 := Lib.hid hn1
        clear hc1 hn1 hl1 H0 HA hpk
        by_cases hbig : (64 : Int) < x1.length
        · go_wp2_with fail
          refine (works_any _).mono ?_
          rintro e w7 ⟨rfl, hb⟩
          have H7 := Lib.hid (HPm.out.after hb)
          clear hb HPm
          go_wp2
          go_ret
          exact ⟨rfl, H7.out.below⟩
        · obtain ⟨cv, sv, cl, sl, F, hP⟩ := HPm.out
          have hd := hP.after (Below.refl _ _).drew
          have HD := Lib.hid hd
          have HAct := Lib.hid (RPush_any hd.rv HOK.out (by have := HSZ.out; omega) _ x1 (HN1.out.below hd.below))
          have HK := Lib.hid (show wr.drew.cell? (a.add k) = some (.slice o1 x1.length m1) from hcw)
          have HB1 := Lib.hid (show ∀ k, rdBlk (.slice o1 x1.length m1) = some k → k < w.heap.size from fun k hk => HN1.out.lt hk)
          clear hP hd HPm
          go_wp2
          have hK0 := HK.out
          refine wp_region_held_drew (S := fun W => W.cell? (a.add k) = some (.slice o1 x1.length m1)) (by kernel_rfl) hK0 (fun _ => ?_)
          have hS := hK0
          refine take_d (i := 1) (d := some 39) (v := ?_) rfl rfl (by kernel_rfl) (by kernel_rfl) (by kernel_rfl) (fun _ _ _ h => h) (.inl ⟨by rfl, ?_⟩) hS ?_
          rotate_left
          · intro W hW
            go_simp
            try with_reducible rfl
          try simp only [Act.put, List.setIfInBounds_toArray, List.set_cons_zero, List.set_cons_succ]
          refine take_d (i := 2) (d := some 40) (v := ?_) rfl rfl (by kernel_rfl) (by kernel_rfl) (by kernel_rfl) (fun _ _ _ h => h) (.inl ⟨by rfl, ?_⟩) hS ?_
          rotate_left
          · intro W hW
            go_simp
            try with_reducible rfl
          try simp only [Act.put, List.setIfInBounds_toArray, List.set_cons_zero, List.set_cons_succ]
          refine take_d (i := 3) (d := some 41) (v := .pointer (some (a.add k))) rfl rfl (by kernel_rfl) (by kernel_rfl) (by kernel_rfl) (fun _ _ _ h => h) (.inl ⟨by rfl, fun W hW => by have q := hi; go_simp⟩) hS ?_
          try simp only [Act.put, List.setIfInBounds_toArray, List.set_cons_zero, List.set_cons_succ]
          refine take_d (i := 4) (d := some 42) (v := .slice o1 x1.length m1) rfl rfl (by kernel_rfl) (by kernel_rfl) (by kernel_rfl) (fun _ _ _ h => h) (.inl ⟨by rfl, fun W hW => by have q := hW; go_simp⟩) hS ?_
          try simp only [Act.put, List.setIfInBounds_toArray, List.set_cons_zero, List.set_cons_succ]
          refine wpAnyH_all (rs := [0]) (by kernel_rfl) (by simp) (fun i hi => ?_)
          simp only [List.mem_cons, List.not_mem_nil, or_false] at hi
          subst hi
          refine .inl ?_
          refine o_load_R (d := some 38) rfl rowR HD.out.box rfl rfl ?_
          refine ⟨hS, ?_⟩
          try simp only [Act.put, List.setIfInBounds_toArray, List.set_cons_zero, List.set_cons_succ]
          refine wpAnyH_all (rs := [5]) (by kernel_rfl) (by simp) (fun i hi => ?_)
          simp only [List.mem_cons, List.not_mem_nil, or_false] at hi
          subst hi
          refine .inl ?_
          go_simp
          refine (HAct.out).mono ?_
          rintro e wc ⟨c', rfl, hact⟩
          obtain ⟨hbox, hbw, hoc, hp2⟩ := HD.out.ref hact ⟨Nat.le_refl _, by omega⟩ HB1.out
          have hS : (fun W => W.cell? (a.add k) = some (.slice o1 x1.length m1)) wc := cell_below HC1.out (Below.mono hbw (Nat.le_refl _))
          clear hact
          refine ⟨hS, ?_⟩
          try simp only [Act.put, List.setIfInBounds_toArray, List.set_cons_zero, List.set_cons_succ]
          refine take_d (i := 6) (d := some 37) (v := ?_) rfl rfl (by kernel_rfl) (by kernel_rfl) (by kernel_rfl) (fun _ _ _ h => h) (.inl ⟨by rfl, ?_⟩) hS ?_
          rotate_left
          · intro W hW
            go_simp
            try with_reducible rfl
          try simp only [Act.put, List.setIfInBounds_toArray, List.set_cons_zero, List.set_cons_succ]
          refine take_d (i := 7) (d := some 44) (v := ?_) rfl rfl (by kernel_rfl) (by kernel_rfl) (by kernel_rfl) (fun _ _ _ h => h) (.inl ⟨by rfl, ?_⟩) hS ?_
          rotate_left
          · intro W hW
            go_simp
            try with_reducible rfl
          try simp only [Act.put, List.setIfInBounds_toArray, List.set_cons_zero, List.set_cons_succ]
          refine take_d (i := 8) (d := some 45) (v := ?_) rfl rfl (by kernel_rfl) (by kernel_rfl) (by kernel_rfl) (fun _ _ _ h => h) (.inl ⟨by rfl, ?_⟩) hS ?_
          rotate_left
          · intro W hW
            go_simp
            try with_reducible rfl
          try simp only [Act.put, List.setIfInBounds_toArray, List.set_cons_zero, List.set_cons_succ]
          refine take_d (i := 9) (d := some 46) (v := ?_) rfl rfl (by kernel_rfl) (by kernel_rfl) (by kernel_rfl) (fun _ _ _ h => h) (.inl ⟨by rfl, ?_⟩) hS ?_
          rotate_left
          · intro W hW
            go_simp
            try with_reducible rfl
          try simp only [Act.put, List.setIfInBounds_toArray, List.set_cons_zero, List.set_cons_succ]
          refine wpAnyH_all (rs := [10]) (by kernel_rfl) (by simp) (fun i hi => ?_)
          simp only [List.mem_cons, List.not_mem_nil, or_false] at hi
          subst hi
          refine .inl ?_
          refine o_store_R (d := none) rfl c' rowR hbox hoc rfl rfl rfl ?_
          have hS2 : (fun W => W.cell? (a.add k) = some (.slice o1 x1.length m1)) (wc.setRow (w.heap.size + 1) c') := cell_below HC1.out (Below.mono (below_setRow hbw (by omega) _) (Nat.le_refl _))
          refine ⟨hS2, ?_⟩
          have hS := hS2
          try simp only [Act.put, List.setIfInBounds_toArray, List.set_cons_zero, List.set_cons_succ]
          refine wpAnyH_done (by kernel_rfl) ?_ _
          have HE := Lib.hid hp2
          have HO2 := Lib.hid (HOK.out.pushed x1)
          have HZ2 : Hid ((n.pushed x1).sz ≤ 1001) := by have := sz_pushed n x1; have := HSZ.out; show _ ≤ _; omega
          clear hS hK0 HK HAct HD hp2 hcw
          generalize wc.setRow (w.heap.size + 1) c' = wr2 at HE ⊢
          obtain ⟨cv2, sv2, cl2, sl2, F2, hP⟩ := HE.out
          have HPb := Lib.hid hP
          have HBx := Lib.hid hP.box
          have HTk := Lib.hid (RTake_any hP.rv HO2.out (by have := HZ2.out; omega))
          clear hP HE
          go_wp2_with ((with_reducible apply wp_load_R rowR); (exact HBx.out); (rfl))
          refine HTk.out.mono ?_
          rintro e w5 ⟨c5, rfl, hr5⟩
          obtain ⟨hbx5, hbw5, hoc5, hp5⟩ := HPb.out.ref hr5 ⟨Nat.le_refl _, by omega⟩ (fun k hk => by simp [rdBlk] at hk)
          have HSt := Lib.hid (show Rf 28 3 w5 (w.heap.size + 1) _ ∧ Ok1 3 c5 from ⟨hbx5, hoc5⟩)
          have HE := Lib.hid hp5
          have hcc := cell_below HC1.out (Below.mono (below_setRow hbw5 (by omega) c5 (g := w.heap.size + 1)) (Nat.le_refl _))
          clear hr5 hbx5 hbw5 hoc5 hp5 HPb HBx HTk
          go_wp2_with ((with_reducible apply wp_store_R _ rowR); (exact HSt.out); (rfl); (rfl))
          generalize w5.setRow (w.heap.size + 1) c5 = wr3 at *
          obtain ⟨cv3, sv3, cl3, sl3, F3, hP⟩ := HE.out
          have HPb := Lib.hid hP
          refine (Push_any hP.at_ HOK.out (by have := HSZ.out; omega) _ x1 (HN1.out.below hP.below)).mono ?_
          rintro e w6 ⟨rfl, hc6⟩
          have HE6 := Lib.hid (HPb.out.net hc6 ⟨Nat.le_refl _, by omega⟩)
          clear hc6 hP HPb HE HSt hcc
          go_wp2_with fail
          obtain ⟨cv4, sv4, cl4, sl4, F4, hP⟩ := HE6.out
          have HPb := Lib.hid hP
          refine (Take_any hP.at_ HO2.out).mono ?_
          rintro e w7 ⟨rfl, hc7⟩
          have HE7 := Lib.hid (HPb.out.net hc7 ⟨Nat.le_refl _, by omega⟩)
          clear hc7 hP HPb HE6
          go_wp2
          go_roundw
          case rel => exact ⟨k + 1, by omega, by go_num, by rw [show onN xs (k + 1) = _ from HS.out]; exact HE7.out⟩
          case measure => simp [intOf]; omega
      · obtain rfl : k = xs.length := by omega
        have hlt' : ¬ ((xs.length : Nat) : Int) < (xs.length : Int) := by omega
        obtain ⟨cv, sv, cl, sl, F, hP⟩ := HPm.out.pl
        have hpk := onN_ok xs xs.length
        have HOK := Lib.hid hpk.1
        have HSZ : Hid ((onN xs xs.length).sz ≤ 1000) := by show _ ≤ _; omega
        have HR := Lib.hid (PlRE.of hP ⟨Nat.le_refl _, by omega⟩)
        have HBx := Lib.hid hP.box
        generalize onN xs xs.length = n at *
        clear hP hpk HPm H0 HA
        go_wp2_with ((with_reducible apply wp_load_R rowR); (exact HBx.out); (rfl))
        refine (act_any (HR.out.ab HOK.out (by have := HSZ.out; omega)) ⟨0, p⟩ _ (HP.out.below HR.out.below) (show p.length ≤ _ by omega) (fun k hk hF => by have := HP.out.lt hk; have := HR.out.loF k hF; omega)).mono ?_
        rintro e w2 ⟨c', rfl, hact⟩
        obtain ⟨cv2, sv2, cl2, sl2, F2, rfl, hR2⟩ := HR.out.act hact
        have hbn : Below w2.heap.size w2 (w2.alloc (.cells (rcL (n.act ⟨0, p⟩) cv2 sv2) 28)) := (Below.refl _ _).alloc (Nat.le_refl _) _
        have HO2 := Lib.hid (HOK.out.act ⟨0, p⟩)
        have HZ2 : Hid ((n.act ⟨0, p⟩).sz ≤ 1001) := by have := n.sz_act ⟨0, p⟩; have := HSZ.out; show _ ≤ _; omega
        have HR2 := Lib.hid (hR2.after hbn)
        have HN2 := Lib.hid (Ok1.new (show Ok1 3 (rcL (n.act ⟨0, p⟩) cv2 sv2) from hR2.r.ok _) 28 w2)
        have HRN := Lib.hid (show zR.size = 3 ∧ Ok1 3 (rcL (n.act ⟨0, p⟩) cv2 sv2) from ⟨rfl, hR2.r.ok _⟩)
        clear hact hR2 hbn HR HBx HOK HSZ
        generalize n.act ⟨0, p⟩ = n2 at *
        go_wp2_with (first | ((with_reducible apply wp_store_Rn _ rowR); (exact HRN.out); (rfl); (rfl)) | ((with_reducible apply wp_load_R rowR); (exact HN2.out); (rfl)))
        refine (is_any HR2.out.at_ HR2.out.r HO2.out (by have := HZ2.out; omega)).mono ?_
        rintro e w3 ⟨rfl, hb3⟩
        have HR3 := Lib.hid (HR2.out.after hb3)
        have HN3 := Lib.hid (HN2.out.below hb3)
        clear hb3 HR2 HRN HN2
        go_wp2_with ((with_reducible apply wp_load_R rowR); (exact HN3.out); (rfl))
        refine (act_any (HR3.out.ab HO2.out (by have := HZ2.out; omega)) ⟨1, []⟩ (.slice none 0 0) (.inl ⟨rfl, rfl⟩) (by simp) (fun k hk hF => by simp [rdBlk] at hk)).mono ?_
        rintro e w4 ⟨c', rfl, hact⟩
        obtain ⟨cv4, sv4, cl4, sl4, F4, rfl, hR4⟩ := HR3.out.act hact
        have hbn : Below w4.heap.size w4 (w4.alloc (.cells (rcL (n2.act ⟨1, []⟩) cv4 sv4) 28)) := (Below.refl _ _).alloc (Nat.le_refl _) _
        have HO4 := Lib.hid (HO2.out.act ⟨1, []⟩)
        have HZ4 : Hid ((n2.act ⟨1, []⟩).sz ≤ 1002) := by have := n2.sz_act ⟨1, []⟩; have := HZ2.out; show _ ≤ _; omega
        have HR4 := Lib.hid (hR4.after hbn)
        have HN4 := Lib.hid (Ok1.new (show Ok1 3 (rcL (n2.act ⟨1, []⟩) cv4 sv4) from hR4.r.ok _) 28 w4)
        have HRN := Lib.hid (show zR.size = 3 ∧ Ok1 3 (rcL (n2.act ⟨1, []⟩) cv4 sv4) from ⟨rfl, hR4.r.ok _⟩)
        clear hact hR4 hbn HR3 HN3 HO2 HZ2
        generalize n2.act ⟨1, []⟩ = n4 at *
        go_wp2_with (first | ((with_reducible apply wp_store_Rn _ rowR); (exact HRN.out); (rfl); (rfl)) | ((with_reducible apply wp_load_Rg); (kernel_rfl); (exact rowR); (exact HN4.out); (rfl)))
        refine (is_any HR4.out.at_ HR4.out.r HO4.out (by have := HZ4.out; omega)).mono ?_
        rintro e w5 ⟨rfl, hb5⟩
        have H5 := Lib.hid (HR4.out.below.trans (hb5.mono HR4.out.below.size))
        clear hb5 HR4 HRN HN4
        go_wp2_with fail
        refine (works_any _).mono ?_
        rintro e w8 ⟨rfl, hb⟩
        have H8 := Lib.hid (H5.out.trans (hb.mono H5.out.size))
        clear hb H5
        go_wp2
        go_ret
        exact ⟨rfl, H8.out⟩
end Go.Proofs.Ytepimbebodmajaa

/-
  Layer 9: the walk of NetOrder. Written by gen_laws5.py.
-/
import Derived.Test.YtepimbebodmajaaLaws4
namespace Go.Proofs.Ytepimbebodmajaa
open Go.RowKit
set_option maxHeartbeats 16000000
set_option linter.unusedVariables false
set_option linter.unusedSimpArgs false

/-- A net that the call made, and a list iv of slices of what was given that hold l. -/
structure Oi (w : World) (S : Nat) (n : Nt) (l : List (List Int)) (iv : Value) (F : Nat → Prop) (cs : List Value) (W : World) : Prop where
  at_ : At W S n F
  fs : ∀ k, F k → w.heap.size ≤ k
  below : Below w.heap.size w W
  g : Gs 32 1 W iv l.length cs
  gs : ∀ k, blkOf iv = some k → w.heap.size ≤ k ∧ ¬ F k
  el : ∀ (i : Nat) x, l[i]? = some x → ∃ u, cs[i]? = some u ∧ NumsIn .u8 w u x
def OiE (w : World) (S : Nat) (n : Nt) (l : List (List Int)) (iv : Value) (W : World) : Prop := ∃ F cs, Oi w S n l iv F cs W
section
variable {w W W' : World} {S : Nat} {n n' : Nt} {l : List (List Int)} {iv iv' : Value} {F : Nat → Prop} {cs : List Value}
theorem Oi.after (h : Oi w S n l iv F cs W) (hb : Below W.heap.size W W') : Oi w S n l iv F cs W' := ⟨h.at_.below hb, h.fs, h.below.trans (hb.mono h.below.size), h.g.below hb, h.gs, h.el⟩
theorem Oi.chg (h : Oi w S n l iv F cs W) (hc : Chg W S n' F W') : OiE w S n' l iv W' := by
  obtain ⟨F', a, b, c⟩ := hc
  refine ⟨F', cs, a, fun k hk => ?_, h.below.trans (c.below h.below.size h.fs), h.g.turned c (fun k hk => (h.gs k hk).2), fun k hk => ⟨(h.gs k hk).1, fun hF => ?_⟩, h.el⟩
  · rcases b k hk with e | e
    · exact h.fs k e
    · have := h.below.size; omega
  · rcases b k hF with e | e
    · exact (h.gs k hk).2 e
    · have := h.g.lt hk; omega
theorem Oi.app {u : Value} {x : List Int} (h : Oi w S n l iv F cs W) (hg : Gs 32 1 W' iv' (l.length + 1) (cs ++ [u])) (ht : Turned (fun k => blkOf iv = some k) W W') (hn : ∀ k, blkOf iv' = some k → blkOf iv = some k ∨ W.heap.size ≤ k) (hu : NumsIn .u8 w u x) :
    Oi w S n (l ++ [x]) iv' F (cs ++ [u]) W' := by
  refine ⟨h.at_.turned ht (fun k hk e => (h.gs k e).2 hk), h.fs, h.below.trans (ht.below h.below.size (fun k e => (h.gs k e).1)), by simpa using hg, fun k hk => ?_, fun i y hy => ?_⟩
  · rcases hn k hk with e | e
    · exact h.gs k e
    · exact ⟨by have := h.below.size; omega, fun hF => by have := h.at_.lt k hF; omega⟩
  · have hl := h.g.len
    rw [Nat.mul_one] at hl
    by_cases hi : i < l.length
    · rw [List.getElem?_append_left hi] at hy
      rw [List.getElem?_append_left (by omega)]
      exact h.el i y hy
    · rw [List.getElem?_append_right (by omega)] at hy
      rw [List.getElem?_append_right (by omega), hl]
      have h0 : i - l.length = 0 := by have := (List.getElem?_eq_some_iff.1 hy).1; simp at this; omega
      rw [h0] at hy ⊢
      simp at hy
      subst hy
      exact ⟨u, rfl, hu⟩
end
theorem oi_start (w : World) : OiE w w.heap.size N0 N0.cm (.slice none 0 0) (w.alloc (.cells (ncL N0 (.slice none 0 0) (.slice none 0 0)) 61)) := by
  obtain ⟨F, h1, h2, h3⟩ := Ow.new w
  exact ⟨F, [], h1, h2, h3, Gs.nil _ _ _, fun k hk => by simp [blkOf] at hk, fun i x hx => by simp [N0] at hx⟩
structure OrS (a : Addr) (j : Nat) (u pv : Value) (x : List Int) (W : World) : Prop where
  c : W.cell? (a.add j) = some u
  p : NumsIn .u8 W pv x
  u : NumsIn .u8 W u x
theorem nact0 {n : Nt} {s : Ac} (h : s.k = 0) : n.act s = n.pushed s.b := by unfold Nt.act; rw [if_pos h]
theorem nact1 {n : Nt} {s : Ac} (h : s.k = 1) : n.act s = n.took := by unfold Nt.act; rw [if_neg (by omega), if_pos h]
theorem nact2 {n : Nt} {s : Ac} (h : s.k ≠ 0) (h1 : s.k ≠ 1) : n.act s = n.sent s.b := by unfold Nt.act; rw [if_neg h, if_neg h1]
theorem pushed_yes {n : Nt} {p : List Int} (h : n.mayP p) : (n.pushed p).cm = n.cm ++ [p] ∧ (n.pushed p).tk = n.tk ∧ n.pushN p = tot n.cm ∧ n.pushE p = 0 := by
  unfold Nt.pushed Nt.pushN Nt.pushE; simp only [if_pos h]; exact ⟨trivial, trivial, trivial, trivial⟩
theorem pushed_no {n : Nt} {p : List Int} (h : ¬ n.mayP p) : n.pushed p = n ∧ n.pushN p = 0 ∧ n.pushE p = 3 := by
  unfold Nt.pushed Nt.pushN Nt.pushE; simp only [if_neg h]; exact ⟨trivial, trivial, trivial⟩
theorem sent_cm (n : Nt) (p : List Int) : (n.sent p).cm = n.cm ∧ (n.sent p).tk = n.tk := by unfold Nt.sent; split <;> exact ⟨rfl, rfl⟩
theorem took_yes {n : Nt} (h : n.tk < n.cm.length) : n.took.cm = n.cm ∧ n.took.tk = n.tk + 1 ∧ n.takeY = true ∧ n.nextN = tot (n.cm.take n.tk) ∧ n.cm[n.tk]? = some n.nextB := by
  unfold Nt.took Nt.takeY Nt.nextN Nt.nextB; simp only [if_pos h]; exact ⟨trivial, trivial, by simpa using h, trivial, by rw [List.getElem?_eq_getElem h]; rfl⟩
theorem took_no {n : Nt} (h : ¬ n.tk < n.cm.length) : n.took = n ∧ n.takeY = false ∧ n.nextN = 0 := by
  unfold Nt.took Nt.takeY Nt.nextN; simp only [if_neg h]; exact ⟨trivial, by simpa using h, trivial⟩
set_option maxRecDepth 100000 in
theorem NetOrder_walk (v : Value) (xs : List Ac) (w : World) (h : ActsIn w v xs) : Calls Try.prog 8 #[v] w fun e w' => e = .returned (.bool true) ∧ Below w.heap.size w w' := by
  have HF := Lib.hid (few_any h)
  obtain ⟨o, cc, rfl, hc, hm, hat⟩ := h.form
  unfold maxLen at hm
  have HA := Lib.hid hat
  clear h hat
  go_enter Try.func8, Try.ntmps8
  go_wp2_with fail
  refine HF.out.mono ?_
  rintro e w1 ⟨q, rfl, rfl, hq⟩
  clear HF
  cases q with
  | false =>
    clear hq
    go_wp2_with (go_at_call 10; refine (works_any _).mono ?_; rintro e w' ⟨rfl, hb⟩)
    go_ret
    exact ⟨rfl, hb⟩
  | true =>
    have hcost := hq rfl
    have hcl := cost_len xs
    have hx400 : xs.length ≤ 400 := by omega
    clear hq hcost hcl
    have H0 := Lib.hid (oi_start w)
    go_wp2_with fail
    refine (New_any _).mono ?_
    rintro e w1 ⟨rfl, rfl⟩
    go_wp2_with fail
    show Code.wp Try.prog _ _ _ (w.alloc (.cells (ncL N0 (.slice none 0 0) (.slice none 0 0)) 61))
    generalize w.alloc (.cells (ncL N0 (.slice none 0 0) (.slice none 0 0)) 61) = W0 at H0 ⊢
    go_loopw [4, 5, 6, 7, 8] (fun iv came taken byt q wr => ∃ k : Nat, k ≤ xs.length ∧ came = .int .i64 (tot (plN (xs.take k)).cm : Int) ∧ taken = .int .i64 ((plN (xs.take k)).tk : Int) ∧ byt = .int .i64 (tot ((plN (xs.take k)).cm.take (plN (xs.take k)).tk) : Int) ∧ q = .int .i64 (k : Int) ∧ Hid (OiE w w.heap.size (plN (xs.take k)) (plN (xs.take k)).cm iv wr)) (fun _ _ _ _ q _ => xs.length + 1 - (intOf q).toNat)
    case atStart => exact ⟨0, by omega, rfl, rfl, rfl, rfl, H0.out⟩
    case round =>
      clear H0
      obtain ⟨k, hk, rfl, rfl, rfl, rfl, HP⟩ := hrel
      by_cases hlt : k < xs.length
      · have hi : (k : Int) < (xs.length : Int) := by omega
        obtain ⟨a, s, bv, rfl, hs, hfit, h6⟩ := HA.out k hlt
        have HS := Lib.hid (plN_step hs)
        have HOK := Lib.hid (plN_ok (xs.take k))
        have HSZ : Hid ((plN (xs.take k)).sz ≤ 500) := by have := plN_sz (xs.take k); simp at this; show _ ≤ _; omega
        generalize plN (xs.take k) = n at *
        have hsz := HSZ.out
        have htc := HOK.out.totc
        unfold Nt.sz at hsz
        have hcl5 : n.cm.length ≤ 500 := by omega
        have htot : tot n.cm ≤ 32000 := by omega
        have htk : tot (n.cm.take n.tk) ≤ 32000 := by have := tot_take_le n.cm n.tk; omega
        have hnt : n.tk ≤ 500 := by have := HOK.out.tk; omega
        clear htc hsz
        obtain ⟨F, cs, hO⟩ := HP.out
        have HO := Lib.hid hO
        obtain ⟨ao, ci, rfl, -, -⟩ := hO.g.shape
        obtain ⟨ob, cb, rfl, -, -, -⟩ := h6.nb.form
        have H6 := Lib.hid h6
        have hbl := hfit.bl
        have c1 := (h6.below hO.below).k
        clear hfit h6 HA HP hs
        by_cases hk0 : s.k = 0
        · have c2 := (H6.out.below hO.below).b
          rw [hk0] at c1
          clear hO
          go_wp2_with fail
          refine (Push_any HO.out.at_ HOK.out (by have := HSZ.out; omega) _ s.b (H6.out.nb.below HO.out.below)).mono ?_
          rintro e w2 ⟨rfl, hc2⟩
          obtain ⟨F2, cs2, h2⟩ := HO.out.chg hc2
          clear hc2 c1 c2 HO
          rw [nact0 hk0] at HS
          by_cases hmay : n.mayP s.b
          · have hp := pushed_yes hmay
            have hsb := hmay.1
            have HCM := Lib.hid hp.1
            have HTK := Lib.hid hp.2.1
            rw [hp.2.2.1, hp.2.2.2]
            have hba : Below w2.heap.size w2 (w2.alloc (.cells #[.slice ob s.b.length cb] 32)) := (Below.refl _ _).alloc (Nat.le_refl _) _
            have H3 := Lib.hid (h2.after hba)
            have HSr := Lib.hid (sl_src w2 (.slice ob s.b.length cb) rfl)
            have c2 := (H6.out.below h2.below).b
            clear hp h2 hba hmay
            go_wp2_with (first | (go_at_call 16; refine (num_any _ _).mono ?_; rintro e w' ⟨rfl, rfl⟩) | (at_builtin; refine wp_append_g rfl _ _ rfl Try.underlying26 infoBs rfl (by omega) (by omega) rfl rfl H3.out.g HSr.out (by omega) ?_))
            intro v4 w4 hg4 ht4 hn4
            have H4 := Lib.hid (H3.out.app hg4 ht4 (by rw [World.size_alloc]; exact hn4) H6.out.nb)
            obtain ⟨ao4, ci4, rfl, -, -⟩ := hg4.shape
            have c3 := (H6.out.below H4.out.below).b
            clear hg4 ht4 hn4 H3 HSr c2
            go_wp2
            go_roundw
            case rel =>
              refine ⟨k + 1, by omega, ?_, ?_, ?_, by go_num, ?_⟩
              · rw [show plN (xs.take (k + 1)) = _ from HS.out, show (n.pushed s.b).cm = _ from HCM.out, tot_snoc]; go_num
              · rw [show plN (xs.take (k + 1)) = _ from HS.out, show (n.pushed s.b).tk = _ from HTK.out]
              · rw [show plN (xs.take (k + 1)) = _ from HS.out, show (n.pushed s.b).cm = _ from HCM.out, show (n.pushed s.b).tk = _ from HTK.out, List.take_append_of_le_length (by have := HOK.out.tk; omega)]
              · rw [show plN (xs.take (k + 1)) = _ from HS.out, show (n.pushed s.b).cm = _ from HCM.out]; exact ⟨_, _, H4.out⟩
            case measure => simp [intOf]; omega
          · have hp := pushed_no hmay
            rw [hp.2.1, hp.2.2]
            rw [hp.1] at HS h2
            have H2 := Lib.hid h2
            clear hp h2 hmay
            go_wp2_with (go_at_call 16; refine (num_any _ _).mono ?_; rintro e w' ⟨rfl, rfl⟩)
            go_roundw
            case rel => exact ⟨k + 1, by omega, by rw [show plN (xs.take (k + 1)) = _ from HS.out], by rw [show plN (xs.take (k + 1)) = _ from HS.out], by rw [show plN (xs.take (k + 1)) = _ from HS.out], by go_num, by rw [show plN (xs.take (k + 1)) = _ from HS.out]; exact ⟨_, _, H2.out⟩⟩
            case measure => simp [intOf]; omega
        · by_cases hk1 : s.k = 1
          · rw [hk1] at c1
            rw [nact1 hk1] at HS
            clear hO hk0
            go_wp2_with fail
            refine (Next_any HO.out.at_ HOK.out).mono ?_
            rintro e w2 ⟨v2, rfl, hc2⟩
            obtain ⟨p2, m2, rfl, -, -⟩ := hc2.q.shape
            have HO2 := Lib.hid ((HO.out.after hc2.below).after (Below.refl _ _).drew)
            by_cases hy : n.tk < n.cm.length
            · obtain ⟨y1, y2, y3, y4, y5⟩ := took_yes hy
              have hi2 : (n.tk : Int) < (n.cm.length : Int) := by omega
              have HTk := Lib.hid (Take_any HO2.out.at_ HOK.out)
              rw [y3] at HTk ⊢
              rw [y4]
              have HCM := Lib.hid y1
              have HTK := Lib.hid y2
              have HTN := Lib.hid (Nt.tot_next hy)
              obtain ⟨u, hu, hnu⟩ := HO2.out.el _ _ y5
              obtain ⟨ou, cu, rfl, -, -, -⟩ := hnu.form
              have hnb : n.nextB.length ≤ 64 := HOK.out.c64 _ (List.mem_of_getElem? y5)
              obtain ⟨g, o2, c, e1, -, -⟩ := HO2.out.g.cell hu
              simp at e1
              obtain ⟨rfl, rfl⟩ := e1
              have HU := Lib.hid hu
              have HNU := Lib.hid hnu
              have HQ := Lib.hid (hc2.q.below (Below.refl _ _).drew)
              have HLo := Lib.hid (show ∀ k, blkOf (.slice p2 n.nextB.length m2) = some k → ¬ F k from fun k hk hF => by have := hc2.lo k hk; have := HO.out.at_.lt k hF; omega)
              have HStr : Hid (((strOfNums n.nextB).toList == (strOfNums n.nextB).toList) = true) := by show _ = true; simp
              generalize (⟨g, o2, none⟩ : Addr) = a2 at *
              have HK := Lib.hid (show OrS a2 n.tk (.slice ou n.nextB.length cu) (.slice p2 n.nextB.length m2) n.nextB w2.drew from ⟨HO2.out.g.read rfl _ _ hu, HQ.out.nums, hnu.below HO2.out.below⟩)
              clear hc2 y1 y2 y3 y4 y5 hu hnu HO c1
              go_wp2
              have hK0 := HK.out
              refine wp_region_held_drew (S := OrS a2 n.tk (.slice ou n.nextB.length cu) (.slice p2 n.nextB.length m2) n.nextB) (by kernel_rfl) hK0 (fun _ => ?_)
              have hS := hK0
              refine take_d (i := 0) (d := some 79) (v := ?_) rfl rfl (by kernel_rfl) (by kernel_rfl) (by kernel_rfl) (fun _ _ _ h => h) (.inl ⟨by rfl, ?_⟩) hS ?_
              rotate_left
              · intro W hW
                go_simp
                try with_reducible rfl
              try simp only [Act.put, List.setIfInBounds_toArray, List.set_cons_zero, List.set_cons_succ]
              refine take_d (i := 1) (d := some 80) (v := ?_) rfl rfl (by kernel_rfl) (by kernel_rfl) (by kernel_rfl) (fun _ _ _ h => h) (.inl ⟨by rfl, ?_⟩) hS ?_
              rotate_left
              · intro W hW
                go_simp
                try with_reducible rfl
              try simp only [Act.put, List.setIfInBounds_toArray, List.set_cons_zero, List.set_cons_succ]
              refine wpAnyH_all (rs := [2]) (by kernel_rfl) (by simp) (fun i hi => ?_)
              simp only [List.mem_cons, List.not_mem_nil, or_false] at hi
              subst hi
              refine .inl ?_
              go_simp
              refine (HTk.out).mono ?_
              rintro e wc ⟨rfl, hc3⟩
              have HE := HO2.out.chg hc3
              have hbE : Below w.heap.size w wc := by obtain ⟨_, _, hE⟩ := HE; exact hE.below
              obtain ⟨F', h3a, h3b, ht⟩ := hc3
              have hS : OrS a2 n.tk (.slice ou n.nextB.length cu) (.slice p2 n.nextB.length m2) n.nextB wc := ⟨(HO2.out.g.turned ht (fun k hk => (HO2.out.gs k hk).2)).read rfl _ _ HU.out, (HQ.out.turned ht (fun k hk => HLo.out k hk)).nums, HNU.out.below hbE⟩
              clear h3a h3b ht hbE
              refine ⟨hS, ?_⟩
              try simp only [Act.put, List.setIfInBounds_toArray, List.set_cons_zero, List.set_cons_succ]
              refine take_d (i := 3) (d := some 82) (v := ?_) rfl rfl (by kernel_rfl) (by kernel_rfl) (by kernel_rfl) (fun _ _ _ h => h) (.inl ⟨by rfl, ?_⟩) hS ?_
              rotate_left
              · intro W hW
                go_simp
                try with_reducible rfl
              try simp only [Act.put, List.setIfInBounds_toArray, List.set_cons_zero, List.set_cons_succ]
              refine take_d (i := 4) (d := some 83) (v := ?_) rfl rfl (by kernel_rfl) (by kernel_rfl) (by kernel_rfl) (fun _ _ _ h => h) (.inl ⟨by rfl, ?_⟩) hS ?_
              rotate_left
              · intro W hW
                go_simp
                try with_reducible rfl
              try simp only [Act.put, List.setIfInBounds_toArray, List.set_cons_zero, List.set_cons_succ]
              refine take_d (i := 5) (d := some 84) (v := ?_) rfl rfl (by kernel_rfl) (by kernel_rfl) (by kernel_rfl) (fun _ _ _ h => h) (.inl ⟨by rfl, ?_⟩) hS ?_
              rotate_left
              · intro W hW
                go_simp
                try with_reducible rfl
              try simp only [Act.put, List.setIfInBounds_toArray, List.set_cons_zero, List.set_cons_succ]
              refine take_d (i := 6) (d := some 85) (v := ?_) rfl rfl (by kernel_rfl) (by kernel_rfl) (by kernel_rfl) (fun _ _ _ h => h) (.inl ⟨by rfl, ?_⟩) hS ?_
              rotate_left
              · intro W hW
                go_simp
                try with_reducible rfl
              try simp only [Act.put, List.setIfInBounds_toArray, List.set_cons_zero, List.set_cons_succ]
              refine take_d (i := 7) (d := some 86) (v := ?_) rfl rfl (by kernel_rfl) (by kernel_rfl) (by kernel_rfl) (fun _ _ _ h => h) (.inl ⟨by rfl, ?_⟩) hS ?_
              rotate_left
              · intro W hW
                go_simp
                try with_reducible rfl
              try simp only [Act.put, List.setIfInBounds_toArray, List.set_cons_zero, List.set_cons_succ]
              refine take_d (i := 8) (d := some 87) (v := ?_) rfl rfl (by kernel_rfl) (by kernel_rfl) (by kernel_rfl) (fun _ _ _ h => h) (.inl ⟨by rfl, ?_⟩) hS ?_
              rotate_left
              · intro W hW
                go_simp
                try with_reducible rfl
              try simp only [Act.put, List.setIfInBounds_toArray, List.set_cons_zero, List.set_cons_succ]
              refine take_d (i := 9) (d := some 88) (v := ?_) rfl rfl (by kernel_rfl) (by kernel_rfl) (by kernel_rfl) (fun _ _ _ h => h) (.inl ⟨by rfl, ?_⟩) hS ?_
              rotate_left
              · intro W hW
                have q := hi2
                go_simp
                try with_reducible rfl
              try simp only [Act.put, List.setIfInBounds_toArray, List.set_cons_zero, List.set_cons_succ]
              refine take_d (i := 10) (d := some 89) (v := ?_) rfl rfl (by kernel_rfl) (by kernel_rfl) (by kernel_rfl) (fun _ _ _ h => h) (.inl ⟨by rfl, ?_⟩) hS ?_
              rotate_left
              · intro W hW
                go_simp
                try with_reducible rfl
              try simp only [Act.put, List.setIfInBounds_toArray, List.set_cons_zero, List.set_cons_succ]
              refine take_d (i := 11) (d := some 90) (v := ?_) rfl rfl (by kernel_rfl) (by kernel_rfl) (by kernel_rfl) (fun _ _ _ h => h) (.inl ⟨by rfl, ?_⟩) hS ?_
              rotate_left
              · intro W hW
                go_simp
                try with_reducible rfl
              try simp only [Act.put, List.setIfInBounds_toArray, List.set_cons_zero, List.set_cons_succ]
              refine take_d (i := 12) (d := some 91) (v := ?_) rfl rfl (by kernel_rfl) (by kernel_rfl) (by kernel_rfl) (fun _ _ _ h => h) (.inl ⟨by rfl, ?_⟩) hS ?_
              rotate_left
              · intro W hW
                go_simp
                try with_reducible rfl
              try simp only [Act.put, List.setIfInBounds_toArray, List.set_cons_zero, List.set_cons_succ]
              refine take_d (i := 13) (d := some 92) (v := ?_) rfl rfl (by kernel_rfl) (by kernel_rfl) (by kernel_rfl) (fun _ _ _ h => h) (.inl ⟨by rfl, ?_⟩) hS ?_
              rotate_left
              · intro W hW
                go_simp
                try with_reducible rfl
              try simp only [Act.put, List.setIfInBounds_toArray, List.set_cons_zero, List.set_cons_succ]
              refine take_d (i := 14) (d := some 93) (v := ?_) rfl rfl (by kernel_rfl) (by kernel_rfl) (by kernel_rfl) (fun _ _ _ h => h) (.inl ⟨by rfl, ?_⟩) hS ?_
              rotate_left
              · intro W hW
                go_simp
                try with_reducible rfl
              try simp only [Act.put, List.setIfInBounds_toArray, List.set_cons_zero, List.set_cons_succ]
              refine take_d (i := 15) (d := some 94) (v := ?_) rfl rfl (by kernel_rfl) (by kernel_rfl) (by kernel_rfl) (fun _ _ _ h => h) (.inl ⟨by rfl, ?_⟩) hS ?_
              rotate_left
              · intro W hW
                go_simp
                try with_reducible rfl
              try simp only [Act.put, List.setIfInBounds_toArray, List.set_cons_zero, List.set_cons_succ]
              refine take_d (i := 16) (d := some 95) (v := .string (strOfNums n.nextB)) rfl rfl (by kernel_rfl) (by kernel_rfl) (by kernel_rfl) (fun _ _ _ h => h) (y_conv (by kernel_rfl) rfl rfl (fun W hW => hW.p)) hS ?_
              try simp only [Act.put, List.setIfInBounds_toArray, List.set_cons_zero, List.set_cons_succ]
              refine take_d (i := 17) (d := some 96) (v := ?_) rfl rfl (by kernel_rfl) (by kernel_rfl) (by kernel_rfl) (fun _ _ _ h => h) (.inl ⟨by rfl, ?_⟩) hS ?_
              rotate_left
              · intro W hW
                go_simp
                try with_reducible rfl
              try simp only [Act.put, List.setIfInBounds_toArray, List.set_cons_zero, List.set_cons_succ]
              refine take_d (i := 18) (d := some 97) (v := ?_) rfl rfl (by kernel_rfl) (by kernel_rfl) (by kernel_rfl) (fun _ _ _ h => h) (.inl ⟨by rfl, ?_⟩) hS ?_
              rotate_left
              · intro W hW
                go_simp
                try with_reducible rfl
              try simp only [Act.put, List.setIfInBounds_toArray, List.set_cons_zero, List.set_cons_succ]
              refine take_d (i := 19) (d := some 98) (v := .pointer (some (a2.add n.tk))) rfl rfl (by kernel_rfl) (by kernel_rfl) (by kernel_rfl) (fun _ _ _ h => h) (.inl ⟨by rfl, fun W hW => by have q := hi2; go_simp⟩) hS ?_
              try simp only [Act.put, List.setIfInBounds_toArray, List.set_cons_zero, List.set_cons_succ]
              refine take_d (i := 20) (d := some 99) (v := .slice ou n.nextB.length cu) rfl rfl (by kernel_rfl) (by kernel_rfl) (by kernel_rfl) (fun _ _ _ h => h) (.inl ⟨by rfl, fun W hW => by have q := hW.c; go_simp⟩) hS ?_
              try simp only [Act.put, List.setIfInBounds_toArray, List.set_cons_zero, List.set_cons_succ]
              refine take_d (i := 21) (d := some 100) (v := .string (strOfNums n.nextB)) rfl rfl (by kernel_rfl) (by kernel_rfl) (by kernel_rfl) (fun _ _ _ h => h) (y_conv (by kernel_rfl) rfl rfl (fun W hW => hW.u)) hS ?_
              try simp only [Act.put, List.setIfInBounds_toArray, List.set_cons_zero, List.set_cons_succ]
              refine take_d (i := 22) (d := some 101) (v := ?_) rfl rfl (by kernel_rfl) (by kernel_rfl) (by kernel_rfl) (fun _ _ _ h => h) (.inl ⟨by rfl, ?_⟩) hS ?_
              rotate_left
              · intro W hW
                have q := HStr.out
                go_simp
                try with_reducible rfl
              try simp only [Act.put, List.setIfInBounds_toArray, List.set_cons_zero, List.set_cons_succ]
              refine take_d (i := 23) (d := some 102) (v := ?_) rfl rfl (by kernel_rfl) (by kernel_rfl) (by kernel_rfl) (fun _ _ _ h => h) (.inl ⟨by rfl, ?_⟩) hS ?_
              rotate_left
              · intro W hW
                go_simp
                try with_reducible rfl
              try simp only [Act.put, List.setIfInBounds_toArray, List.set_cons_zero, List.set_cons_succ]
              refine take_d (i := 24) (d := some 103) (v := ?_) rfl rfl (by kernel_rfl) (by kernel_rfl) (by kernel_rfl) (fun _ _ _ h => h) (.inl ⟨by rfl, ?_⟩) hS ?_
              rotate_left
              · intro W hW
                go_simp
                try with_reducible rfl
              try simp only [Act.put, List.setIfInBounds_toArray, List.set_cons_zero, List.set_cons_succ]
              refine take_d (i := 25) (d := some 104) (v := ?_) rfl rfl (by kernel_rfl) (by kernel_rfl) (by kernel_rfl) (fun _ _ _ h => h) (.inl ⟨by rfl, ?_⟩) hS ?_
              rotate_left
              · intro W hW
                go_simp
                try with_reducible rfl
              try simp only [Act.put, List.setIfInBounds_toArray, List.set_cons_zero, List.set_cons_succ]
              refine take_d (i := 26) (d := some 105) (v := ?_) rfl rfl (by kernel_rfl) (by kernel_rfl) (by kernel_rfl) (fun _ _ _ h => h) (.inl ⟨by rfl, ?_⟩) hS ?_
              rotate_left
              · intro W hW
                go_simp
                try with_reducible rfl
              try simp only [Act.put, List.setIfInBounds_toArray, List.set_cons_zero, List.set_cons_succ]
              refine take_d (i := 27) (d := some 106) (v := ?_) rfl rfl (by kernel_rfl) (by kernel_rfl) (by kernel_rfl) (fun _ _ _ h => h) (.inl ⟨by rfl, ?_⟩) hS ?_
              rotate_left
              · intro W hW
                go_simp
                try with_reducible rfl
              try simp only [Act.put, List.setIfInBounds_toArray, List.set_cons_zero, List.set_cons_succ]
              refine take_d (i := 28) (d := some 107) (v := ?_) rfl rfl (by kernel_rfl) (by kernel_rfl) (by kernel_rfl) (fun _ _ _ h => h) (.inl ⟨by rfl, ?_⟩) hS ?_
              rotate_left
              · intro W hW
                go_simp
                try with_reducible rfl
              try simp only [Act.put, List.setIfInBounds_toArray, List.set_cons_zero, List.set_cons_succ]
              refine take_d (i := 29) (d := some 108) (v := ?_) rfl rfl (by kernel_rfl) (by kernel_rfl) (by kernel_rfl) (fun _ _ _ h => h) (.inl ⟨by rfl, ?_⟩) hS ?_
              rotate_left
              · intro W hW
                go_simp
                try with_reducible rfl
              try simp only [Act.put, List.setIfInBounds_toArray, List.set_cons_zero, List.set_cons_succ]
              refine wpAnyH_done (by kernel_rfl) ?_ _
              have HW := Lib.hid HE
              have c3 := hS.c
              clear hS hK0 HK HTk HQ HNU HU HO2 HE
              go_wp2
              go_roundw
              case rel =>
                refine ⟨k + 1, by omega, ?_, ?_, ?_, by go_num, ?_⟩
                · rw [show plN (xs.take (k + 1)) = _ from HS.out, show n.took.cm = _ from HCM.out]
                · rw [show plN (xs.take (k + 1)) = _ from HS.out, show n.took.tk = _ from HTK.out]; go_num
                · rw [show plN (xs.take (k + 1)) = _ from HS.out, show n.took.cm = _ from HCM.out, show n.took.tk = _ from HTK.out, show tot (n.cm.take (n.tk + 1)) = _ from HTN.out]; go_num
                · rw [show plN (xs.take (k + 1)) = _ from HS.out, show n.took.cm = _ from HCM.out]; exact HW.out
              case measure => simp [intOf]; omega
            · obtain ⟨y1, y2, y3⟩ := took_no hy
              have hi2 : ¬ (n.tk : Int) < (n.cm.length : Int) := by omega
              have HTk := Lib.hid (Take_any HO2.out.at_ HOK.out)
              rw [y2] at HTk ⊢
              rw [y3]
              rw [y1] at HTk HS
              clear hc2 y1 y2 y3 HO c1
              go_wp2
              have hK0 := HO2.out.below
              refine wp_region_held_drew (S := fun W => Below w.heap.size w W) (by kernel_rfl) hK0 (fun _ => ?_)
              have hS := hK0
              refine take_d (i := 0) (d := some 79) (v := ?_) rfl rfl (by kernel_rfl) (by kernel_rfl) (by kernel_rfl) (fun _ _ _ h => h) (.inl ⟨by rfl, ?_⟩) hS ?_
              rotate_left
              · intro W hW
                go_simp
                try with_reducible rfl
              try simp only [Act.put, List.setIfInBounds_toArray, List.set_cons_zero, List.set_cons_succ]
              refine take_d (i := 1) (d := some 80) (v := ?_) rfl rfl (by kernel_rfl) (by kernel_rfl) (by kernel_rfl) (fun _ _ _ h => h) (.inl ⟨by rfl, ?_⟩) hS ?_
              rotate_left
              · intro W hW
                go_simp
                try with_reducible rfl
              try simp only [Act.put, List.setIfInBounds_toArray, List.set_cons_zero, List.set_cons_succ]
              refine wpAnyH_all (rs := [2]) (by kernel_rfl) (by simp) (fun i hi => ?_)
              simp only [List.mem_cons, List.not_mem_nil, or_false] at hi
              subst hi
              refine .inl ?_
              go_simp
              refine (HTk.out).mono ?_
              rintro e wc ⟨rfl, hc3⟩
              have HE := HO2.out.chg hc3
              clear hc3
              have hS : Below w.heap.size w wc := by obtain ⟨_, _, hE⟩ := HE; exact hE.below
              refine ⟨hS, ?_⟩
              try simp only [Act.put, List.setIfInBounds_toArray, List.set_cons_zero, List.set_cons_succ]
              refine take_d (i := 3) (d := some 82) (v := ?_) rfl rfl (by kernel_rfl) (by kernel_rfl) (by kernel_rfl) (fun _ _ _ h => h) (.inl ⟨by rfl, ?_⟩) hS ?_
              rotate_left
              · intro W hW
                go_simp
                try with_reducible rfl
              try simp only [Act.put, List.setIfInBounds_toArray, List.set_cons_zero, List.set_cons_succ]
              refine take_d (i := 4) (d := some 83) (v := ?_) rfl rfl (by kernel_rfl) (by kernel_rfl) (by kernel_rfl) (fun _ _ _ h => h) (.inl ⟨by rfl, ?_⟩) hS ?_
              rotate_left
              · intro W hW
                go_simp
                try with_reducible rfl
              try simp only [Act.put, List.setIfInBounds_toArray, List.set_cons_zero, List.set_cons_succ]
              refine take_d (i := 5) (d := some 84) (v := ?_) rfl rfl (by kernel_rfl) (by kernel_rfl) (by kernel_rfl) (fun _ _ _ h => h) (.inl ⟨by rfl, ?_⟩) hS ?_
              rotate_left
              · intro W hW
                go_simp
                try with_reducible rfl
              try simp only [Act.put, List.setIfInBounds_toArray, List.set_cons_zero, List.set_cons_succ]
              refine take_d (i := 6) (d := some 85) (v := ?_) rfl rfl (by kernel_rfl) (by kernel_rfl) (by kernel_rfl) (fun _ _ _ h => h) (.inl ⟨by rfl, ?_⟩) hS ?_
              rotate_left
              · intro W hW
                go_simp
                try with_reducible rfl
              try simp only [Act.put, List.setIfInBounds_toArray, List.set_cons_zero, List.set_cons_succ]
              refine take_d (i := 7) (d := some 86) (v := ?_) rfl rfl (by kernel_rfl) (by kernel_rfl) (by kernel_rfl) (fun _ _ _ h => h) (.inl ⟨by rfl, ?_⟩) hS ?_
              rotate_left
              · intro W hW
                go_simp
                try with_reducible rfl
              try simp only [Act.put, List.setIfInBounds_toArray, List.set_cons_zero, List.set_cons_succ]
              refine take_d (i := 8) (d := some 87) (v := ?_) rfl rfl (by kernel_rfl) (by kernel_rfl) (by kernel_rfl) (fun _ _ _ h => h) (.inl ⟨by rfl, ?_⟩) hS ?_
              rotate_left
              · intro W hW
                go_simp
                try with_reducible rfl
              try simp only [Act.put, List.setIfInBounds_toArray, List.set_cons_zero, List.set_cons_succ]
              refine take_d (i := 9) (d := some 88) (v := ?_) rfl rfl (by kernel_rfl) (by kernel_rfl) (by kernel_rfl) (fun _ _ _ h => h) (.inl ⟨by rfl, ?_⟩) hS ?_
              rotate_left
              · intro W hW
                have q := hi2
                go_simp
                try with_reducible rfl
              try simp only [Act.put, List.setIfInBounds_toArray, List.set_cons_zero, List.set_cons_succ]
              refine take_d (i := 10) (d := some 89) (v := ?_) rfl rfl (by kernel_rfl) (by kernel_rfl) (by kernel_rfl) (fun _ _ _ h => h) (.inl ⟨by rfl, ?_⟩) hS ?_
              rotate_left
              · intro W hW
                go_simp
                try with_reducible rfl
              try simp only [Act.put, List.setIfInBounds_toArray, List.set_cons_zero, List.set_cons_succ]
              refine take_d (i := 11) (d := some 90) (v := ?_) rfl rfl (by kernel_rfl) (by kernel_rfl) (by kernel_rfl) (fun _ _ _ h => h) (.inl ⟨by rfl, ?_⟩) hS ?_
              rotate_left
              · intro W hW
                go_simp
                try with_reducible rfl
              try simp only [Act.put, List.setIfInBounds_toArray, List.set_cons_zero, List.set_cons_succ]
              refine take_d (i := 12) (d := some 91) (v := ?_) rfl rfl (by kernel_rfl) (by kernel_rfl) (by kernel_rfl) (fun _ _ _ h => h) (.inl ⟨by rfl, ?_⟩) hS ?_
              rotate_left
              · intro W hW
                go_simp
                try with_reducible rfl
              try simp only [Act.put, List.setIfInBounds_toArray, List.set_cons_zero, List.set_cons_succ]
              refine take_d (i := 13) (d := some 92) (v := ?_) rfl rfl (by kernel_rfl) (by kernel_rfl) (by kernel_rfl) (fun _ _ _ h => h) (.inl ⟨by rfl, ?_⟩) hS ?_
              rotate_left
              · intro W hW
                go_simp
                try with_reducible rfl
              try simp only [Act.put, List.setIfInBounds_toArray, List.set_cons_zero, List.set_cons_succ]
              refine take_d (i := 14) (d := some 93) (v := ?_) rfl rfl (by kernel_rfl) (by kernel_rfl) (by kernel_rfl) (fun _ _ _ h => h) (.inl ⟨by rfl, ?_⟩) hS ?_
              rotate_left
              · intro W hW
                go_simp
                try with_reducible rfl
              try simp only [Act.put, List.setIfInBounds_toArray, List.set_cons_zero, List.set_cons_succ]
              refine take_d (i := 15) (d := some 94) (v := undef) rfl rfl (by kernel_rfl) (by kernel_rfl) (by kernel_rfl) (fun _ _ _ h => h) (.inr ⟨by kernel_rfl, rfl⟩) hS ?_
              try simp only [Act.put, List.setIfInBounds_toArray, List.set_cons_zero, List.set_cons_succ]
              refine take_d (i := 16) (d := some 95) (v := undef) rfl rfl (by kernel_rfl) (by kernel_rfl) (by kernel_rfl) (fun _ _ _ h => h) (.inr ⟨by kernel_rfl, rfl⟩) hS ?_
              try simp only [Act.put, List.setIfInBounds_toArray, List.set_cons_zero, List.set_cons_succ]
              refine take_d (i := 17) (d := some 96) (v := undef) rfl rfl (by kernel_rfl) (by kernel_rfl) (by kernel_rfl) (fun _ _ _ h => h) (.inr ⟨by kernel_rfl, rfl⟩) hS ?_
              try simp only [Act.put, List.setIfInBounds_toArray, List.set_cons_zero, List.set_cons_succ]
              refine take_d (i := 18) (d := some 97) (v := undef) rfl rfl (by kernel_rfl) (by kernel_rfl) (by kernel_rfl) (fun _ _ _ h => h) (.inr ⟨by kernel_rfl, rfl⟩) hS ?_
              try simp only [Act.put, List.setIfInBounds_toArray, List.set_cons_zero, List.set_cons_succ]
              refine take_d (i := 19) (d := some 98) (v := undef) rfl rfl (by kernel_rfl) (by kernel_rfl) (by kernel_rfl) (fun _ _ _ h => h) (.inr ⟨by kernel_rfl, rfl⟩) hS ?_
              try simp only [Act.put, List.setIfInBounds_toArray, List.set_cons_zero, List.set_cons_succ]
              refine take_d (i := 20) (d := some 99) (v := undef) rfl rfl (by kernel_rfl) (by kernel_rfl) (by kernel_rfl) (fun _ _ _ h => h) (.inr ⟨by kernel_rfl, rfl⟩) hS ?_
              try simp only [Act.put, List.setIfInBounds_toArray, List.set_cons_zero, List.set_cons_succ]
              refine take_d (i := 21) (d := some 100) (v := undef) rfl rfl (by kernel_rfl) (by kernel_rfl) (by kernel_rfl) (fun _ _ _ h => h) (.inr ⟨by kernel_rfl, rfl⟩) hS ?_
              try simp only [Act.put, List.setIfInBounds_toArray, List.set_cons_zero, List.set_cons_succ]
              refine take_d (i := 22) (d := some 101) (v := undef) rfl rfl (by kernel_rfl) (by kernel_rfl) (by kernel_rfl) (fun _ _ _ h => h) (.inr ⟨by kernel_rfl, rfl⟩) hS ?_
              try simp only [Act.put, List.setIfInBounds_toArray, List.set_cons_zero, List.set_cons_succ]
              refine take_d (i := 23) (d := some 102) (v := undef) rfl rfl (by kernel_rfl) (by kernel_rfl) (by kernel_rfl) (fun _ _ _ h => h) (.inr ⟨by kernel_rfl, rfl⟩) hS ?_
              try simp only [Act.put, List.setIfInBounds_toArray, List.set_cons_zero, List.set_cons_succ]
              refine take_d (i := 24) (d := some 103) (v := undef) rfl rfl (by kernel_rfl) (by kernel_rfl) (by kernel_rfl) (fun _ _ _ h => h) (.inr ⟨by kernel_rfl, rfl⟩) hS ?_
              try simp only [Act.put, List.setIfInBounds_toArray, List.set_cons_zero, List.set_cons_succ]
              refine take_d (i := 25) (d := some 104) (v := undef) rfl rfl (by kernel_rfl) (by kernel_rfl) (by kernel_rfl) (fun _ _ _ h => h) (.inr ⟨by kernel_rfl, rfl⟩) hS ?_
              try simp only [Act.put, List.setIfInBounds_toArray, List.set_cons_zero, List.set_cons_succ]
              refine take_d (i := 26) (d := some 105) (v := undef) rfl rfl (by kernel_rfl) (by kernel_rfl) (by kernel_rfl) (fun _ _ _ h => h) (.inr ⟨by kernel_rfl, rfl⟩) hS ?_
              try simp only [Act.put, List.setIfInBounds_toArray, List.set_cons_zero, List.set_cons_succ]
              refine take_d (i := 27) (d := some 106) (v := undef) rfl rfl (by kernel_rfl) (by kernel_rfl) (by kernel_rfl) (fun _ _ _ h => h) (.inr ⟨by kernel_rfl, rfl⟩) hS ?_
              try simp only [Act.put, List.setIfInBounds_toArray, List.set_cons_zero, List.set_cons_succ]
              refine take_d (i := 28) (d := some 107) (v := ?_) rfl rfl (by kernel_rfl) (by kernel_rfl) (by kernel_rfl) (fun _ _ _ h => h) (.inl ⟨by rfl, ?_⟩) hS ?_
              rotate_left
              · intro W hW
                go_simp
                try with_reducible rfl
              try simp only [Act.put, List.setIfInBounds_toArray, List.set_cons_zero, List.set_cons_succ]
              refine take_d (i := 29) (d := some 108) (v := ?_) rfl rfl (by kernel_rfl) (by kernel_rfl) (by kernel_rfl) (fun _ _ _ h => h) (.inl ⟨by rfl, ?_⟩) hS ?_
              rotate_left
              · intro W hW
                go_simp
                try with_reducible rfl
              try simp only [Act.put, List.setIfInBounds_toArray, List.set_cons_zero, List.set_cons_succ]
              refine wpAnyH_done (by kernel_rfl) ?_ _
              have HW := Lib.hid HE
              clear hS hK0 HTk HO2 HE
              go_wp2
              go_roundw
              case rel => exact ⟨k + 1, by omega, by rw [show plN (xs.take (k + 1)) = _ from HS.out], by rw [show plN (xs.take (k + 1)) = _ from HS.out], by rw [show plN (xs.take (k + 1)) = _ from HS.out], by go_num, by rw [show plN (xs.take (k + 1)) = _ from HS.out]; exact HW.out⟩
              case measure => simp [intOf]; omega
          · have c2 := (H6.out.below hO.below).b
            clear hO
            rw [nact2 hk0 hk1] at HS
            go_wp2_with fail
            refine (Send_any HO.out.at_ HOK.out (by have := HSZ.out; omega) _ s.b (H6.out.nb.below HO.out.below)).mono ?_
            rintro e w2 ⟨rfl, hc2⟩
            have HE := HO.out.chg hc2
            have hq := sent_cm n s.b
            have HCM := Lib.hid hq.1
            have HTK := Lib.hid hq.2
            have HW := Lib.hid HE
            clear hc2 c1 c2 HO HE hq
            go_wp2
            go_roundw
            case rel =>
              refine ⟨k + 1, by omega, ?_, ?_, ?_, by go_num, ?_⟩
              · rw [show plN (xs.take (k + 1)) = _ from HS.out, show (n.sent s.b).cm = _ from HCM.out]
              · rw [show plN (xs.take (k + 1)) = _ from HS.out, show (n.sent s.b).tk = _ from HTK.out]
              · rw [show plN (xs.take (k + 1)) = _ from HS.out, show (n.sent s.b).cm = _ from HCM.out, show (n.sent s.b).tk = _ from HTK.out]
              · rw [show plN (xs.take (k + 1)) = _ from HS.out, show (n.sent s.b).cm = _ from HCM.out]; exact HW.out
            case measure => simp [intOf]; omega
      · obtain rfl : k = xs.length := by omega
        have hlt' : ¬ ((xs.length : Nat) : Int) < (xs.length : Int) := by omega
        have HOK := Lib.hid (plN_ok (xs.take xs.length))
        have hsz : (plN (xs.take xs.length)).sz ≤ 500 := by have := plN_sz (xs.take xs.length); simp at this; simpa using (by omega : (plN xs).sz ≤ 500)
        generalize plN (xs.take xs.length) = n at *
        unfold Nt.sz at hsz
        have hcl5 : n.cm.length ≤ 500 := by omega
        have hnt : n.tk ≤ 500 := by have := HOK.out.tk; omega
        have hntl := HOK.out.tk
        obtain ⟨F, cs, hO⟩ := HP.out
        have HO := Lib.hid hO
        obtain ⟨ao, ci, rfl, -, -⟩ := hO.g.shape
        clear hO HP HA hsz
        go_wp2_with fail
        refine (Waits_any HO.out.at_).mono ?_
        rintro e w2 ⟨rfl, rfl⟩
        rw [show ((n.wt.length : Nat) : Int) = (n.cm.length : Int) - (n.tk : Int) from by have := HOK.out.wt_len; omega]
        have hwr : IntKind.i64.wrap ((n.cm.length : Int) - (n.tk : Int)) = (n.cm.length : Int) - (n.tk : Int) := by rw [IntKind.wrap_i64]; omega
        go_wp2_with fail
        refine (works_any _).mono ?_
        rintro e w8 ⟨rfl, hb⟩
        have H8 := Lib.hid (HO.out.below.trans (hb.mono HO.out.below.size))
        clear hb HO
        go_wp2
        go_ret
        exact ⟨rfl, H8.out⟩
end Go.Proofs.Ytepimbebodmajaa

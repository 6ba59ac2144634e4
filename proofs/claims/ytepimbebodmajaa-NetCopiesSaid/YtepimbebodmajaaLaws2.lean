/-
  Layer 9: the walks of NetPushes, NetOne. Written by gen_laws2.py.
-/
import Derived.Test.YtepimbebodmajaaLaws1
namespace Go.Proofs.Ytepimbebodmajaa
open Go.RowKit
set_option maxHeartbeats 16000000
set_option linter.unusedVariables false
set_option linter.unusedSimpArgs false

theorem PlRE.of {w W : World} {S B : Nat} {n : Nt} {cv sv : Value} {cl sl : List Pk} {F : Nat → Prop} (h : Pl w S B n cv sv cl sl F W) (hS : w.heap.size ≤ S ∧ S < B) : PlR w n cv sv cl sl F S W := ⟨h.at_, h.r, h.sep, fun k hk => by rcases h.loF k hk with e | e <;> omega, h.below⟩
theorem PlR.after {w W W' : World} {S : Nat} {n : Nt} {cv sv : Value} {cl sl : List Pk} {F : Nat → Prop} (h : PlR w n cv sv cl sl F S W) (hb : Below W.heap.size W W') : PlR w n cv sv cl sl F S W' := ⟨h.at_.below hb, h.r.below hb, h.sep, h.loF, h.below.trans (hb.mono h.below.size)⟩
theorem PlR.ab {w W : World} {S : Nat} {n : Nt} {cv sv : Value} {cl sl : List Pk} {F : Nat → Prop} (h : PlR w n cv sv cl sl F S W) (hok : n.Ok) (hsz : n.sz ≤ 80000) : AB W S n cv sv cl sl F := ⟨h.at_, h.r, h.sep, hok, hsz⟩
theorem PlR.act {w W W' : World} {S : Nat} {n n' : Nt} {cv sv pv : Value} {cl sl : List Pk} {F : Nat → Prop} {c' : Array Value} (h : PlR w n cv sv cl sl F S W) (hc : ActC W S n' F (rvG cv sv cl sl) pv c' W') : PlRE w n' S c' W' := by
  obtain ⟨F', G', hp⟩ := hc
  obtain ⟨cv2, sv2, cl2, sl2, rfl, rfl, hr2⟩ := hp.rv
  exact ⟨cv2, sv2, cl2, sl2, F', rfl, hp.at_, hr2, hp.sep, fun k hk => by
    rcases hp.fF k hk with e | e
    · exact h.loF k e
    · have := h.below.size; omega, h.below.trans (hp.t.below h.below.size h.loF)⟩
/-! ### NetPushes -/
def puN (xs : List (List Int)) (k : Nat) : Nt := ((List.range k).foldl (fun n i => (n.act ⟨0, xs[i]?.getD []⟩).act ⟨2, xs[xs.length - 1 - i]?.getD []⟩) N0)
theorem puN_succ (xs : List (List Int)) (k : Nat) : puN xs (k + 1) = ((puN xs k).act ⟨0, xs[k]?.getD []⟩).act ⟨2, xs[xs.length - 1 - k]?.getD []⟩ := by
  unfold puN; rw [List.range_succ, List.foldl_append]; rfl
theorem puN_ok (xs : List (List Int)) : ∀ k, (puN xs k).Ok ∧ (puN xs k).sz ≤ 2 * k
  | 0 => ⟨ok_N0, by simp [puN, N0, Nt.sz]⟩
  | k + 1 => by
    have h := puN_ok xs k
    rw [puN_succ]
    refine ⟨(h.1.act _).act _, ?_⟩
    have h1 := (puN xs k).sz_act ⟨0, xs[k]?.getD []⟩
    have h2 := ((puN xs k).act ⟨0, xs[k]?.getD []⟩).sz_act ⟨2, xs[xs.length - 1 - k]?.getD []⟩
    omega
theorem BysIn.ats {w : World} {v : Value} {xs : List (List Int)} (h : BysIn w v xs) {i : Nat} (hi : i < xs.length) : ∃ (a : Addr) (c : Nat) (o : Option Addr) (m : Nat), v = .slice (some a) xs.length c ∧ w.cell? (a.add i) = some (.slice o (xs[i]?.getD []).length m) ∧ NumsIn .u8 w (.slice o (xs[i]?.getD []).length m) (xs[i]?.getD []) ∧ (xs[i]?.getD []).length ≤ 140737488355328 := by
  obtain ⟨o, c, rfl, _, _, hat⟩ := h.form
  obtain ⟨a, s, bv, rfl, hs, hc, hn, hl⟩ := hat i hi
  obtain ⟨o2, c2, rfl, -⟩ := hn.form
  rw [hs]
  exact ⟨a, c, o2, c2, rfl, hc, hn, hl⟩
set_option maxRecDepth 100000 in
theorem NetPushes_walk (v : Value) (xs : List (List Int)) (w : World) (h : BysIn w v xs) : Calls Try.prog 4 #[v] w fun e w' => e = .returned (.bool true) ∧ Below w.heap.size w w' := by
  have HA := Lib.hid (fun (i : Nat) (hi : i < xs.length) => h.ats hi)
  obtain ⟨o, cc, rfl, hc, hm, -⟩ := h.form
  unfold maxLen at hm
  clear h
  by_cases hlen : (100 : Int) < xs.length
  · go_enter Try.func4, Try.ntmps4
    go_wp2_with (go_at_call 10; refine (works_any _).mono ?_; rintro e w' ⟨rfl, hb⟩)
    go_ret
    exact ⟨rfl, hb⟩
  · have hx100 : xs.length ≤ 100 := by omega
    have H0 : Hid (PlE w w.heap.size (w.heap.size + 1) N0 ((w.alloc (.cells (ncL N0 (.slice none 0 0) (.slice none 0 0)) 61)).alloc (.cells zR 28))) := ⟨_, _, _, _, _, pl_start w (Below.refl _ _)⟩
    go_enter Try.func4, Try.ntmps4
    go_wp2_with fail
    refine (New_any _).mono ?_
    rintro e w1 ⟨rfl, rfl⟩
    go_wp2_with fail
    show Code.wp Try.prog _ _ _ ((w.alloc (.cells (ncL N0 (.slice none 0 0) (.slice none 0 0)) 61)).alloc (.cells zR 28))
    generalize (w.alloc (.cells (ncL N0 (.slice none 0 0) (.slice none 0 0)) 61)).alloc (.cells zR 28) = W0 at H0 ⊢
    go_loopw [5, 6] (fun f q wr => ∃ k : Nat, k ≤ xs.length ∧ f = .bool true ∧ q = .int .i64 (k : Int) ∧ Hid (PlE w w.heap.size (w.heap.size + 1) (puN xs k) wr)) (fun _ q _ => xs.length + 1 - (intOf q).toNat)
    case atStart => exact ⟨0, by omega, rfl, rfl, H0.out⟩
    case round =>
      obtain ⟨k, hk, rfl, rfl, HP⟩ := hrel
      by_cases hlt : k < xs.length
      · have hi : (k : Int) < (xs.length : Int) := by omega
        obtain ⟨a, c2, o1, m1, e1, hc1, hn1, hl1⟩ := HA.out k hlt
        obtain ⟨a', c3, o2, m2, e2, hc2, hn2, hl2⟩ := HA.out (xs.length - 1 - k) (by omega)
        simp at e1
        obtain ⟨rfl, rfl⟩ := e1
        simp at e2
        obtain ⟨rfl, rfl⟩ := e2
        have hpk := puN_ok xs k
        have HS := Lib.hid (puN_succ xs k)
        have HOK := Lib.hid hpk.1
        have HSZ : Hid ((puN xs k).sz ≤ 1000) := by show _ ≤ _; omega
        generalize xs[k]?.getD [] = x1 at *
        generalize xs[xs.length - 1 - k]?.getD [] = x2 at *
        generalize puN xs k = n at *
        have hcw := cell_below hc1 (Below.mono HP.out.below (Nat.le_refl _))
        have HC1 := Lib.hid hc1
        have HC2 := Lib.hid hc2
        have HN1 := Lib.hid hn1
        have HN2 := Lib.hid hn2
        have HL1 := Lib.hid hl1
        have HL2 := Lib.hid hl2
        clear hc1 hc2 hn1 hn2 hl1 hl2 H0 HA hpk
        by_cases hbig : (200 : Int) < x1.length
        · go_wp2_with fail
          refine (works_any _).mono ?_
          rintro e w7 ⟨rfl, hb⟩
          have H7 := Lib.hid (HP.out.after hb)
          clear hb HP
          go_wp2
          go_ret
          exact ⟨rfl, H7.out.below⟩
        · obtain ⟨cv, sv, cl, sl, F, hP⟩ := HP.out
          have hd := hP.after (Below.refl _ _).drew
          have HD := Lib.hid hd
          have HAct := Lib.hid (act_any (hd.ab HOK.out (by have := HSZ.out; omega)) ⟨0, x1⟩ _ (HN1.out.below hd.below) HL1.out (fun k hk hF => by have := HN1.out.lt hk; rcases hd.loF k hF with e | e <;> omega))
          have HK := Lib.hid (show wr.drew.cell? (a.add k) = some (.slice o1 x1.length m1) from hcw)
          have HB1 := Lib.hid (show ∀ k, rdBlk (.slice o1 x1.length m1) = some k → k < w.heap.size ∨ w.heap.size + 1 + 1 ≤ k from fun k hk => .inl (HN1.out.lt hk))
          have HB2 := Lib.hid (show ∀ k, rdBlk (.slice o2 x2.length m2) = some k → k < w.heap.size ∨ w.heap.size + 1 + 1 ≤ k from fun k hk => .inl (HN2.out.lt hk))
          clear hP hd HP
          go_wp2
          have hK0 := HK.out
          refine wp_region_held_drew (S := fun W => W.cell? (a.add k) = some (.slice o1 x1.length m1)) (by kernel_rfl) hK0 (fun _ => ?_)
          have hS := hK0
          refine take_d (i := 0) (d := some 30) (v := ?_) rfl rfl (by kernel_rfl) (by kernel_rfl) (by kernel_rfl) (fun _ _ _ h => h) (.inl ⟨by rfl, ?_⟩) hS ?_
          rotate_left
          · intro W hW
            go_simp
            try with_reducible rfl
          try simp only [Act.put, List.setIfInBounds_toArray, List.set_cons_zero, List.set_cons_succ]
          refine take_d (i := 2) (d := some 32) (v := ?_) rfl rfl (by kernel_rfl) (by kernel_rfl) (by kernel_rfl) (fun _ _ _ h => h) (.inl ⟨by rfl, ?_⟩) hS ?_
          rotate_left
          · intro W hW
            go_simp
            try with_reducible rfl
          try simp only [Act.put, List.setIfInBounds_toArray, List.set_cons_zero, List.set_cons_succ]
          refine take_d (i := 3) (d := some 33) (v := ?_) rfl rfl (by kernel_rfl) (by kernel_rfl) (by kernel_rfl) (fun _ _ _ h => h) (.inl ⟨by rfl, ?_⟩) hS ?_
          rotate_left
          · intro W hW
            go_simp
            try with_reducible rfl
          try simp only [Act.put, List.setIfInBounds_toArray, List.set_cons_zero, List.set_cons_succ]
          refine take_d (i := 4) (d := some 34) (v := .pointer (some (a.add k))) rfl rfl (by kernel_rfl) (by kernel_rfl) (by kernel_rfl) (fun _ _ _ h => h) (.inl ⟨by rfl, fun W hW => by have q := hi; go_simp⟩) hS ?_
          try simp only [Act.put, List.setIfInBounds_toArray, List.set_cons_zero, List.set_cons_succ]
          refine take_d (i := 5) (d := some 35) (v := .slice o1 x1.length m1) rfl rfl (by kernel_rfl) (by kernel_rfl) (by kernel_rfl) (fun _ _ _ h => h) (.inl ⟨by rfl, fun W hW => by have q := hW; go_simp⟩) hS ?_
          try simp only [Act.put, List.setIfInBounds_toArray, List.set_cons_zero, List.set_cons_succ]
          refine take_d (i := 6) (d := some 36) (v := ?_) rfl rfl (by kernel_rfl) (by kernel_rfl) (by kernel_rfl) (fun _ _ _ h => h) (.inl ⟨by rfl, ?_⟩) hS ?_
          rotate_left
          · intro W hW
            go_simp
            try with_reducible rfl
          try simp only [Act.put, List.setIfInBounds_toArray, List.set_cons_zero, List.set_cons_succ]
          refine wpAnyH_all (rs := [1]) (by kernel_rfl) (by simp) (fun i hi => ?_)
          simp only [List.mem_cons, List.not_mem_nil, or_false] at hi
          subst hi
          refine .inl ?_
          refine o_load_R (d := some 31) rfl rowR HD.out.box rfl rfl ?_
          refine ⟨hS, ?_⟩
          try simp only [Act.put, List.setIfInBounds_toArray, List.set_cons_zero, List.set_cons_succ]
          refine wpAnyH_all (rs := [7]) (by kernel_rfl) (by simp) (fun i hi => ?_)
          simp only [List.mem_cons, List.not_mem_nil, or_false] at hi
          subst hi
          refine .inl ?_
          go_simp
          refine (HAct.out).mono ?_
          rintro e wc ⟨c', rfl, hact⟩
          obtain ⟨hbox, hbw, hoc, hp2⟩ := HD.out.step hact ⟨Nat.le_refl _, by omega⟩ HB1.out
          have hS : (fun W => W.cell? (a.add k) = some (.slice o1 x1.length m1)) wc := cell_below HC1.out (Below.mono hbw (Nat.le_refl _))
          clear hact
          refine ⟨hS, ?_⟩
          try simp only [Act.put, List.setIfInBounds_toArray, List.set_cons_zero, List.set_cons_succ]
          refine take_d (i := 8) (d := some 29) (v := ?_) rfl rfl (by kernel_rfl) (by kernel_rfl) (by kernel_rfl) (fun _ _ _ h => h) (.inl ⟨by rfl, ?_⟩) hS ?_
          rotate_left
          · intro W hW
            go_simp
            try with_reducible rfl
          try simp only [Act.put, List.setIfInBounds_toArray, List.set_cons_zero, List.set_cons_succ]
          refine take_d (i := 9) (d := some 38) (v := ?_) rfl rfl (by kernel_rfl) (by kernel_rfl) (by kernel_rfl) (fun _ _ _ h => h) (.inl ⟨by rfl, ?_⟩) hS ?_
          rotate_left
          · intro W hW
            go_simp
            try with_reducible rfl
          try simp only [Act.put, List.setIfInBounds_toArray, List.set_cons_zero, List.set_cons_succ]
          refine take_d (i := 10) (d := some 39) (v := ?_) rfl rfl (by kernel_rfl) (by kernel_rfl) (by kernel_rfl) (fun _ _ _ h => h) (.inl ⟨by rfl, ?_⟩) hS ?_
          rotate_left
          · intro W hW
            go_simp
            try with_reducible rfl
          try simp only [Act.put, List.setIfInBounds_toArray, List.set_cons_zero, List.set_cons_succ]
          refine wpAnyH_all (rs := [11]) (by kernel_rfl) (by simp) (fun i hi => ?_)
          simp only [List.mem_cons, List.not_mem_nil, or_false] at hi
          subst hi
          refine .inl ?_
          refine o_store_R (d := none) rfl c' rowR hbox hoc rfl rfl rfl ?_
          have hS2 : (fun W => W.cell? (a.add k) = some (.slice o1 x1.length m1)) (wc.setRow (w.heap.size + 1) c') := cell_below HC1.out (Below.mono (below_setRow hbw (by omega) _) (Nat.le_refl _))
          refine ⟨hS2, ?_⟩
          have hS := hS2
          try simp only [Act.put, List.setIfInBounds_toArray, List.set_cons_zero, List.set_cons_succ]
          refine take_d (i := 12) (d := some 5) (v := ?_) rfl rfl (by kernel_rfl) (by kernel_rfl) (by kernel_rfl) (fun _ _ _ h => h) (.inl ⟨by rfl, ?_⟩) hS ?_
          rotate_left
          · intro W hW
            go_simp
            try with_reducible rfl
          try simp only [Act.put, List.setIfInBounds_toArray, List.set_cons_zero, List.set_cons_succ]
          refine wpAnyH_done (by kernel_rfl) ?_ _
          have HE := Lib.hid hp2
          have HO2 := Lib.hid (HOK.out.act ⟨0, x1⟩)
          have HZ2 : Hid ((n.act ⟨0, x1⟩).sz ≤ 1001) := by have := n.sz_act ⟨0, x1⟩; have := HSZ.out; show _ ≤ _; omega
          clear hS hK0 HK HAct HD hp2 hcw HOK HSZ
          generalize n.act ⟨0, x1⟩ = n2 at HE HO2 HZ2 HS
          generalize wc.setRow (w.heap.size + 1) c' = wr2 at HE ⊢
          obtain ⟨cv, sv, cl, sl, F, hP⟩ := HE.out
          have hd := hP.after (Below.refl _ _).drew
          have HD := Lib.hid hd
          have HAct := Lib.hid (act_any (hd.ab HO2.out (by have := HZ2.out; omega)) ⟨2, x2⟩ _ (HN2.out.below hd.below) HL2.out (fun k hk hF => by have := HN2.out.lt hk; rcases hd.loF k hF with e | e <;> omega))
          have HK := Lib.hid (show wr2.drew.cell? (a.add (xs.length - 1 - k)) = some (.slice o2 x2.length m2) from cell_below HC2.out (Below.mono hd.below (Nat.le_refl _)))
          have hix : ((xs.length : Int) - 1 - (k : Int)) = ((xs.length - 1 - k : Nat) : Int) := by omega
          have hil : ((xs.length - 1 - k : Nat) : Int) < (xs.length : Int) := by omega
          have HIX : Hid (IntKind.i64.wrap ((xs.length : Int) - 1 - (k : Int)) = ((xs.length - 1 - k : Nat) : Int)) := by show _ = _; rw [IntKind.wrap_i64, hix]; omega
          have HIY : Hid (IntKind.i64.wrap ((xs.length : Int) - 1) = (xs.length : Int) - 1) := by show _ = _; rw [IntKind.wrap_i64]; omega
          have HIL := Lib.hid hil
          clear hP hd HE hix hil
          go_wp2
          have hK0 := HK.out
          refine wp_region_held_drew (S := fun W => W.cell? (a.add (xs.length - 1 - k)) = some (.slice o2 x2.length m2)) (by kernel_rfl) hK0 (fun _ => ?_)
          have hS := hK0
          refine take_d (i := 0) (d := some 42) (v := ?_) rfl rfl (by kernel_rfl) (by kernel_rfl) (by kernel_rfl) (fun _ _ _ h => h) (.inl ⟨by rfl, ?_⟩) hS ?_
          rotate_left
          · intro W hW
            go_simp
            try with_reducible rfl
          try simp only [Act.put, List.setIfInBounds_toArray, List.set_cons_zero, List.set_cons_succ]
          refine take_d (i := 2) (d := some 44) (v := ?_) rfl rfl (by kernel_rfl) (by kernel_rfl) (by kernel_rfl) (fun _ _ _ h => h) (.inl ⟨by rfl, ?_⟩) hS ?_
          rotate_left
          · intro W hW
            go_simp
            try with_reducible rfl
          try simp only [Act.put, List.setIfInBounds_toArray, List.set_cons_zero, List.set_cons_succ]
          refine take_d (i := 3) (d := some 45) (v := ?_) rfl rfl (by kernel_rfl) (by kernel_rfl) (by kernel_rfl) (fun _ _ _ h => h) (.inl ⟨by rfl, ?_⟩) hS ?_
          rotate_left
          · intro W hW
            go_simp
            try with_reducible rfl
          try simp only [Act.put, List.setIfInBounds_toArray, List.set_cons_zero, List.set_cons_succ]
          refine take_d (i := 4) (d := some 46) (v := ?_) rfl rfl (by kernel_rfl) (by kernel_rfl) (by kernel_rfl) (fun _ _ _ h => h) (.inl ⟨by rfl, ?_⟩) hS ?_
          rotate_left
          · intro W hW
            go_simp
            try with_reducible rfl
          try simp only [Act.put, List.setIfInBounds_toArray, List.set_cons_zero, List.set_cons_succ]
          refine take_d (i := 5) (d := some 47) (v := .int .i64 ((xs.length : Int) - 1)) rfl rfl (by kernel_rfl) (by kernel_rfl) (by kernel_rfl) (fun _ _ _ h => h) (.inl ⟨by rfl, fun W hW => by have q := HIY.out; go_simp⟩) hS ?_
          try simp only [Act.put, List.setIfInBounds_toArray, List.set_cons_zero, List.set_cons_succ]
          refine take_d (i := 6) (d := some 48) (v := ?_) rfl rfl (by kernel_rfl) (by kernel_rfl) (by kernel_rfl) (fun _ _ _ h => h) (.inl ⟨by rfl, ?_⟩) hS ?_
          rotate_left
          · intro W hW
            go_simp
            try with_reducible rfl
          try simp only [Act.put, List.setIfInBounds_toArray, List.set_cons_zero, List.set_cons_succ]
          refine take_d (i := 7) (d := some 49) (v := .int .i64 ((xs.length - 1 - k : Nat) : Int)) rfl rfl (by kernel_rfl) (by kernel_rfl) (by kernel_rfl) (fun _ _ _ h => h) (.inl ⟨by rfl, fun W hW => by have q := HIX.out; go_simp⟩) hS ?_
          try simp only [Act.put, List.setIfInBounds_toArray, List.set_cons_zero, List.set_cons_succ]
          refine take_d (i := 8) (d := some 50) (v := .pointer (some (a.add (xs.length - 1 - k)))) rfl rfl (by kernel_rfl) (by kernel_rfl) (by kernel_rfl) (fun _ _ _ h => h) (.inl ⟨by rfl, fun W hW => by have q := HIL.out; go_simp⟩) hS ?_
          try simp only [Act.put, List.setIfInBounds_toArray, List.set_cons_zero, List.set_cons_succ]
          refine take_d (i := 9) (d := some 51) (v := .slice o2 x2.length m2) rfl rfl (by kernel_rfl) (by kernel_rfl) (by kernel_rfl) (fun _ _ _ h => h) (.inl ⟨by rfl, fun W hW => by have q := hW; go_simp⟩) hS ?_
          try simp only [Act.put, List.setIfInBounds_toArray, List.set_cons_zero, List.set_cons_succ]
          refine take_d (i := 10) (d := some 52) (v := ?_) rfl rfl (by kernel_rfl) (by kernel_rfl) (by kernel_rfl) (fun _ _ _ h => h) (.inl ⟨by rfl, ?_⟩) hS ?_
          rotate_left
          · intro W hW
            go_simp
            try with_reducible rfl
          try simp only [Act.put, List.setIfInBounds_toArray, List.set_cons_zero, List.set_cons_succ]
          refine wpAnyH_all (rs := [1]) (by kernel_rfl) (by simp) (fun i hi => ?_)
          simp only [List.mem_cons, List.not_mem_nil, or_false] at hi
          subst hi
          refine .inl ?_
          refine o_load_R (d := some 43) rfl rowR HD.out.box rfl rfl ?_
          refine ⟨hS, ?_⟩
          try simp only [Act.put, List.setIfInBounds_toArray, List.set_cons_zero, List.set_cons_succ]
          refine wpAnyH_all (rs := [11]) (by kernel_rfl) (by simp) (fun i hi => ?_)
          simp only [List.mem_cons, List.not_mem_nil, or_false] at hi
          subst hi
          refine .inl ?_
          go_simp
          refine (HAct.out).mono ?_
          rintro e wc ⟨c', rfl, hact⟩
          obtain ⟨hbox, hbw, hoc, hp2⟩ := HD.out.step hact ⟨Nat.le_refl _, by omega⟩ HB2.out
          have hS : (fun W => W.cell? (a.add (xs.length - 1 - k)) = some (.slice o2 x2.length m2)) wc := cell_below HC2.out (Below.mono hbw (Nat.le_refl _))
          clear hact
          refine ⟨hS, ?_⟩
          try simp only [Act.put, List.setIfInBounds_toArray, List.set_cons_zero, List.set_cons_succ]
          refine take_d (i := 12) (d := some 41) (v := ?_) rfl rfl (by kernel_rfl) (by kernel_rfl) (by kernel_rfl) (fun _ _ _ h => h) (.inl ⟨by rfl, ?_⟩) hS ?_
          rotate_left
          · intro W hW
            go_simp
            try with_reducible rfl
          try simp only [Act.put, List.setIfInBounds_toArray, List.set_cons_zero, List.set_cons_succ]
          refine take_d (i := 13) (d := some 54) (v := ?_) rfl rfl (by kernel_rfl) (by kernel_rfl) (by kernel_rfl) (fun _ _ _ h => h) (.inl ⟨by rfl, ?_⟩) hS ?_
          rotate_left
          · intro W hW
            go_simp
            try with_reducible rfl
          try simp only [Act.put, List.setIfInBounds_toArray, List.set_cons_zero, List.set_cons_succ]
          refine take_d (i := 14) (d := some 55) (v := ?_) rfl rfl (by kernel_rfl) (by kernel_rfl) (by kernel_rfl) (fun _ _ _ h => h) (.inl ⟨by rfl, ?_⟩) hS ?_
          rotate_left
          · intro W hW
            go_simp
            try with_reducible rfl
          try simp only [Act.put, List.setIfInBounds_toArray, List.set_cons_zero, List.set_cons_succ]
          refine wpAnyH_all (rs := [15]) (by kernel_rfl) (by simp) (fun i hi => ?_)
          simp only [List.mem_cons, List.not_mem_nil, or_false] at hi
          subst hi
          refine .inl ?_
          refine o_store_R (d := none) rfl c' rowR hbox hoc rfl rfl rfl ?_
          have hS2 : (fun W => W.cell? (a.add (xs.length - 1 - k)) = some (.slice o2 x2.length m2)) (wc.setRow (w.heap.size + 1) c') := cell_below HC2.out (Below.mono (below_setRow hbw (by omega) _) (Nat.le_refl _))
          refine ⟨hS2, ?_⟩
          have hS := hS2
          try simp only [Act.put, List.setIfInBounds_toArray, List.set_cons_zero, List.set_cons_succ]
          refine take_d (i := 16) (d := some 5) (v := ?_) rfl rfl (by kernel_rfl) (by kernel_rfl) (by kernel_rfl) (fun _ _ _ h => h) (.inl ⟨by rfl, ?_⟩) hS ?_
          rotate_left
          · intro W hW
            go_simp
            try with_reducible rfl
          try simp only [Act.put, List.setIfInBounds_toArray, List.set_cons_zero, List.set_cons_succ]
          refine wpAnyH_done (by kernel_rfl) ?_ _
          have HE := Lib.hid hp2
          clear hS hK0 HK HAct HD hp2
          go_wp2
          go_roundw
          case rel => exact ⟨k + 1, by omega, rfl, by go_num, by rw [show puN xs (k + 1) = _ from HS.out]; exact HE.out⟩
          case measure => simp [intOf]; omega
      · obtain rfl : k = xs.length := by omega
        have hlt' : ¬ ((xs.length : Nat) : Int) < (xs.length : Int) := by omega
        obtain ⟨cv, sv, cl, sl, F, hP⟩ := HP.out
        have hpk := puN_ok xs xs.length
        have HIs := Lib.hid (is_any hP.at_ hP.r hpk.1 (by omega))
        have HBx := Lib.hid hP.box
        have HBl := Lib.hid hP.below
        clear hP hpk HP H0 HA
        go_wp2_with ((with_reducible apply wp_load_Rg); (kernel_rfl); (exact rowR); (exact HBx.out); (rfl))
        refine HIs.out.mono ?_
        rintro e w7 ⟨rfl, hb⟩
        have H7 := Lib.hid (HBl.out.trans (hb.mono HBl.out.size))
        clear hb HIs HBx HBl
        go_wp2_with fail
        refine (works_any _).mono ?_
        rintro e w8 ⟨rfl, hb⟩
        have H8 := Lib.hid (H7.out.trans (hb.mono H7.out.size))
        clear hb H7
        go_wp2
        go_ret
        exact ⟨rfl, H8.out⟩
end Go.Proofs.Ytepimbebodmajaa

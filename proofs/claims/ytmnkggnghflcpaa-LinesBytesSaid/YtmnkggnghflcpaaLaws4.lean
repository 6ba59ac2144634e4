/-
  Layer 7: the walk of LinesBytes. Written by gen_bytes.py.
-/
import Derived.Test.YtmnkggnghflcpaaLaws3
namespace Go.Proofs.Ytmnkggnghflcpaa
open Go.RowKit
set_option maxHeartbeats 16000000
set_option linter.unusedVariables false
set_option linter.unusedSimpArgs false

/-- Lines, the document's new value, a box that still holds the old one. -/
structure Lm (w : World) (S B : Nat) (l : Ls) (c c' : Array Value) (F G : Nat → Prop) (W : World) : Prop where
  at_ : At W S l F
  rv : Rv W l c' G
  box : Rf W B c
  sep : ∀ k, F k → ¬ G k
  fB : ∀ k, F k → w.heap.size ≤ k ∧ k ≠ B
  gB : ∀ k, G k → k ≠ B
  wB : w.heap.size ≤ B
  below : Below w.heap.size w W
section
variable {w W W' : World} {S B N : Nat} {l l' : Ls} {c c' : Array Value} {F G : Nat → Prop}
theorem Lm.after (h : Lm w S B l c c' F G W) (hb : Below W.heap.size W W') : Lm w S B l c c' F G W' := ⟨h.at_.below hb, h.rv.below hb, h.box.below hb, h.sep, h.fB, h.gB, h.wB, h.below.trans (hb.mono h.below.size)⟩
theorem Lm.other (h : Lm w S B l c c' F G W) (hN : w.heap.size ≤ N) (hB : B ≠ N) (hF : ∀ k, F k → k ≠ N) (hG : ∀ k, G k → k ≠ N) (d : Array Value) : Lm w S B l c c' F G (W.setRow N d) := by
  have ht := turned_setRow W N d
  exact ⟨h.at_.turned ht hF, h.rv.turned ht hG, h.box.setOther hB d, h.sep, h.fB, h.gB, h.wB, below_setRow h.below hN _⟩
theorem Lm.store (h : Lm w S B l c c' F G W) : LnE w S B l l (W.setRow B c') := by
  have ht := turned_setRow W B c'
  exact ⟨c', F, G, h.at_.turned ht (fun k hk => (h.fB k hk).2), h.rv.turned ht h.gB, h.box.set h.rv.size h.rv.one, h.sep, h.fB, h.gB, h.wB, below_setRow h.below h.wB _⟩
theorem Ln.lm (h : Ln w S B l l c F G W) (hc : ActC W S l' F G c' W') : ∃ F' G', Lm w S B l' c c' F' G' W' ∧ (∀ k, F' k → F k ∨ W.heap.size ≤ k) ∧ (∀ k, G' k → G k ∨ W.heap.size ≤ k) ∧ Turned F W W' := by
  obtain ⟨F', G', hp⟩ := hc
  have hB := h.box.lt
  refine ⟨F', G', ⟨hp.at_, hp.rv, h.box.turned hp.t (fun e => (h.fB B e).2 rfl), hp.sep, fun k hk => ?_, fun k hk => ?_, h.wB, h.below.trans (hp.t.below h.below.size (fun k hk => (h.fB k hk).1))⟩, hp.fF, hp.gG, hp.t⟩
  · rcases hp.fF k hk with e | e
    · exact h.fB k e
    · exact ⟨by have := h.below.size; omega, by omega⟩
  · rcases hp.gG k hk with e | e
    · exact h.gB k e
    · omega
/-- A call by both, its answer stored in the box. -/
theorem Ln.act (h : Ln w S B l l c F G W) (hc : ActC W S l' F G c' W') : Rf W' B c ∧ (c'.size = 9 ∧ c'.all (·.oneCell') = true) ∧ LnE w S B l' l' (W'.setRow B c') := by
  obtain ⟨F', G', hm, _⟩ := h.lm hc
  exact ⟨hm.box, ⟨hm.rv.size, hm.rv.one⟩, hm.store⟩
/-- A call by both; its answer is stored in a box made behind it. -/
theorem Ln.actA (h : Ln w S B l l c F G W) (hc : ActC W S l' F G c' W') : Rf W' B c ∧ Below w.heap.size w W' ∧ (c'.size = 9 ∧ c'.all (·.oneCell') = true) ∧
    Rf ((W'.alloc (.cells zR 30)).setRow W'.heap.size c') W'.heap.size c' ∧ Rf ((W'.alloc (.cells zR 30)).setRow W'.heap.size c') B c ∧ Below w.heap.size w ((W'.alloc (.cells zR 30)).setRow W'.heap.size c') ∧ LnE w S B l' l' (((W'.alloc (.cells zR 30)).setRow W'.heap.size c').setRow B c') := by
  obtain ⟨F', G', hm, _⟩ := h.lm hc
  have hB := hm.box.lt
  have hb2 := (Below.refl W'.heap.size W').alloc (Nat.le_refl _) (.cells zR 30)
  have hm2 := (hm.after hb2).other (N := W'.heap.size) hm.below.size (by omega) (fun k hk => by have := hm.at_.lt k hk; omega) (fun k hk => by have := hm.rv.lt k hk; omega) c'
  have hn : Rf (W'.alloc (.cells zR 30)) W'.heap.size zR := ⟨blk_new _ _ _, zR_ok.1, zR_ok.2⟩
  exact ⟨hm.box, hm.below, ⟨hm.rv.size, hm.rv.one⟩, hn.set hm.rv.size hm.rv.one, hm2.box, hm2.below, hm2.store⟩
/-- A call by both; its answer is stored in a box made ahead of it. -/
theorem Ln.actB (h : Ln w S B l l c F G W) (hc : ActC (W.alloc (.cells zR 30)) S l' F G c' W') : Rf W' B c ∧ Below w.heap.size w W' ∧ (c'.size = 9 ∧ c'.all (·.oneCell') = true) ∧ Rf W' W.heap.size zR ∧
    Rf (W'.setRow W.heap.size c') W.heap.size c' ∧ Rf (W'.setRow W.heap.size c') B c ∧ Below w.heap.size w (W'.setRow W.heap.size c') ∧ LnE w S B l' l' ((W'.setRow W.heap.size c').setRow B c') := by
  have hb2 := (Below.refl W.heap.size W).alloc (Nat.le_refl _) (.cells zR 30)
  obtain ⟨F', G', hm, hf, hg, ht⟩ := (h.after hb2).lm hc
  simp only [World.size_alloc] at hf hg
  have hB := h.box.lt
  have hn : Rf (W.alloc (.cells zR 30)) W.heap.size zR := ⟨blk_new _ _ _, zR_ok.1, zR_ok.2⟩
  have hn2 := hn.turned ht (fun e => by have := h.at_.lt _ e; omega)
  have hm2 := hm.other (N := W.heap.size) h.below.size (by omega) (fun k hk => by rcases hf k hk with e | e; have := h.at_.lt k e; omega; omega) (fun k hk => by rcases hg k hk with e | e; have := h.rv.lt k e; omega; omega) c'
  exact ⟨hm.box, hm.below, ⟨hm.rv.size, hm.rv.one⟩, hn2, hn2.set hm.rv.size hm.rv.one, hm2.box, hm2.below, hm2.store⟩
theorem Ln.ab (h : Ln w S B l l c F G W) (hok : l.Ok) (hsz : l.sz ≤ 100000) : AB W S l c F G := ⟨h.at_, h.rv, h.sep, hok, hsz⟩
end
theorem o_alloc_Z {op : Oper} {a : Act} {w : World} {K : Act → World → Prop} {Q : Exit → Act → World → Prop} (ho : op.op = .alloc 30)
    (h : K (a.put op.dst (.pointer (some ⟨w.heap.size, 0, none⟩))) (w.alloc (.cells zR 30))) : op.wp Try.prog a w K Q := o_alloc_R ho h
abbrev aP (b : List Int) : Ac := ⟨1, 0, b, 0, 0, false⟩
abbrev aT : Ac := ⟨2, 0, [], 0, 0, false⟩
theorem aP_ok {b : List Int} (h : Byt b) : (aP b).Ok := ⟨by show (0 : Int) ≤ 0 ∧ (0 : Int) < 256; decide, by show W32 0; unfold W32; decide, h⟩
theorem aT_ok : aT.Ok := ⟨by decide, by unfold W32; decide, by intro x hx; cases hx⟩
theorem aP_sz (l : Ls) (b : List Int) : (l.act (aP b)).sz ≤ l.sz + b.length := by
  show (l.pushed b).sz ≤ _
  unfold Ls.pushed Ls.sz; split
  · simp; omega
  · omega
theorem aT_sz (l : Ls) : (l.act aT).sz ≤ l.sz := by
  show l.took.sz ≤ _
  unfold Ls.took Ls.sz; split <;> simp
/-- What stands at a round's begin: lines of no more than n bytes. -/
def Lr (w : World) (n : Nat) (W : World) : Prop := ∃ l, l.Ok ∧ l.sz ≤ n ∧ LnE w w.heap.size (w.heap.size + 1) l l W
theorem Lr.after {w W W' : World} {n : Nat} (h : Lr w n W) (hb : Below W.heap.size W W') : Lr w n W' := by obtain ⟨l, a, b, c⟩ := h; exact ⟨l, a, b, c.after hb⟩
theorem Lr.below {w W : World} {n : Nat} (h : Lr w n W) : Below w.heap.size w W := by obtain ⟨l, a, b, c, F, G, h⟩ := h; exact h.below
theorem lr_start (w : World) : Lr w 0 ((w.alloc (.cells (pcL L0 (.slice none 0 0) (.slice none 0 0)) 71)).alloc (.cells zR 30)) := by
  have h := (Ow.new w).ln (Below.refl _ _) (Rv.none (w.alloc (.cells (pcL L0 (.slice none 0 0) (.slice none 0 0)) 71))) (fun k hk => (rvG_nil k hk).elim)
  rw [World.size_alloc] at h
  exact ⟨L0, ok_L0, by simp [Ls.sz, L0], h⟩
set_option maxRecDepth 100000 in
theorem LinesBytes_walk (v : Value) (xs : List (List Int)) (tv : Value) (ts : List Int) (w : World) (h : BysIn w v xs) (ht : NumsIn .i64 w tv ts) : Calls Try.prog 4 #[v, tv] w fun e w' => e = .returned (.bool true) ∧ Below w.heap.size w w' := by
  obtain ⟨o, cc, rfl, hc, hm, hcell⟩ := h.form
  obtain ⟨o2, cc2, rfl, hc2, hm2, hcell2⟩ := ht.form
  unfold maxLen at hm hm2
  have HC := Lib.hid hcell
  have HT := Lib.hid hcell2
  clear h ht hcell hcell2
  by_cases hlen : (20 : Int) < xs.length
  · go_enter Try.func4, Try.ntmps4
    go_wp2_with (go_at_call 10; refine (works_any _).mono ?_; rintro e w' ⟨rfl, hb⟩)
    go_ret
    exact ⟨rfl, hb⟩
  · have H0 := Lib.hid (lr_start w)
    have hx20 : xs.length ≤ 20 := by omega
    go_enter Try.func4, Try.ntmps4
    go_wp2_with fail
    refine (New_any _).mono ?_
    rintro e w1 ⟨rfl, rfl⟩
    go_wp2_with fail
    show Code.wp Try.prog _ _ _ ((w.alloc (.cells (pcL L0 (.slice none 0 0) (.slice none 0 0)) 71)).alloc (.cells zR 30))
    generalize (w.alloc (.cells (pcL L0 (.slice none 0 0) (.slice none 0 0)) 71)).alloc (.cells zR 30) = W0 at H0 ⊢
    go_loopw [7] (fun q wr => ∃ k : Nat, k ≤ xs.length ∧ q = .int .i64 (k : Int) ∧ Hid (Lr w (1000 * k) wr)) (fun q _ => xs.length + 1 - (intOf q).toNat)
    case atStart => exact ⟨0, by omega, rfl, H0.out⟩
    case round =>
      obtain ⟨k, hk, rfl, HI⟩ := hrel
      by_cases hlt : k < xs.length
      · have hi : (k : Int) < (xs.length : Int) := by omega
        obtain ⟨a, s, bv, rfl, hs, hca, hnb⟩ := HC.out k hlt
        obtain ⟨os, cs, rfl, hcs, hms, hsn⟩ := hnb.form
        have hcw := cell_below hca (Below.mono HI.out.below (Nat.le_refl _))
        have hl20 : (xs.length : Int) ≤ 20 := by omega
        clear hsn H0 HC
        by_cases hbig : (1000 : Int) < s.length
        · go_wp2_with fail
          refine (works_any _).mono ?_
          rintro e w7 ⟨rfl, hb⟩
          have H7 := Lib.hid (HI.out.after hb)
          clear hb HI
          go_wp2
          go_ret
          exact ⟨rfl, H7.out.below⟩
        · obtain ⟨l, hok, hsz, c, F, G, hln⟩ := HI.out
          have hsl : s.length ≤ 1000 := by omega
          have HCA := Lib.hid hca
          have hld := hln.after (Below.refl _ _).drew
          have HLD := Lib.hid hld
          have HN := Lib.hid hln.rv.size
          have hab := hld.ab hok (by omega)
          have HAct := Lib.hid (act_any hab (aP s) (aP_ok hnb.byt) _ (hnb.below hld.below) (by show s.length ≤ _; omega) (fun k hk hF => by have := hnb.lt hk; have := (hld.fB k hF).1; omega))
          have hld2 := hld.after ((Below.refl wr.drew.heap.size wr.drew).alloc (Nat.le_refl _) (.cells zR 30))
          have HAct2 := Lib.hid (act_any (hld2.ab hok (by omega)) (aP s) (aP_ok hnb.byt) _ (hnb.below hld2.below) (by show s.length ≤ _; omega) (fun k hk hF => by have := hnb.lt hk; have := (hld2.fB k hF).1; omega))
          have HOK := Lib.hid (hok.act (aP_ok hnb.byt))
          have HSZ : Hid ((l.act (aP s)).sz ≤ 1000 * (k + 1)) := by have := aP_sz l s; show _ ≤ _; omega
          have hK0 : (fun W => Rf W (w.heap.size + 1) c ∧ W.cell? (a.add k) = some (.slice os s.length cs)) wr.drew := ⟨hld.box, hcw⟩
          have HK0 := Lib.hid hK0
          clear hld hld2 hab hnb hln HI hok hsz hs hK0
          generalize l.act (aP s) = l' at HAct HAct2 HOK HSZ
          go_wp2
          have hK0 := HK0.out
          refine wp_region_held_drew (S := (fun W => Rf W (w.heap.size + 1) c ∧ W.cell? (a.add k) = some (.slice os s.length cs))) (by kernel_rfl) hK0 (fun _ => ?_)
          have hS := hK0
          refine take_d (i := 0) (d := some 31) (v := ?_) rfl rfl (by kernel_rfl) (by kernel_rfl) (by kernel_rfl) (fun _ _ _ h => h) (.inl ⟨by rfl, ?_⟩) hS ?_
          rotate_left
          · intro W hW
            go_simp
            try with_reducible rfl
          try simp only [Act.put, List.setIfInBounds_toArray, List.set_cons_zero, List.set_cons_succ]
          refine take_d (i := 1) (d := some 32) (v := .agg c) rfl rfl (by kernel_rfl) (by kernel_rfl) (by kernel_rfl) (fun _ _ _ h => h) (y_R (by kernel_rfl) rfl rfl (fun W hW => hW.1) HN.out) hS ?_
          try simp only [Act.put, List.setIfInBounds_toArray, List.set_cons_zero, List.set_cons_succ]
          refine take_d (i := 2) (d := some 33) (v := ?_) rfl rfl (by kernel_rfl) (by kernel_rfl) (by kernel_rfl) (fun _ _ _ h => h) (.inl ⟨by rfl, ?_⟩) hS ?_
          rotate_left
          · intro W hW
            go_simp
            try with_reducible rfl
          try simp only [Act.put, List.setIfInBounds_toArray, List.set_cons_zero, List.set_cons_succ]
          refine take_d (i := 3) (d := some 34) (v := ?_) rfl rfl (by kernel_rfl) (by kernel_rfl) (by kernel_rfl) (fun _ _ _ h => h) (.inl ⟨by rfl, ?_⟩) hS ?_
          rotate_left
          · intro W hW
            go_simp
            try with_reducible rfl
          try simp only [Act.put, List.setIfInBounds_toArray, List.set_cons_zero, List.set_cons_succ]
          refine take_d (i := 4) (d := some 35) (v := .pointer (some (a.add k))) rfl rfl (by kernel_rfl) (by kernel_rfl) (by kernel_rfl) (fun _ _ _ h => h) (.inl ⟨by rfl, fun W hW => by have q := hi; go_simp⟩) hS ?_
          try simp only [Act.put, List.setIfInBounds_toArray, List.set_cons_zero, List.set_cons_succ]
          refine take_d (i := 5) (d := some 36) (v := .slice os s.length cs) rfl rfl (by kernel_rfl) (by kernel_rfl) (by kernel_rfl) (fun _ _ _ h => h) (.inl ⟨by rfl, fun W hW => by have q := hW.2; go_simp⟩) hS ?_
          try simp only [Act.put, List.setIfInBounds_toArray, List.set_cons_zero, List.set_cons_succ]
          refine take_d (i := 6) (d := some 37) (v := ?_) rfl rfl (by kernel_rfl) (by kernel_rfl) (by kernel_rfl) (fun _ _ _ h => h) (.inl ⟨by rfl, ?_⟩) hS ?_
          rotate_left
          · intro W hW
            go_simp
            try with_reducible rfl
          try simp only [Act.put, List.setIfInBounds_toArray, List.set_cons_zero, List.set_cons_succ]
          refine wpAnyH_all (rs := [7, 11]) (by kernel_rfl) (by simp) (fun i hi => ?_)
          simp only [List.mem_cons, List.not_mem_nil, or_false] at hi
          rcases hi with rfl | rfl
          · refine .inl ?_
            go_simp
            refine HAct.out.mono ?_
            rintro e w5 ⟨c', rfl, hact⟩
            obtain ⟨hb5, hw5, ho5, hn5, hx5, hw6, he5⟩ := HLD.out.actA hact
            have hS : (fun W => Rf W (w.heap.size + 1) c ∧ W.cell? (a.add k) = some (.slice os s.length cs)) w5 := ⟨hb5, cell_below HCA.out hw5⟩
            clear hact
            refine ⟨hS, ?_⟩
            try simp only [Act.put, List.setIfInBounds_toArray, List.set_cons_zero, List.set_cons_succ]
            refine take_d (i := 8) (d := some 30) (v := ?_) rfl rfl (by kernel_rfl) (by kernel_rfl) (by kernel_rfl) (fun _ _ _ h => h) (.inl ⟨by rfl, ?_⟩) hS ?_
            rotate_left
            · intro W hW
              go_simp
              try with_reducible rfl
            try simp only [Act.put, List.setIfInBounds_toArray, List.set_cons_zero, List.set_cons_succ]
            refine take_d (i := 9) (d := some 39) (v := ?_) rfl rfl (by kernel_rfl) (by kernel_rfl) (by kernel_rfl) (fun _ _ _ h => h) (.inl ⟨by rfl, ?_⟩) hS ?_
            rotate_left
            · intro W hW
              go_simp
              try with_reducible rfl
            try simp only [Act.put, List.setIfInBounds_toArray, List.set_cons_zero, List.set_cons_succ]
            refine take_d (i := 10) (d := some 40) (v := ?_) rfl rfl (by kernel_rfl) (by kernel_rfl) (by kernel_rfl) (fun _ _ _ h => h) (.inl ⟨by rfl, ?_⟩) hS ?_
            rotate_left
            · intro W hW
              go_simp
              try with_reducible rfl
            try simp only [Act.put, List.setIfInBounds_toArray, List.set_cons_zero, List.set_cons_succ]
            refine wpAnyH_all (rs := [11]) (by kernel_rfl) (by simp) (fun i hi => ?_)
            simp only [List.mem_cons, List.not_mem_nil, or_false] at hi
            subst hi
            refine .inl ?_
            refine o_alloc_Z rfl ?_
            have hS : (fun W => Rf W (w.heap.size + 1) c ∧ W.cell? (a.add k) = some (.slice os s.length cs)) (w5.alloc (.cells zR 30)) := ⟨hS.1.alloc _, cell_below hS.2 ((Below.refl _ _).alloc (Nat.le_refl _) _)⟩
            refine ⟨hS, ?_⟩
            try simp only [Act.put, List.setIfInBounds_toArray, List.set_cons_zero, List.set_cons_succ]
            refine wpAnyH_all (rs := [12]) (by kernel_rfl) (by simp) (fun i hi => ?_)
            simp only [List.mem_cons, List.not_mem_nil, or_false] at hi
            subst hi
            refine .inl ?_
            refine o_store_R c' ⟨blk_new _ _ _, zR_ok.1, zR_ok.2⟩ ho5 rfl rfl rfl ?_
            have hS : (fun W => Rf W (w.heap.size + 1) c ∧ W.cell? (a.add k) = some (.slice os s.length cs)) ((w5.alloc (.cells zR 30)).setRow w5.heap.size c') := ⟨hx5, cell_below HCA.out hw6⟩
            refine ⟨hS, ?_⟩
            try simp only [Act.put, List.setIfInBounds_toArray, List.set_cons_zero, List.set_cons_succ]
            refine take_d (i := 13) (d := some 9) (v := ?_) rfl rfl (by kernel_rfl) (by kernel_rfl) (by kernel_rfl) (fun _ _ _ h => h) (.inl ⟨by rfl, ?_⟩) hS ?_
            rotate_left
            · intro W hW
              go_simp
              try with_reducible rfl
            try simp only [Act.put, List.setIfInBounds_toArray, List.set_cons_zero, List.set_cons_succ]
            refine wpAnyH_done (by kernel_rfl) ?_ _
            have HNb := Lib.hid hn5
            have HBx := Lib.hid (show Rf _ (w.heap.size + 1) c ∧ c'.size = 9 ∧ c'.all (·.oneCell') = true from ⟨hx5, ho5⟩)
            have HE := Lib.hid he5
            clear hn5 hx5 he5 hb5 hw5 hw6 ho5 hS
            generalize (w5.alloc (.cells zR 30)).setRow w5.heap.size c' = W2 at HNb HBx HE ⊢
            clear HCA HAct HAct2 HLD hK0 HK0
            have H1 : Hid (Lr w (1000 * (k + 1)) (W2.setRow (w.heap.size + 1) c')) := ⟨_, HOK.out, HSZ.out, HE.out⟩
            clear HE HOK HSZ
            go_wp2_with (first | ((with_reducible apply wp_load_R); (exact HNb.out); (rfl)) | ((with_reducible apply wp_store_R _); (exact HBx.out); (rfl); (rfl)))
            clear HNb HBx
            generalize W2.setRow (w.heap.size + 1) c' = W3 at H1 ⊢
            go_loopw [9, 10] (fun f q wr => ∃ j : Nat, j ≤ 300 ∧ f = .bool true ∧ q = .int .i64 (j : Int) ∧ Hid (Lr w (1000 * (k + 1)) wr)) (fun _ q _ => 301 - (intOf q).toNat)
            case atStart => exact ⟨0, by omega, rfl, rfl, H1.out⟩
            case round =>
              obtain ⟨j, hj, rfl, rfl, HI⟩ := hrel
              clear H1
              obtain ⟨l2, hok, hsz, c2, F2, G2, hln⟩ := HI.out
              have HQ := Lib.hid hln
              have HO := Lib.hid hok
              have HZ : Hid (l2.sz ≤ 200000) := by show _ ≤ _; omega
              have HZ2 := Lib.hid hsz
              by_cases d1 : k < ts.length
              · have d1' : (k : Int) < (ts.length : Int) := by omega
                obtain ⟨a2, rfl, hct⟩ := HT.out k d1
                have hcw2 := cell_below hct (Below.mono HI.out.below (Nat.le_refl _))
                generalize at0 ts k = tk at hct hcw2
                clear hct
                by_cases d2 : (j : Int) < tk
                · by_cases d3 : (j : Int) < 300
                  · have HAct := Lib.hid (act_any (hln.ab hok (by omega)) aT aT_ok (.slice none 0 0) (.inl ⟨rfl, rfl⟩) (by simp) (fun k hk hF => by simp [rdBlk] at hk))
                    have HO2 := Lib.hid (hok.act aT_ok)
                    have HZ3 : Hid ((l2.act aT).sz ≤ 1000 * (k + 1)) := by have := aT_sz l2; show _ ≤ _; omega
                    clear hln hok hsz HI HO HZ HZ2
                    generalize l2.act aT = l3 at HAct HO2 HZ3
                    go_wp2_with ((with_reducible apply wp_load_R); (exact HQ.out.box); (rfl))
                    refine HAct.out.mono ?_
                    rintro e w8 ⟨c3, rfl, hc⟩
                    obtain ⟨hb8, ho8, hl8⟩ := HQ.out.act hc
                    have HB8 := Lib.hid (show Rf w8 (w.heap.size + 1) c2 ∧ c3.size = 9 ∧ c3.all (·.oneCell') = true from ⟨hb8, ho8⟩)
                    have HL8 := Lib.hid hl8
                    clear hb8 ho8 hl8 hc HQ HAct
                    go_wp2_with ((with_reducible apply wp_store_R _); (exact HB8.out); (rfl); (rfl))
                    go_roundw
                    case rel => exact ⟨j + 1, by omega, rfl, by go_num, _, HO2.out, HZ3.out, HL8.out⟩
                    case measure => simp [intOf]; omega
                  · clear hln hok hsz HI
                    go_wp2_with ((with_reducible apply wp_load_Rg); (kernel_rfl); (exact HQ.out.box); (rfl))
                    refine (is_any HQ.out.at_ HQ.out.rv HO.out HZ.out).mono ?_
                    rintro e w8 ⟨rfl, hb8⟩
                    have HQ2 := Lib.hid (HQ.out.after hb8)
                    clear hb8 HQ
                    go_wp2
                    go_roundw
                    case rel => exact ⟨k + 1, by omega, by go_num, l2, HO.out, HZ2.out, _, _, _, HQ2.out⟩
                    case measure => simp [intOf]; omega
                · clear hln hok hsz HI
                  go_wp2_with ((with_reducible apply wp_load_Rg); (kernel_rfl); (exact HQ.out.box); (rfl))
                  refine (is_any HQ.out.at_ HQ.out.rv HO.out HZ.out).mono ?_
                  rintro e w8 ⟨rfl, hb8⟩
                  have HQ2 := Lib.hid (HQ.out.after hb8)
                  clear hb8 HQ
                  go_wp2
                  go_roundw
                  case rel => exact ⟨k + 1, by omega, by go_num, l2, HO.out, HZ2.out, _, _, _, HQ2.out⟩
                  case measure => simp [intOf]; omega
              · have d1' : ¬ (k : Int) < (ts.length : Int) := by omega
                clear hln hok hsz HI
                go_wp2_with ((with_reducible apply wp_load_Rg); (kernel_rfl); (exact HQ.out.box); (rfl))
                refine (is_any HQ.out.at_ HQ.out.rv HO.out HZ.out).mono ?_
                rintro e w8 ⟨rfl, hb8⟩
                have HQ2 := Lib.hid (HQ.out.after hb8)
                clear hb8 HQ
                go_wp2
                go_roundw
                case rel => exact ⟨k + 1, by omega, by go_num, l2, HO.out, HZ2.out, _, _, _, HQ2.out⟩
                case measure => simp [intOf]; omega
          · refine .inl ?_
            refine o_alloc_Z rfl ?_
            have hS : (fun W => Rf W (w.heap.size + 1) c ∧ W.cell? (a.add k) = some (.slice os s.length cs)) (wr.drew.alloc (.cells zR 30)) := ⟨hS.1.alloc _, cell_below hS.2 ((Below.refl _ _).alloc (Nat.le_refl _) _)⟩
            refine ⟨hS, ?_⟩
            try simp only [Act.put, List.setIfInBounds_toArray, List.set_cons_zero, List.set_cons_succ]
            refine wpAnyH_all (rs := [7]) (by kernel_rfl) (by simp) (fun i hi => ?_)
            simp only [List.mem_cons, List.not_mem_nil, or_false] at hi
            subst hi
            refine .inl ?_
            go_simp
            refine HAct2.out.mono ?_
            rintro e w5 ⟨c', rfl, hact⟩
            obtain ⟨hb5, hw5, ho5, hz5, hn5, hx5, hw6, he5⟩ := HLD.out.actB hact
            have hS : (fun W => Rf W (w.heap.size + 1) c ∧ W.cell? (a.add k) = some (.slice os s.length cs)) w5 := ⟨hb5, cell_below HCA.out hw5⟩
            clear hact
            refine ⟨hS, ?_⟩
            try simp only [Act.put, List.setIfInBounds_toArray, List.set_cons_zero, List.set_cons_succ]
            refine take_d (i := 8) (d := some 30) (v := ?_) rfl rfl (by kernel_rfl) (by kernel_rfl) (by kernel_rfl) (fun _ _ _ h => h) (.inl ⟨by rfl, ?_⟩) hS ?_
            rotate_left
            · intro W hW
              go_simp
              try with_reducible rfl
            try simp only [Act.put, List.setIfInBounds_toArray, List.set_cons_zero, List.set_cons_succ]
            refine take_d (i := 9) (d := some 39) (v := ?_) rfl rfl (by kernel_rfl) (by kernel_rfl) (by kernel_rfl) (fun _ _ _ h => h) (.inl ⟨by rfl, ?_⟩) hS ?_
            rotate_left
            · intro W hW
              go_simp
              try with_reducible rfl
            try simp only [Act.put, List.setIfInBounds_toArray, List.set_cons_zero, List.set_cons_succ]
            refine take_d (i := 10) (d := some 40) (v := ?_) rfl rfl (by kernel_rfl) (by kernel_rfl) (by kernel_rfl) (fun _ _ _ h => h) (.inl ⟨by rfl, ?_⟩) hS ?_
            rotate_left
            · intro W hW
              go_simp
              try with_reducible rfl
            try simp only [Act.put, List.setIfInBounds_toArray, List.set_cons_zero, List.set_cons_succ]
            refine wpAnyH_all (rs := [12]) (by kernel_rfl) (by simp) (fun i hi => ?_)
            simp only [List.mem_cons, List.not_mem_nil, or_false] at hi
            subst hi
            refine .inl ?_
            refine o_store_R c' hz5 ho5 rfl rfl rfl ?_
            have hS : (fun W => Rf W (w.heap.size + 1) c ∧ W.cell? (a.add k) = some (.slice os s.length cs)) (w5.setRow wr.drew.heap.size c') := ⟨hx5, cell_below HCA.out hw6⟩
            refine ⟨hS, ?_⟩
            try simp only [Act.put, List.setIfInBounds_toArray, List.set_cons_zero, List.set_cons_succ]
            refine take_d (i := 13) (d := some 9) (v := ?_) rfl rfl (by kernel_rfl) (by kernel_rfl) (by kernel_rfl) (fun _ _ _ h => h) (.inl ⟨by rfl, ?_⟩) hS ?_
            rotate_left
            · intro W hW
              go_simp
              try with_reducible rfl
            try simp only [Act.put, List.setIfInBounds_toArray, List.set_cons_zero, List.set_cons_succ]
            refine wpAnyH_done (by kernel_rfl) ?_ _
            have HNb := Lib.hid hn5
            have HBx := Lib.hid (show Rf _ (w.heap.size + 1) c ∧ c'.size = 9 ∧ c'.all (·.oneCell') = true from ⟨hx5, ho5⟩)
            have HE := Lib.hid he5
            clear hn5 hx5 he5 hb5 hw5 hw6 ho5 hz5 hS
            generalize w5.setRow wr.drew.heap.size c' = W2 at HNb HBx HE ⊢
            clear HCA HAct HAct2 HLD hK0 HK0
            have H1 : Hid (Lr w (1000 * (k + 1)) (W2.setRow (w.heap.size + 1) c')) := ⟨_, HOK.out, HSZ.out, HE.out⟩
            clear HE HOK HSZ
            go_wp2_with (first | ((with_reducible apply wp_load_R); (exact HNb.out); (rfl)) | ((with_reducible apply wp_store_R _); (exact HBx.out); (rfl); (rfl)))
            clear HNb HBx
            generalize W2.setRow (w.heap.size + 1) c' = W3 at H1 ⊢
            go_loopw [9, 10] (fun f q wr => ∃ j : Nat, j ≤ 300 ∧ f = .bool true ∧ q = .int .i64 (j : Int) ∧ Hid (Lr w (1000 * (k + 1)) wr)) (fun _ q _ => 301 - (intOf q).toNat)
            case atStart => exact ⟨0, by omega, rfl, rfl, H1.out⟩
            case round =>
              obtain ⟨j, hj, rfl, rfl, HI⟩ := hrel
              clear H1
              obtain ⟨l2, hok, hsz, c2, F2, G2, hln⟩ := HI.out
              have HQ := Lib.hid hln
              have HO := Lib.hid hok
              have HZ : Hid (l2.sz ≤ 200000) := by show _ ≤ _; omega
              have HZ2 := Lib.hid hsz
              by_cases d1 : k < ts.length
              · have d1' : (k : Int) < (ts.length : Int) := by omega
                obtain ⟨a2, rfl, hct⟩ := HT.out k d1
                have hcw2 := cell_below hct (Below.mono HI.out.below (Nat.le_refl _))
                generalize at0 ts k = tk at hct hcw2
                clear hct
                by_cases d2 : (j : Int) < tk
                · by_cases d3 : (j : Int) < 300
                  · have HAct := Lib.hid (act_any (hln.ab hok (by omega)) aT aT_ok (.slice none 0 0) (.inl ⟨rfl, rfl⟩) (by simp) (fun k hk hF => by simp [rdBlk] at hk))
                    have HO2 := Lib.hid (hok.act aT_ok)
                    have HZ3 : Hid ((l2.act aT).sz ≤ 1000 * (k + 1)) := by have := aT_sz l2; show _ ≤ _; omega
                    clear hln hok hsz HI HO HZ HZ2
                    generalize l2.act aT = l3 at HAct HO2 HZ3
                    go_wp2_with ((with_reducible apply wp_load_R); (exact HQ.out.box); (rfl))
                    refine HAct.out.mono ?_
                    rintro e w8 ⟨c3, rfl, hc⟩
                    obtain ⟨hb8, ho8, hl8⟩ := HQ.out.act hc
                    have HB8 := Lib.hid (show Rf w8 (w.heap.size + 1) c2 ∧ c3.size = 9 ∧ c3.all (·.oneCell') = true from ⟨hb8, ho8⟩)
                    have HL8 := Lib.hid hl8
                    clear hb8 ho8 hl8 hc HQ HAct
                    go_wp2_with ((with_reducible apply wp_store_R _); (exact HB8.out); (rfl); (rfl))
                    go_roundw
                    case rel => exact ⟨j + 1, by omega, rfl, by go_num, _, HO2.out, HZ3.out, HL8.out⟩
                    case measure => simp [intOf]; omega
                  · clear hln hok hsz HI
                    go_wp2_with ((with_reducible apply wp_load_Rg); (kernel_rfl); (exact HQ.out.box); (rfl))
                    refine (is_any HQ.out.at_ HQ.out.rv HO.out HZ.out).mono ?_
                    rintro e w8 ⟨rfl, hb8⟩
                    have HQ2 := Lib.hid (HQ.out.after hb8)
                    clear hb8 HQ
                    go_wp2
                    go_roundw
                    case rel => exact ⟨k + 1, by omega, by go_num, l2, HO.out, HZ2.out, _, _, _, HQ2.out⟩
                    case measure => simp [intOf]; omega
                · clear hln hok hsz HI
                  go_wp2_with ((with_reducible apply wp_load_Rg); (kernel_rfl); (exact HQ.out.box); (rfl))
                  refine (is_any HQ.out.at_ HQ.out.rv HO.out HZ.out).mono ?_
                  rintro e w8 ⟨rfl, hb8⟩
                  have HQ2 := Lib.hid (HQ.out.after hb8)
                  clear hb8 HQ
                  go_wp2
                  go_roundw
                  case rel => exact ⟨k + 1, by omega, by go_num, l2, HO.out, HZ2.out, _, _, _, HQ2.out⟩
                  case measure => simp [intOf]; omega
              · have d1' : ¬ (k : Int) < (ts.length : Int) := by omega
                clear hln hok hsz HI
                go_wp2_with ((with_reducible apply wp_load_Rg); (kernel_rfl); (exact HQ.out.box); (rfl))
                refine (is_any HQ.out.at_ HQ.out.rv HO.out HZ.out).mono ?_
                rintro e w8 ⟨rfl, hb8⟩
                have HQ2 := Lib.hid (HQ.out.after hb8)
                clear hb8 HQ
                go_wp2
                go_roundw
                case rel => exact ⟨k + 1, by omega, by go_num, l2, HO.out, HZ2.out, _, _, _, HQ2.out⟩
                case measure => simp [intOf]; omega
      · obtain rfl : k = xs.length := by omega
        have hlt' : ¬ ((xs.length : Nat) : Int) < (xs.length : Int) := by omega
        go_wp2_with fail
        refine (works_any _).mono ?_
        rintro e w7 ⟨rfl, hb⟩
        have H7 := Lib.hid (HI.out.after hb)
        clear hb HI
        go_wp2
        go_ret
        exact ⟨rfl, H7.out.below⟩
end Go.Proofs.Ytmnkggnghflcpaa

/-
  Layer 10: CpuWords, CpuRuns: walks.
-/
import Derived.Test.YthjdfneibogcgaaDoorOne
namespace Go.Proofs.YthjdfneibogcgaaDoor
open Go.RowKit
set_option maxHeartbeats 16000000
set_option linter.unusedVariables false
set_option linter.unusedSimpArgs false

theorem causeS_w32 (s : Sta) (i : Ins) : W32 (causeS s i) := by
  unfold causeS causeOf W32
  repeat' split
  all_goals omega
theorem statusS_w32 (s : Sta) : W32 (statusS s) := by
  unfold statusS b2 W32
  cases s.su <;> cases s.pv <;> cases s.en <;> decide
theorem mod_w32 (x : Int) : W32 (x % 4294967296) := ⟨by omega, by omega⟩
theorem getS_w32 {s : Sta} (hs : s.Ok) (m : Int) : W32 (getS s m) := by
  unfold getS
  split
  · exact hs.epc
  split
  · exact hs.cs
  split
  · exact hs.vec
  split
  · exact hs.tab
  split
  · exact statusS_w32 s
  · exact hs.pc
theorem ite_w32 {c : Prop} [Decidable c] {a b : Int} (ha : W32 a) (hb : W32 b) : W32 (if c then a else b) := by
  by_cases h : c
  · rw [if_pos h]; exact ha
  · rw [if_neg h]; exact hb
theorem madeS_w32 {s : Sta} (hs : s.Ok) (i : Ins) {told : Int} (ht : W32 told) : W32 (madeS s i told) := by
  unfold madeS
  dsimp only
  refine ite_w32 (mod_w32 _) (ite_w32 (mod_w32 _) (ite_w32 (mod_w32 _) (ite_w32 (mod_w32 _) (ite_w32 (mod_w32 _) (ite_w32 (bitOf_w32 _ _ _) (ite_w32 (shlN_w32 _ _) (ite_w32 (shrN_w32 _ _ (hs.r _)) (ite_w32 (ite_w32 ⟨by decide, by decide⟩ ⟨by decide, by decide⟩) (ite_w32 ht (ite_w32 ⟨?_, ?_⟩ (ite_w32 (mod_w32 _) (ite_w32 (getS_w32 hs _) ⟨by decide, by decide⟩))))))))))))
  · have := ht.1; omega
  · have := ht.1; omega
theorem toS_w32 {s : Sta} (hs : s.Ok) (i : Ins) : W32 (toS s i) := by
  unfold toS
  split
  · exact mod_w32 _
  split
  · exact hs.r _
  split
  · exact hs.epc
  · exact mod_w32 _
theorem setS_ok {s : Sta} (hs : s.Ok) (m : Int) {a : Int} (ha : W32 a) : (setS s m a).Ok := by
  unfold setS
  split
  · exact ⟨hs.r, hs.pc, ha, hs.cs, hs.vec, hs.tab⟩
  split
  · exact ⟨hs.r, hs.pc, hs.epc, ha, hs.vec, hs.tab⟩
  split
  · exact ⟨hs.r, hs.pc, hs.epc, hs.cs, ha, hs.tab⟩
  split
  · exact ⟨hs.r, hs.pc, hs.epc, hs.cs, hs.vec, ha⟩
  split
  · exact ⟨hs.r, hs.pc, hs.epc, hs.cs, hs.vec, hs.tab⟩
  · exact hs
theorem upd_ok {s : Sta} (hs : s.Ok) (k : Nat) {v : Int} (hv : W32 v) : (upd s k v).Ok := ⟨fun j => by
  show W32 (if j = k then v else s.r j)
  split
  · exact hv
  · exact hs.r j, hs.pc, hs.epc, hs.cs, hs.vec, hs.tab⟩
theorem doneS_ok {s : Sta} (hs : s.Ok) (i : Ins) {told : Int} (ht : W32 told) : (doneS s i told).Ok := by
  unfold doneS
  split
  · have hb : (behindS s i told).Ok := by
      unfold behindS
      split
      · exact setS_ok hs _ (hs.r _)
      split
      · exact ⟨hs.r, hs.pc, hs.epc, hs.cs, hs.vec, hs.tab⟩
      split
      · exact upd_ok hs _ (madeS_w32 hs i ht)
      · exact hs
    exact ⟨hb.r, toS_w32 hs i, hb.epc, hb.cs, hb.vec, hb.tab⟩
  · exact ⟨hs.r, hs.vec, hs.pc, causeS_w32 s i, hs.vec, hs.tab⟩
/-- A word and what it is told lie in their cells. -/
structure Cw (g n : Nat) (x : Td) (W : World) : Prop where
  b : W.cell? ⟨g, n, none⟩ = some (.int .u32 x.w) ∧ W.cell? ⟨g, n + 1, none⟩ = some (.int .u32 x.t)
theorem Cw.after {g n : Nat} {x : Td} {W W' : World} (h : Cw g n x W) (hb : Below W.heap.size W W') : Cw g n x W' := ⟨cell_belowT h.b.1 hb, cell_belowT h.b.2 hb⟩
theorem Cw.setRow {g n S : Nat} {x : Td} {W : World} {c : Array Value} (h : Cw g n x W) (hg : g ≠ S) : Cw g n x (W.setRow S c) := ⟨(cell_setRow_other W S c ⟨g, n, none⟩ hg).trans h.b.1, (cell_setRow_other W S c ⟨g, n + 1, none⟩ hg).trans h.b.2⟩
/-- .. and a state in its block. -/
structure Cs (S : Nat) (s : Sta) (g n : Nat) (x : Td) (W : World) : Prop where
  b : Rf 25 16 W S (sc s) ∧ Cw g n x W
theorem Cs.after {S : Nat} {s : Sta} {g n : Nat} {x : Td} {W W' : World} (h : Cs S s g n x W) (hb : Below W.heap.size W W') : Cs S s g n x W' := ⟨h.b.1.below hb, h.b.2.after hb⟩
set_option maxRecDepth 100000 in
theorem CpuWords_walk (s : Sta) (hs : s.Ok) (v : Value) (xs : List Td) (w : World) (h : Env w ∧ Nam w) (z : TdsIn w v xs) : Calls Tryd.prog 3 #[.agg (sc s), v] w fun e w' => e = .returned (.bool true) ∧ Below w.heap.size w w' := by
  have HZ := Lib.hid (fun W (hb : Below w.heap.size w W) => z.below hb)
  have HZ0 := Lib.hid (fun k (x : Td) (hx : xs[k]? = some x) => (show ∀ g o c n, v = .slice (some ⟨g, o, none⟩) n c → g < w.heap.size from fun g o c n e => by
    obtain ⟨ao, c', e1, _, _, hel⟩ := z
    obtain ⟨_, g', o', e2, q1, _⟩ := hel k x hx
    rw [e1, e2] at e
    simp at e
    obtain ⟨⟨rfl, _⟩, _⟩ := e
    exact World.block_lt_of_cell? _ _ q1))
  obtain ⟨ao, c, rfl, hc, hm, hel⟩ := z
  have HB := Lib.hid (bel1 w (.cells (sc s) 25))
  have RS := Lib.hid (rs_new w s)
  have HE := Lib.hid (fun W (hb : Below w.heap.size w W) => (show Env W ∧ Nam W from ⟨h.1.below hb, h.2.below hb⟩))
  have HO := Lib.hid (fun W (x : Td) (hx : x.Ok) (hb : Below w.heap.size w W) => one_any s hs x hx W ⟨h.1.below hb, h.2.below hb⟩)
  unfold maxLen at hm
  clear hel h hc
  by_cases h60 : 60 < xs.length
  · have h60' : (60 : Int) < (xs.length : Int) := by omega
    clear HZ0
    go_enter Tryd.func3, Tryd.ntmps3
    go_wp2_with fail
    refine (known_any _ (HE.out _ HB.out).1).mono ?_
    rintro e w1 ⟨rfl, b1⟩
    have HB1 := Lib.hid (HB.out.trans (b1.mono HB.out.size))
    clear b1
    go_wp2
    go_ret
    exact ⟨rfl, HB1.out⟩
  · have h60' : ¬ (60 : Int) < (xs.length : Int) := by omega
    go_enter Tryd.func3, Tryd.ntmps3
    go_wp2
    go_loopw [5] (fun i wr => ∃ k : Nat, k ≤ xs.length ∧ i = .int .i64 (k : Int) ∧ Hid (Below w.heap.size w wr) ∧ Hid (Rf 25 16 wr w.heap.size (sc s))) (fun i _ => xs.length + 1 - (intOf i).toNat)
    case atStart => exact ⟨0, by omega, rfl, HB.out, RS.out⟩
    case round =>
      obtain ⟨k, hk, rfl, HBl, HR⟩ := hrel
      by_cases hlt : k < xs.length
      · have hi : (k : Int) < (xs.length : Int) := by omega
        obtain ⟨ao', c', e1, _, _, hel⟩ := HZ.out _ HBl.out
        obtain ⟨hx, g, o, e2, q1, q2⟩ := hel k xs[k] (List.getElem?_eq_getElem hlt)
        simp at e1
        obtain ⟨rfl, rfl⟩ := e1
        subst e2
        have hgl := HZ0.out k xs[k] (List.getElem?_eq_getElem hlt) g o c xs.length rfl
        generalize xs[k] = x at hx q1 q2
        have HX := Lib.hid hx
        have hgn : g ≠ w.heap.size := by omega
        have hC : Cw g (o + k * 2) x wr := ⟨q1, q2⟩
        clear hel hx hgl
        have hK0 := (Cs.after ⟨HR.out, hC⟩ (Below.refl _ _).drew : Cs w.heap.size s g (o + k * 2) x wr.drew)
        clear hC q1 q2
        go_wp2
        refine wp_region_held_drew (S := fun W => Rf 25 16 W w.heap.size (sc s) ∧ Cw g (o + k * 2) x W) (by kernel_rfl) hK0.b (fun _ => ?_)
        have hS := hK0
        refine take_d (i := 0) (d := some 16) (v := .agg (sc s)) rfl rfl (by kernel_rfl) (by kernel_rfl) (by kernel_rfl) (fun _ _ _ h => h) (y_R rowS (by kernel_rfl) rfl rfl (fun W hW => hW.1)) hS.b ?_
        try simp only [Act.put, List.setIfInBounds_toArray, List.set_cons_zero, List.set_cons_succ]
        refine take_d (i := 1) (d := some 17) (v := ?_) rfl rfl (by kernel_rfl) (by kernel_rfl) (by kernel_rfl) (fun _ _ _ h => h) (.inl ⟨by rfl, ?_⟩) hS.b ?_
        rotate_left
        · intro W hW
          go_simp
          try with_reducible rfl
        try simp only [Act.put, List.setIfInBounds_toArray, List.set_cons_zero, List.set_cons_succ]
        refine take_d (i := 2) (d := some 18) (v := ?_) rfl rfl (by kernel_rfl) (by kernel_rfl) (by kernel_rfl) (fun _ _ _ h => h) (.inl ⟨by rfl, ?_⟩) hS.b ?_
        rotate_left
        · intro W hW
          go_simp
          try with_reducible rfl
        try simp only [Act.put, List.setIfInBounds_toArray, List.set_cons_zero, List.set_cons_succ]
        refine take_d (i := 3) (d := some 19) (v := ?_) rfl rfl (by kernel_rfl) (by kernel_rfl) (by kernel_rfl) (fun _ _ _ h => h) (.inl ⟨by rfl, ?_⟩) hS.b ?_
        rotate_left
        · intro W hW
          go_simp
          try with_reducible rfl
        try simp only [Act.put, List.setIfInBounds_toArray, List.set_cons_zero, List.set_cons_succ]
        refine take_d (i := 4) (d := some 20) (v := ?_) rfl rfl (by kernel_rfl) (by kernel_rfl) (by kernel_rfl) (fun _ _ _ h => h) (.inl ⟨by rfl, ?_⟩) hS.b ?_
        rotate_left
        · intro W hW
          have q1 := hW.2.b.1; have q2 := hW.2.b.2
          go_simp
          try with_reducible rfl
        try simp only [Act.put, List.setIfInBounds_toArray, List.set_cons_zero, List.set_cons_succ]
        refine wpAnyH_all (rs := [5]) (by kernel_rfl) (by simp) (fun i hi => ?_)
        simp only [List.mem_cons, List.not_mem_nil, or_false] at hi
        subst hi
        refine .inl ?_
        go_simp
        refine (HO.out _ x HX.out HBl.out.drew).mono ?_
        rintro e wc ⟨rfl, hb⟩
        have hbF : Below wr.heap.size wr wc := (Below.refl _ _).drew.trans hb
        replace hS := hS.after hb
        clear hb
        refine ⟨hS.b, ?_⟩
        try simp only [Act.put, List.setIfInBounds_toArray, List.set_cons_zero, List.set_cons_succ]
        refine take_d (i := 6) (d := some 22) (v := ?_) rfl rfl (by kernel_rfl) (by kernel_rfl) (by kernel_rfl) (fun _ _ _ h => h) (.inl ⟨by rfl, ?_⟩) hS.b ?_
        rotate_left
        · intro W hW
          go_simp
          try with_reducible rfl
        try simp only [Act.put, List.setIfInBounds_toArray, List.set_cons_zero, List.set_cons_succ]
        refine wpAnyH_done (by kernel_rfl) ?_ _
        have HF := Lib.hid (HBl.out.trans (hbF.mono HBl.out.size))
        have HR2 := Lib.hid hS.b.1
        clear hS hK0 hbF
        go_wp2
        refine ⟨⟨k + 1, by omega, by go_num, HF, HR2⟩, ?_⟩
        simp [intOf]; omega
      · obtain rfl : k = xs.length := by omega
        go_wp2_with fail
        refine (known_any _ (HE.out _ HBl.out).1).mono ?_
        rintro e w1 ⟨rfl, b1⟩
        have HB1 := Lib.hid (HBl.out.trans (b1.mono HBl.out.size))
        clear b1
        go_wp2
        go_ret
        exact ⟨rfl, HB1.out⟩
set_option maxRecDepth 100000 in
theorem CpuRuns_walk (s : Sta) (hs : s.Ok) (v : Value) (xs : List Td) (w : World) (h : Env w ∧ Nam w) (z : TdsIn w v xs) : Calls Tryd.prog 4 #[.agg (sc s), v] w fun e w' => e = .returned (.bool true) ∧ Below w.heap.size w w' := by
  have HZ := Lib.hid (fun W (hb : Below w.heap.size w W) => z.below hb)
  have HZ0 := Lib.hid (fun k (x : Td) (hx : xs[k]? = some x) => (show ∀ g o c n, v = .slice (some ⟨g, o, none⟩) n c → g < w.heap.size from fun g o c n e => by
    obtain ⟨ao, c', e1, _, _, hel⟩ := z
    obtain ⟨_, g', o', e2, q1, _⟩ := hel k x hx
    rw [e1, e2] at e
    simp at e
    obtain ⟨⟨rfl, _⟩, _⟩ := e
    exact World.block_lt_of_cell? _ _ q1))
  obtain ⟨ao, c, rfl, hc, hm, hel⟩ := z
  have HB := Lib.hid (bel1 w (.cells (sc s) 25))
  have RS := Lib.hid (rs_new w s)
  have HE := Lib.hid (fun W (hb : Below w.heap.size w W) => (show Env W ∧ Nam W from ⟨h.1.below hb, h.2.below hb⟩))
  have HO := Lib.hid (fun W (σ : Sta) (ho : σ.Ok) (x : Td) (hx : x.Ok) (hb : Below w.heap.size w W) => one_any σ ho x hx W ⟨h.1.below hb, h.2.below hb⟩)
  have HD := Lib.hid (fun W (σ : Sta) (ho : σ.Ok) (x : Td) (hx : x.Ok) (hb : Below w.heap.size w W) => Done_any σ ho x.w x.t hx.w hx.t W (h.1.below hb))
  unfold maxLen at hm
  clear hel h hc
  by_cases h60 : 60 < xs.length
  · have h60' : (60 : Int) < (xs.length : Int) := by omega
    clear HZ0
    go_enter Tryd.func4, Tryd.ntmps4
    go_wp2_with fail
    refine (known_any _ (HE.out _ HB.out).1).mono ?_
    rintro e w1 ⟨rfl, b1⟩
    have HB1 := Lib.hid (HB.out.trans (b1.mono HB.out.size))
    clear b1
    go_wp2
    go_ret
    exact ⟨rfl, HB1.out⟩
  · have h60' : ¬ (60 : Int) < (xs.length : Int) := by omega
    go_enter Tryd.func4, Tryd.ntmps4
    go_wp2
    go_loopw [5] (fun i wr => ∃ (k : Nat) (σ : Sta), k ≤ xs.length ∧ i = .int .i64 (k : Int) ∧ Hid (Below w.heap.size w wr) ∧ Hid (Rf 25 16 wr w.heap.size (sc σ)) ∧ Hid σ.Ok) (fun i _ => xs.length + 1 - (intOf i).toNat)
    case atStart => exact ⟨0, s, by omega, rfl, HB.out, RS.out, hs⟩
    case round =>
      obtain ⟨k, σ, hk, rfl, HBl, HR, HK⟩ := hrel
      by_cases hlt : k < xs.length
      · have hi : (k : Int) < (xs.length : Int) := by omega
        obtain ⟨ao', c', e1, _, _, hel⟩ := HZ.out _ HBl.out
        obtain ⟨hx, g, o, e2, q1, q2⟩ := hel k xs[k] (List.getElem?_eq_getElem hlt)
        simp at e1
        obtain ⟨rfl, rfl⟩ := e1
        subst e2
        have hgl := HZ0.out k xs[k] (List.getElem?_eq_getElem hlt) g o c xs.length rfl
        generalize xs[k] = x at hx q1 q2
        have HX := Lib.hid hx
        have hgn : g ≠ w.heap.size := by omega
        have hC : Cw g (o + k * 2) x wr := ⟨q1, q2⟩
        clear hel hx hgl
        have hK0 := (Cs.after ⟨HR.out, hC⟩ (Below.refl _ _).drew : Cs w.heap.size σ g (o + k * 2) x wr.drew)
        clear hC q1 q2
        go_wp2
        refine wp_region_held_drew (S := fun W => Rf 25 16 W w.heap.size (sc σ) ∧ Cw g (o + k * 2) x W) (by kernel_rfl) hK0.b (fun _ => ?_)
        have hS := hK0
        refine take_d (i := 0) (d := some 16) (v := .agg (sc σ)) rfl rfl (by kernel_rfl) (by kernel_rfl) (by kernel_rfl) (fun _ _ _ h => h) (y_R rowS (by kernel_rfl) rfl rfl (fun W hW => hW.1)) hS.b ?_
        try simp only [Act.put, List.setIfInBounds_toArray, List.set_cons_zero, List.set_cons_succ]
        refine take_d (i := 1) (d := some 17) (v := ?_) rfl rfl (by kernel_rfl) (by kernel_rfl) (by kernel_rfl) (fun _ _ _ h => h) (.inl ⟨by rfl, ?_⟩) hS.b ?_
        rotate_left
        · intro W hW
          go_simp
          try with_reducible rfl
        try simp only [Act.put, List.setIfInBounds_toArray, List.set_cons_zero, List.set_cons_succ]
        refine take_d (i := 2) (d := some 18) (v := ?_) rfl rfl (by kernel_rfl) (by kernel_rfl) (by kernel_rfl) (fun _ _ _ h => h) (.inl ⟨by rfl, ?_⟩) hS.b ?_
        rotate_left
        · intro W hW
          go_simp
          try with_reducible rfl
        try simp only [Act.put, List.setIfInBounds_toArray, List.set_cons_zero, List.set_cons_succ]
        refine take_d (i := 3) (d := some 19) (v := ?_) rfl rfl (by kernel_rfl) (by kernel_rfl) (by kernel_rfl) (fun _ _ _ h => h) (.inl ⟨by rfl, ?_⟩) hS.b ?_
        rotate_left
        · intro W hW
          go_simp
          try with_reducible rfl
        try simp only [Act.put, List.setIfInBounds_toArray, List.set_cons_zero, List.set_cons_succ]
        refine take_d (i := 4) (d := some 20) (v := ?_) rfl rfl (by kernel_rfl) (by kernel_rfl) (by kernel_rfl) (fun _ _ _ h => h) (.inl ⟨by rfl, ?_⟩) hS.b ?_
        rotate_left
        · intro W hW
          have q1 := hW.2.b.1; have q2 := hW.2.b.2
          go_simp
          try with_reducible rfl
        try simp only [Act.put, List.setIfInBounds_toArray, List.set_cons_zero, List.set_cons_succ]
        refine wpAnyH_all (rs := [5]) (by kernel_rfl) (by simp) (fun i hi => ?_)
        simp only [List.mem_cons, List.not_mem_nil, or_false] at hi
        subst hi
        refine .inl ?_
        go_simp
        refine (HO.out _ σ HK.out x HX.out HBl.out.drew).mono ?_
        rintro e wc ⟨rfl, hb⟩
        have hbF : Below wr.heap.size wr wc := (Below.refl _ _).drew.trans hb
        replace hS := hS.after hb
        clear hb
        refine ⟨hS.b, ?_⟩
        try simp only [Act.put, List.setIfInBounds_toArray, List.set_cons_zero, List.set_cons_succ]
        refine take_d (i := 6) (d := some 22) (v := ?_) rfl rfl (by kernel_rfl) (by kernel_rfl) (by kernel_rfl) (fun _ _ _ h => h) (.inl ⟨by rfl, ?_⟩) hS.b ?_
        rotate_left
        · intro W hW
          go_simp
          try with_reducible rfl
        try simp only [Act.put, List.setIfInBounds_toArray, List.set_cons_zero, List.set_cons_succ]
        refine wpAnyH_done (by kernel_rfl) ?_ _
        have HF := Lib.hid (HBl.out.trans (hbF.mono HBl.out.size))
        have hR := hS.b.1.drew
        have hK1 : Cw g (o + k * 2) x wc.drew := hS.b.2.after (Below.refl _ _).drew
        clear hS hK0 hbF
        go_wp2
        refine wp_region_held_drew (S := fun W => W.cell? ⟨g, o + k * 2, none⟩ = some (.int .u32 x.w) ∧ W.cell? ⟨g, o + k * 2 + 1, none⟩ = some (.int .u32 x.t)) (by kernel_rfl) hK1.b (fun _ => ?_)
        have hS := hK1
        refine take_d (i := 1) (d := some 24) (v := ?_) rfl rfl (by kernel_rfl) (by kernel_rfl) (by kernel_rfl) (fun _ _ _ h => h) (.inl ⟨by rfl, ?_⟩) hS.b ?_
        rotate_left
        · intro W hW
          go_simp
          try with_reducible rfl
        try simp only [Act.put, List.setIfInBounds_toArray, List.set_cons_zero, List.set_cons_succ]
        refine take_d (i := 2) (d := some 25) (v := ?_) rfl rfl (by kernel_rfl) (by kernel_rfl) (by kernel_rfl) (fun _ _ _ h => h) (.inl ⟨by rfl, ?_⟩) hS.b ?_
        rotate_left
        · intro W hW
          go_simp
          try with_reducible rfl
        try simp only [Act.put, List.setIfInBounds_toArray, List.set_cons_zero, List.set_cons_succ]
        refine take_d (i := 3) (d := some 26) (v := ?_) rfl rfl (by kernel_rfl) (by kernel_rfl) (by kernel_rfl) (fun _ _ _ h => h) (.inl ⟨by rfl, ?_⟩) hS.b ?_
        rotate_left
        · intro W hW
          go_simp
          try with_reducible rfl
        try simp only [Act.put, List.setIfInBounds_toArray, List.set_cons_zero, List.set_cons_succ]
        refine take_d (i := 4) (d := some 27) (v := ?_) rfl rfl (by kernel_rfl) (by kernel_rfl) (by kernel_rfl) (fun _ _ _ h => h) (.inl ⟨by rfl, ?_⟩) hS.b ?_
        rotate_left
        · intro W hW
          go_simp
          try with_reducible rfl
        try simp only [Act.put, List.setIfInBounds_toArray, List.set_cons_zero, List.set_cons_succ]
        refine take_d (i := 5) (d := some 28) (v := ?_) rfl rfl (by kernel_rfl) (by kernel_rfl) (by kernel_rfl) (fun _ _ _ h => h) (.inl ⟨by rfl, ?_⟩) hS.b ?_
        rotate_left
        · intro W hW
          have q1 := hW.1
          go_simp
          try with_reducible rfl
        try simp only [Act.put, List.setIfInBounds_toArray, List.set_cons_zero, List.set_cons_succ]
        refine take_d (i := 6) (d := some 29) (v := ?_) rfl rfl (by kernel_rfl) (by kernel_rfl) (by kernel_rfl) (fun _ _ _ h => h) (.inl ⟨by rfl, ?_⟩) hS.b ?_
        rotate_left
        · intro W hW
          go_simp
          try with_reducible rfl
        try simp only [Act.put, List.setIfInBounds_toArray, List.set_cons_zero, List.set_cons_succ]
        refine take_d (i := 7) (d := some 30) (v := ?_) rfl rfl (by kernel_rfl) (by kernel_rfl) (by kernel_rfl) (fun _ _ _ h => h) (.inl ⟨by rfl, ?_⟩) hS.b ?_
        rotate_left
        · intro W hW
          go_simp
          try with_reducible rfl
        try simp only [Act.put, List.setIfInBounds_toArray, List.set_cons_zero, List.set_cons_succ]
        refine take_d (i := 8) (d := some 31) (v := ?_) rfl rfl (by kernel_rfl) (by kernel_rfl) (by kernel_rfl) (fun _ _ _ h => h) (.inl ⟨by rfl, ?_⟩) hS.b ?_
        rotate_left
        · intro W hW
          go_simp
          try with_reducible rfl
        try simp only [Act.put, List.setIfInBounds_toArray, List.set_cons_zero, List.set_cons_succ]
        refine take_d (i := 9) (d := some 32) (v := ?_) rfl rfl (by kernel_rfl) (by kernel_rfl) (by kernel_rfl) (fun _ _ _ h => h) (.inl ⟨by rfl, ?_⟩) hS.b ?_
        rotate_left
        · intro W hW
          go_simp
          try with_reducible rfl
        try simp only [Act.put, List.setIfInBounds_toArray, List.set_cons_zero, List.set_cons_succ]
        refine take_d (i := 10) (d := some 33) (v := ?_) rfl rfl (by kernel_rfl) (by kernel_rfl) (by kernel_rfl) (fun _ _ _ h => h) (.inl ⟨by rfl, ?_⟩) hS.b ?_
        rotate_left
        · intro W hW
          have q2 := hW.2
          go_simp
          try with_reducible rfl
        try simp only [Act.put, List.setIfInBounds_toArray, List.set_cons_zero, List.set_cons_succ]
        refine wpAnyH_all (rs := [0]) (by kernel_rfl) (by simp) (fun i hi => ?_)
        simp only [List.mem_cons, List.not_mem_nil, or_false] at hi
        subst hi
        refine .inl ?_
        refine o_load_R (d := some 23) rfl rowS hR rfl rfl ?_
        refine ⟨hS.b, ?_⟩
        try simp only [Act.put, List.setIfInBounds_toArray, List.set_cons_zero, List.set_cons_succ]
        refine wpAnyH_all (rs := [11]) (by kernel_rfl) (by simp) (fun i hi => ?_)
        simp only [List.mem_cons, List.not_mem_nil, or_false] at hi
        subst hi
        refine .inl ?_
        go_simp
        refine (HD.out _ σ HK.out x HX.out HF.out.drew).mono ?_
        rintro e wd ⟨rfl, hb⟩
        have hbG : Below w.heap.size w wd := HF.out.drew.trans (hb.mono HF.out.drew.size)
        replace hR := hR.below hb
        replace hS := hS.after hb
        clear hb
        refine ⟨hS.b, ?_⟩
        try simp only [Act.put, List.setIfInBounds_toArray, List.set_cons_zero, List.set_cons_succ]
        refine wpAnyH_all (rs := [12]) (by kernel_rfl) (by simp) (fun i hi => ?_)
        simp only [List.mem_cons, List.not_mem_nil, or_false] at hi
        subst hi
        refine .inl ?_
        refine o_store_R (d := none) rfl (sc (doneS σ (decV x.w) x.t)) rowS hR (sc_ok _) rfl rfl rfl ?_
        replace hS := hS.setRow (S := w.heap.size) (c := sc (doneS σ (decV x.w) x.t)) hgn
        replace hR := hR.set (sc_ok (doneS σ (decV x.w) x.t))
        refine ⟨hS.b, ?_⟩
        try simp only [Act.put, List.setIfInBounds_toArray, List.set_cons_zero, List.set_cons_succ]
        refine wpAnyH_done (by kernel_rfl) ?_ _
        have HF2 := Lib.hid (below_setRow hbG (Nat.le_refl _) (sc (doneS σ (decV x.w) x.t)))
        have HR2 := Lib.hid hR
        clear hS hK1 hbG hR
        go_wp2
        refine ⟨⟨k + 1, _, by omega, by go_num, HF2, HR2, Lib.hid (doneS_ok HK.out _ HX.out.t)⟩, ?_⟩
        simp [intOf]; omega
      · obtain rfl : k = xs.length := by omega
        go_wp2_with fail
        refine (known_any _ (HE.out _ HBl.out).1).mono ?_
        rintro e w1 ⟨rfl, b1⟩
        have HB1 := Lib.hid (HBl.out.trans (b1.mono HBl.out.size))
        clear b1
        go_wp2
        go_ret
        exact ⟨rfl, HB1.out⟩
end Go.Proofs.YthjdfneibogcgaaDoor

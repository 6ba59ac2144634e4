/-
  Layer 10: CpuTouched: a walk. Written by gen_tq.py.
-/
import Derived.Test.YthjdfneibogcgaaDoorKnown
import Derived.Test.YthjdfneibogcgaaDoorTouches
import Derived.Test.YthjdfneibogcgaaDoorGoes
import Derived.Test.YthjdfneibogcgaaDoorArgs
import Derived.Test.YthjdfneibogcgaaDoorFacts
namespace Go.Proofs.YthjdfneibogcgaaDoor
open Go.RowKit
set_option maxHeartbeats 16000000
set_option linter.unusedVariables false
set_option linter.unusedSimpArgs false

/-- A word and what it is told lie in their cells. -/
structure Cw (g n : Nat) (x : Td) (W : World) : Prop where
  b : W.cell? ⟨g, n, none⟩ = some (.int .u32 x.w) ∧ W.cell? ⟨g, n + 1, none⟩ = some (.int .u32 x.t)
theorem Cw.after {g n : Nat} {x : Td} {W W' : World} (h : Cw g n x W) (hb : Below W.heap.size W W') : Cw g n x W' := ⟨cell_belowT h.b.1 hb, cell_belowT h.b.2 hb⟩
theorem Cw.setRow {g n S : Nat} {x : Td} {W : World} {c : Array Value} (h : Cw g n x W) (hg : g ≠ S) : Cw g n x (W.setRow S c) := ⟨(cell_setRow_other W S c ⟨g, n, none⟩ hg).trans h.b.1, (cell_setRow_other W S c ⟨g, n + 1, none⟩ hg).trans h.b.2⟩
/-- .. and a state in its block. -/
structure Cs (S : Nat) (s : Sta) (g n : Nat) (x : Td) (W : World) : Prop where
  b : Rf 25 16 W S (sc s) ∧ Cw g n x W
theorem Cs.after {S : Nat} {s : Sta} {g n : Nat} {x : Td} {W W' : World} (h : Cs S s g n x W) (hb : Below W.heap.size W W') : Cs S s g n x W' := ⟨h.b.1.below hb, h.b.2.after hb⟩
theorem cut1 {P : Program} {c : Code} {a : Act} {w : World} {Q : Exit → Act → World → Prop} (F : Nat → Act) (C : Nat → World → Prop) (h1 : (∀ g W', C g W' → Q .normal (F g) W') → Code.wp P c Q a w) (h2 : ∀ g W', C g W' → Q .normal (F g) W') : Code.wp P c Q a w := h1 h2
theorem Cs.setRow {S : Nat} {s : Sta} {g n : Nat} {x : Td} {W : World} {R : Nat} {c : Array Value} (h : Cs S s g n x W) (h1 : S ≠ R) (h2 : g ≠ R) : Cs S s g n x (W.setRow R c) := ⟨h.b.1.setOther h1 c, h.b.2.setRow h2⟩
/-- Behind the three calls of a round. -/
structure Tt (w : World) (s : Sta) (P : Wnt) (σ : Sta) (g6 g7 : Nat) (v : Value) (T : List Tch) (W : World) : Prop where
  st : Rf 25 16 W w.heap.size (sc s)
  r6 : Rf 42 6 W g6 (wnt P)
  r7 : Rf 25 16 W g7 (sc σ)
  t : TsIs W v T
  k : Below w.heap.size w W
theorem Tt.after {w : World} {s : Sta} {P : Wnt} {σ : Sta} {g6 g7 : Nat} {v : Value} {T : List Tch} {W W' : World} (h : Tt w s P σ g6 g7 v T W) (hb : Below W.heap.size W W') : Tt w s P σ g6 g7 v T W' := ⟨h.st.below hb, h.r6.below hb, h.r7.below hb, h.t.below hb, h.k.trans (hb.mono h.k.size)⟩
theorem Tt.drew {w : World} {s : Sta} {P : Wnt} {σ : Sta} {g6 g7 : Nat} {v : Value} {T : List Tch} {W : World} (h : Tt w s P σ g6 g7 v T W) : Tt w s P σ g6 g7 v T W.drew := h.after (Below.refl _ _).drew
set_option maxRecDepth 100000 in
theorem CpuTouched_walk (s : Sta) (hs : s.Ok) (v : Value) (xs : List Td) (w : World) (h : Env w ∧ Nam w) (z : TdsIn w v xs) : Calls Tryd.prog 8 #[.agg (sc s), v] w fun e w' => e = .returned (.bool true) ∧ Below w.heap.size w w' := by
  have HZ := Lib.hid (fun W (hb : Below w.heap.size w W) => z.below hb)
  have HZ0 := Lib.hid (fun k (x : Td) (hx : xs[k]? = some x) => (show ∀ g o c n, v = .slice (some ⟨g, o, none⟩) n c → g < w.heap.size from fun g o c n e => by
    obtain ⟨ao, c', e1, _, _, hel⟩ := z
    obtain ⟨_, g', o', e2, q1, _⟩ := hel k x hx
    rw [e1, e2] at e
    simp at e
    obtain ⟨⟨rfl, _⟩, _⟩ := e
    exact World.block_lt_of_cell? _ _ q1))
  obtain ⟨ao, c, rfl, hc, hm, hel⟩ := z
  have HB := Lib.hid (bel1 w (.cells (sc s) 25))
  have RS := Lib.hid (rs_new w s)
  have HE := Lib.hid (fun W (hb : Below w.heap.size w W) => (show Env W ∧ Nam W from ⟨h.1.below hb, h.2.below hb⟩))
  have HP := Lib.hid (fun W (x : Td) (hx : x.Ok) (hb : Below w.heap.size w W) => Plan_any s hs x.w hx.w W (h.1.below hb))
  have HD := Lib.hid (fun W (x : Td) (hx : x.Ok) (hb : Below w.heap.size w W) => Done_any s hs x.w x.t hx.w hx.t W (h.1.below hb))
  have HU := Lib.hid (fun W (x : Td) (hx : x.Ok) (hb : Below w.heap.size w W) => Touches_any s x.w hx.w W (h.1.below hb) (h.2.below hb))
  unfold maxLen at hm
  clear hel h hc
  by_cases h60 : 60 < xs.length
  · have h60' : (60 : Int) < (xs.length : Int) := by omega
    clear HZ0
    go_enter Tryd.func8, Tryd.ntmps8
    go_wp2_with fail
    refine (known_any _ (HE.out _ HB.out).1).mono ?_
    rintro e w1 ⟨rfl, b1⟩
    have HB1 := Lib.hid (HB.out.trans (b1.mono HB.out.size))
    clear b1
    go_wp2
    go_ret
    exact ⟨rfl, HB1.out⟩
  · have h60' : ¬ (60 : Int) < (xs.length : Int) := by omega
    go_enter Tryd.func8, Tryd.ntmps8
    go_wp2
    go_loopw [5] (fun i wr => ∃ k : Nat, k ≤ xs.length ∧ i = .int .i64 (k : Int) ∧ Hid (Below w.heap.size w wr) ∧ Hid (Rf 25 16 wr w.heap.size (sc s))) (fun i _ => xs.length + 1 - (intOf i).toNat)
    case atStart => exact ⟨0, by omega, rfl, HB.out, RS.out⟩
    case round =>
      obtain ⟨k, hk, rfl, HBl, HR⟩ := hrel
      by_cases hlt : k < xs.length
      · have hi : (k : Int) < (xs.length : Int) := by omega
        obtain ⟨ao', c', e1, _, _, hel⟩ := HZ.out _ HBl.out
        obtain ⟨hx, g, o, e2, q1, q2⟩ := hel k xs[k] (List.getElem?_eq_getElem hlt)
        simp at e1
        obtain ⟨rfl, rfl⟩ := e1
        subst e2
        have hgl := HZ0.out k xs[k] (List.getElem?_eq_getElem hlt) g o c xs.length rfl
        generalize xs[k] = x at hx q1 q2
        have HX := Lib.hid hx
        have hgn : g ≠ w.heap.size := by omega
        have hC : Cw g (o + k * 2) x wr := ⟨q1, q2⟩
        have HGL := Lib.hid hgl
        clear hel hx hgl
        obtain ⟨op, A, B, m, hdv, _, _, _, _, _, _⟩ := decV_nat x.w
        have hreg := reg_gB s op A B m x.t
        rw [← hdv] at hreg
        have hfour := four_gB s (decV x.w) x.t
        have hmode := mode_gB s (decV x.w) x.t
        have hpc := gB_pc s (decV x.w)
        have hkind := kind_same s (decV x.w) x.t
        have hPx := fun W hb => HP.out W x HX.out hb
        have hDx := fun W hb => HD.out W x HX.out hb
        have hUx := fun W hb => HU.out W x HX.out hb
        clear hdv
        generalize planS s (decV x.w) = P at hreg hkind hPx
        generalize doneS s (decV x.w) x.t = σ at hreg hfour hmode hkind hDx
        generalize touS s (decV x.w) = T at hreg hfour hmode hpc hUx
        obtain ⟨cn, c0, c1, c2, c8⟩ := cn_ex σ.r s.r A (fun k h => (hreg k h).1)
        have HREG := Lib.hid hreg
        have HF4 := Lib.hid hfour
        have HMD := Lib.hid hmode
        have HPC := Lib.hid hpc
        have HKD := Lib.hid hkind
        have HPx := Lib.hid hPx
        have HDx := Lib.hid hDx
        have HUx := Lib.hid hUx
        have HC0 := Lib.hid c0
        have HC1 := Lib.hid c1
        have HC2 := Lib.hid c2
        have HC8 := Lib.hid c8
        have hk2 := HBl.out.drew
        have hK0 := (Cs.after ⟨HR.out, hC⟩ (Below.refl _ _).drew : Cs w.heap.size s g (o + k * 2) x wr.drew)
        have hgl := HGL.out
        clear hreg hfour hmode hpc hkind hPx hDx hUx c0 c1 c2 c8 hC q1 q2 HR
        go_wp2
        refine cut1 (fun g6 => ⟨#[Value.agg (sc s), Value.slice (some ⟨g, o, none⟩) xs.length c, Value.pointer (some ⟨w.heap.size, 0, none⟩), undef, u4, Value.int .i64 (k : Int), Value.pointer (some ⟨g6, 0, none⟩), u7, u8, u9, u10, u11, Value.slice (some ⟨g, o, none⟩) xs.length c, Value.int .i64 (xs.length : Int), Value.bool false, undef, Value.int .i64 (k : Int), Value.slice (some ⟨g, o, none⟩) xs.length c, Value.int .i64 (xs.length : Int), Value.bool true, u20, u21, Value.agg (sc s), Value.slice (some ⟨g, o, none⟩) xs.length c, Value.int .i64 (k : Int), Value.pointer (some ⟨g, o + k * 2, none⟩), Value.pointer (some ⟨g, o + k * 2, none⟩), Value.int .u32 x.w, Value.agg (wnt P), u29, u30, u31, u32, u33, u34, u35, u36, u37, u38, u39, u40, u41, u42, u43, u44, u45, u46, u47, u48, u49, u50, u51, u52, u53, u54, u55, u56, u57, u58, u59, u60, u61, u62, u63, u64, u65, u66, u67, u68, u69, u70, u71, u72, u73, u74, u75, u76, u77, u78, u79, u80, u81, u82, u83, u84, u85, u86, u87, u88, u89, u90, u91, u92, u93, u94, u95, u96, u97, u98, u99, u100, u101, u102, u103, u104, u105, u106, u107, u108, u109, u110, u111, u112, u113, u114, u115, u116, u117, u118, u119, u120, u121, u122, u123, u124, u125, u126, u127, u128, u129, u130, u131, u132, u133, u134, u135, u136, u137, u138, u139, u140, u141, u142, u143, u144, u145, u146, u147, u148, u149, u150, u151, u152, u153, u154, u155, u156, u157, u158, u159, u160, u161, u162, u163, u164, undef], []⟩) (fun g6 W => (Rf 25 16 W w.heap.size (sc s) ∧ Cw g (o + k * 2) x W) ∧ Rf 42 6 W g6 (wnt P) ∧ Below w.heap.size w W ∧ w.heap.size < g6) (fun hQ => ?_) ?_
        · as_aux_lemma =>
            refine wp_region_held_drew (S := fun W => Rf 25 16 W w.heap.size (sc s) ∧ Cw g (o + k * 2) x W) (by kernel_rfl) hK0.b (fun _ => ?_)
            have hS := hK0
            refine take_d (i := 0) (d := some 22) (v := .agg (sc s)) rfl rfl (by kernel_rfl) (by kernel_rfl) (by kernel_rfl) (fun _ _ _ h => h) (y_R rowS (by kernel_rfl) rfl rfl (fun W hW => hW.1)) hS.b ?_
            try simp only [Act.put, List.setIfInBounds_toArray, List.set_cons_zero, List.set_cons_succ]
            refine take_d (i := 1) (d := some 23) (v := ?_) rfl rfl (by kernel_rfl) (by kernel_rfl) (by kernel_rfl) (fun _ _ _ h => h) (.inl ⟨by rfl, ?_⟩) hS.b ?_
            rotate_left
            · intro W hW
              go_simp
              try with_reducible rfl
            try simp only [Act.put, List.setIfInBounds_toArray, List.set_cons_zero, List.set_cons_succ]
            refine take_d (i := 2) (d := some 24) (v := ?_) rfl rfl (by kernel_rfl) (by kernel_rfl) (by kernel_rfl) (fun _ _ _ h => h) (.inl ⟨by rfl, ?_⟩) hS.b ?_
            rotate_left
            · intro W hW
              go_simp
              try with_reducible rfl
            try simp only [Act.put, List.setIfInBounds_toArray, List.set_cons_zero, List.set_cons_succ]
            refine take_d (i := 3) (d := some 25) (v := ?_) rfl rfl (by kernel_rfl) (by kernel_rfl) (by kernel_rfl) (fun _ _ _ h => h) (.inl ⟨by rfl, ?_⟩) hS.b ?_
            rotate_left
            · intro W hW
              go_simp
              try with_reducible rfl
            try simp only [Act.put, List.setIfInBounds_toArray, List.set_cons_zero, List.set_cons_succ]
            refine take_d (i := 4) (d := some 26) (v := ?_) rfl rfl (by kernel_rfl) (by kernel_rfl) (by kernel_rfl) (fun _ _ _ h => h) (.inl ⟨by rfl, ?_⟩) hS.b ?_
            rotate_left
            · intro W hW
              go_simp
              try with_reducible rfl
            try simp only [Act.put, List.setIfInBounds_toArray, List.set_cons_zero, List.set_cons_succ]
            refine take_d (i := 5) (d := some 27) (v := ?_) rfl rfl (by kernel_rfl) (by kernel_rfl) (by kernel_rfl) (fun _ _ _ h => h) (.inl ⟨by rfl, ?_⟩) hS.b ?_
            rotate_left
            · intro W hW
              have q1 := hW.2.b.1; have q2 := hW.2.b.2
              go_simp
              try with_reducible rfl
            try simp only [Act.put, List.setIfInBounds_toArray, List.set_cons_zero, List.set_cons_succ]
            refine wpAnyH_all (rs := [6,7]) (by kernel_rfl) (by simp) (fun i hi => ?_)
            simp only [List.mem_cons, List.not_mem_nil, or_false] at hi
            rcases hi with rfl | rfl
            · refine .inl ?_
              go_simp
              refine (HPx.out _ hk2).mono ?_
              rintro e wc ⟨rfl, hb⟩
              try replace rg6 := Rf.below rg6 hb
              replace hk2 := hk2.trans (hb.mono hk2.size)
              replace hS := hS.after hb
              clear hb
              refine ⟨hS.b, ?_⟩
              try simp only [Act.put, List.setIfInBounds_toArray, List.set_cons_zero, List.set_cons_succ]
              refine wpAnyH_all (rs := [7]) (by kernel_rfl) (by simp) (fun i hi => ?_)
              simp only [List.mem_cons, List.not_mem_nil, or_false] at hi
              subst hi
              refine .inl ?_
              refine o_alloc (ty := 42) (d := some 6) rfl (wnt W0) (wnt_ok W0) (by go_simp; try rfl) ?_
              intro g6 WA eg6 rg6 hb ltg6
              have neg6 : w.heap.size < g6 := by have := hS.b.1.lt; omega
              replace hk2 := hk2.trans (hb.mono hk2.size)
              replace hS := hS.after hb
              clear hb
              refine ⟨hS.b, ?_⟩
              try simp only [Act.put, List.setIfInBounds_toArray, List.set_cons_zero, List.set_cons_succ]
              refine wpAnyH_all (rs := [8]) (by kernel_rfl) (by simp) (fun i hi => ?_)
              simp only [List.mem_cons, List.not_mem_nil, or_false] at hi
              subst hi
              refine .inl ?_
              refine o_store_R (d := none) rfl (wnt P) rowW rg6 (wnt_ok _) rfl rfl rfl ?_
              replace hk2 := below_setRow hk2 (Nat.le_of_lt neg6) (wnt P)
              replace hS := hS.setRow (R := g6) (c := wnt P) (by omega) (by omega)
              replace rg6 := rg6.set (wnt_ok P)
              refine ⟨hS.b, ?_⟩
              try simp only [Act.put, List.setIfInBounds_toArray, List.set_cons_zero, List.set_cons_succ]
              refine wpAnyH_done (by kernel_rfl) ?_ _
              exact hQ _ _ ⟨hS.b, rg6, hk2, neg6⟩
            · refine .inl ?_
              refine o_alloc (ty := 42) (d := some 6) rfl (wnt W0) (wnt_ok W0) (by go_simp; try rfl) ?_
              intro g6 WA eg6 rg6 hb ltg6
              have neg6 : w.heap.size < g6 := by have := hS.b.1.lt; omega
              replace hk2 := hk2.trans (hb.mono hk2.size)
              replace hS := hS.after hb
              clear hb
              refine ⟨hS.b, ?_⟩
              try simp only [Act.put, List.setIfInBounds_toArray, List.set_cons_zero, List.set_cons_succ]
              refine wpAnyH_all (rs := [6]) (by kernel_rfl) (by simp) (fun i hi => ?_)
              simp only [List.mem_cons, List.not_mem_nil, or_false] at hi
              subst hi
              refine .inl ?_
              go_simp
              refine (HPx.out _ hk2).mono ?_
              rintro e wc ⟨rfl, hb⟩
              try replace rg6 := Rf.below rg6 hb
              replace hk2 := hk2.trans (hb.mono hk2.size)
              replace hS := hS.after hb
              clear hb
              refine ⟨hS.b, ?_⟩
              try simp only [Act.put, List.setIfInBounds_toArray, List.set_cons_zero, List.set_cons_succ]
              refine wpAnyH_all (rs := [8]) (by kernel_rfl) (by simp) (fun i hi => ?_)
              simp only [List.mem_cons, List.not_mem_nil, or_false] at hi
              subst hi
              refine .inl ?_
              refine o_store_R (d := none) rfl (wnt P) rowW rg6 (wnt_ok _) rfl rfl rfl ?_
              replace hk2 := below_setRow hk2 (Nat.le_of_lt neg6) (wnt P)
              replace hS := hS.setRow (R := g6) (c := wnt P) (by omega) (by omega)
              replace rg6 := rg6.set (wnt_ok P)
              refine ⟨hS.b, ?_⟩
              try simp only [Act.put, List.setIfInBounds_toArray, List.set_cons_zero, List.set_cons_succ]
              refine wpAnyH_done (by kernel_rfl) ?_ _
              exact hQ _ _ ⟨hS.b, rg6, hk2, neg6⟩
        intro g6 W6 h6
        obtain ⟨hb6, r6, hk2, n6⟩ := h6
        have hK1 := (Cs.after ⟨hb6.1, hb6.2⟩ (Below.refl _ _).drew : Cs w.heap.size s g (o + k * 2) x W6.drew)
        replace r6 := r6.drew
        replace hk2 := hk2.drew
        clear hb6 hK0
        go_wp2
        refine cut1 (fun g7 => ⟨#[Value.agg (sc s), Value.slice (some ⟨g, o, none⟩) xs.length c, Value.pointer (some ⟨w.heap.size, 0, none⟩), undef, u4, Value.int .i64 (k : Int), Value.pointer (some ⟨g6, 0, none⟩), Value.pointer (some ⟨g7, 0, none⟩), u8, u9, u10, u11, Value.slice (some ⟨g, o, none⟩) xs.length c, Value.int .i64 (xs.length : Int), Value.bool false, undef, Value.int .i64 (k : Int), Value.slice (some ⟨g, o, none⟩) xs.length c, Value.int .i64 (xs.length : Int), Value.bool true, u20, u21, Value.agg (sc s), Value.slice (some ⟨g, o, none⟩) xs.length c, Value.int .i64 (k : Int), Value.pointer (some ⟨g, o + k * 2, none⟩), Value.pointer (some ⟨g, o + k * 2, none⟩), Value.int .u32 x.w, Value.agg (wnt P), Value.agg (sc s), Value.slice (some ⟨g, o, none⟩) xs.length c, Value.int .i64 (k : Int), Value.pointer (some ⟨g, o + k * 2, none⟩), Value.pointer (some ⟨g, o + k * 2, none⟩), Value.int .u32 x.w, Value.slice (some ⟨g, o, none⟩) xs.length c, Value.int .i64 (k : Int), Value.pointer (some ⟨g, o + k * 2, none⟩), Value.pointer (some ⟨g, o + k * 2 + 1, none⟩), Value.int .u32 x.t, Value.agg (sc σ), u41, u42, u43, u44, u45, u46, u47, u48, u49, u50, u51, u52, u53, u54, u55, u56, u57, u58, u59, u60, u61, u62, u63, u64, u65, u66, u67, u68, u69, u70, u71, u72, u73, u74, u75, u76, u77, u78, u79, u80, u81, u82, u83, u84, u85, u86, u87, u88, u89, u90, u91, u92, u93, u94, u95, u96, u97, u98, u99, u100, u101, u102, u103, u104, u105, u106, u107, u108, u109, u110, u111, u112, u113, u114, u115, u116, u117, u118, u119, u120, u121, u122, u123, u124, u125, u126, u127, u128, u129, u130, u131, u132, u133, u134, u135, u136, u137, u138, u139, u140, u141, u142, u143, u144, u145, u146, u147, u148, u149, u150, u151, u152, u153, u154, u155, u156, u157, u158, u159, u160, u161, u162, u163, u164, undef], []⟩) (fun g7 W => ((Rf 25 16 W w.heap.size (sc s) ∧ Cw g (o + k * 2) x W) ∧ Rf 42 6 W g6 (wnt P) ∧ Below w.heap.size w W ∧ w.heap.size < g6) ∧ Rf 25 16 W g7 (sc σ) ∧ w.heap.size < g7) (fun hQ => ?_) ?_
        · as_aux_lemma =>
            refine wp_region_held_drew (S := fun W => Rf 25 16 W w.heap.size (sc s) ∧ Cw g (o + k * 2) x W) (by kernel_rfl) hK1.b (fun _ => ?_)
            have hS := hK1
            refine take_d (i := 0) (d := some 29) (v := .agg (sc s)) rfl rfl (by kernel_rfl) (by kernel_rfl) (by kernel_rfl) (fun _ _ _ h => h) (y_R rowS (by kernel_rfl) rfl rfl (fun W hW => hW.1)) hS.b ?_
            try simp only [Act.put, List.setIfInBounds_toArray, List.set_cons_zero, List.set_cons_succ]
            refine take_d (i := 1) (d := some 30) (v := ?_) rfl rfl (by kernel_rfl) (by kernel_rfl) (by kernel_rfl) (fun _ _ _ h => h) (.inl ⟨by rfl, ?_⟩) hS.b ?_
            rotate_left
            · intro W hW
              go_simp
              try with_reducible rfl
            try simp only [Act.put, List.setIfInBounds_toArray, List.set_cons_zero, List.set_cons_succ]
            refine take_d (i := 2) (d := some 31) (v := ?_) rfl rfl (by kernel_rfl) (by kernel_rfl) (by kernel_rfl) (fun _ _ _ h => h) (.inl ⟨by rfl, ?_⟩) hS.b ?_
            rotate_left
            · intro W hW
              go_simp
              try with_reducible rfl
            try simp only [Act.put, List.setIfInBounds_toArray, List.set_cons_zero, List.set_cons_succ]
            refine take_d (i := 3) (d := some 32) (v := ?_) rfl rfl (by kernel_rfl) (by kernel_rfl) (by kernel_rfl) (fun _ _ _ h => h) (.inl ⟨by rfl, ?_⟩) hS.b ?_
            rotate_left
            · intro W hW
              go_simp
              try with_reducible rfl
            try simp only [Act.put, List.setIfInBounds_toArray, List.set_cons_zero, List.set_cons_succ]
            refine take_d (i := 4) (d := some 33) (v := ?_) rfl rfl (by kernel_rfl) (by kernel_rfl) (by kernel_rfl) (fun _ _ _ h => h) (.inl ⟨by rfl, ?_⟩) hS.b ?_
            rotate_left
            · intro W hW
              go_simp
              try with_reducible rfl
            try simp only [Act.put, List.setIfInBounds_toArray, List.set_cons_zero, List.set_cons_succ]
            refine take_d (i := 5) (d := some 34) (v := ?_) rfl rfl (by kernel_rfl) (by kernel_rfl) (by kernel_rfl) (fun _ _ _ h => h) (.inl ⟨by rfl, ?_⟩) hS.b ?_
            rotate_left
            · intro W hW
              have q1 := hW.2.b.1; have q2 := hW.2.b.2
              go_simp
              try with_reducible rfl
            try simp only [Act.put, List.setIfInBounds_toArray, List.set_cons_zero, List.set_cons_succ]
            refine take_d (i := 6) (d := some 35) (v := ?_) rfl rfl (by kernel_rfl) (by kernel_rfl) (by kernel_rfl) (fun _ _ _ h => h) (.inl ⟨by rfl, ?_⟩) hS.b ?_
            rotate_left
            · intro W hW
              go_simp
              try with_reducible rfl
            try simp only [Act.put, List.setIfInBounds_toArray, List.set_cons_zero, List.set_cons_succ]
            refine take_d (i := 7) (d := some 36) (v := ?_) rfl rfl (by kernel_rfl) (by kernel_rfl) (by kernel_rfl) (fun _ _ _ h => h) (.inl ⟨by rfl, ?_⟩) hS.b ?_
            rotate_left
            · intro W hW
              go_simp
              try with_reducible rfl
            try simp only [Act.put, List.setIfInBounds_toArray, List.set_cons_zero, List.set_cons_succ]
            refine take_d (i := 8) (d := some 37) (v := ?_) rfl rfl (by kernel_rfl) (by kernel_rfl) (by kernel_rfl) (fun _ _ _ h => h) (.inl ⟨by rfl, ?_⟩) hS.b ?_
            rotate_left
            · intro W hW
              go_simp
              try with_reducible rfl
            try simp only [Act.put, List.setIfInBounds_toArray, List.set_cons_zero, List.set_cons_succ]
            refine take_d (i := 9) (d := some 38) (v := ?_) rfl rfl (by kernel_rfl) (by kernel_rfl) (by kernel_rfl) (fun _ _ _ h => h) (.inl ⟨by rfl, ?_⟩) hS.b ?_
            rotate_left
            · intro W hW
              go_simp
              try with_reducible rfl
            try simp only [Act.put, List.setIfInBounds_toArray, List.set_cons_zero, List.set_cons_succ]
            refine take_d (i := 10) (d := some 39) (v := ?_) rfl rfl (by kernel_rfl) (by kernel_rfl) (by kernel_rfl) (fun _ _ _ h => h) (.inl ⟨by rfl, ?_⟩) hS.b ?_
            rotate_left
            · intro W hW
              have q1 := hW.2.b.1; have q2 := hW.2.b.2
              go_simp
              try with_reducible rfl
            try simp only [Act.put, List.setIfInBounds_toArray, List.set_cons_zero, List.set_cons_succ]
            refine wpAnyH_all (rs := [11,12]) (by kernel_rfl) (by simp) (fun i hi => ?_)
            simp only [List.mem_cons, List.not_mem_nil, or_false] at hi
            rcases hi with rfl | rfl
            · refine .inl ?_
              go_simp
              refine (HDx.out _ hk2).mono ?_
              rintro e wc ⟨rfl, hb⟩
              try replace r6 := Rf.below r6 hb
              try replace rg7 := Rf.below rg7 hb
              replace hk2 := hk2.trans (hb.mono hk2.size)
              replace hS := hS.after hb
              clear hb
              refine ⟨hS.b, ?_⟩
              try simp only [Act.put, List.setIfInBounds_toArray, List.set_cons_zero, List.set_cons_succ]
              refine wpAnyH_all (rs := [12]) (by kernel_rfl) (by simp) (fun i hi => ?_)
              simp only [List.mem_cons, List.not_mem_nil, or_false] at hi
              subst hi
              refine .inl ?_
              refine o_alloc (ty := 25) (d := some 7) rfl (sc S0) (sc_ok S0) (by go_simp; try rfl) ?_
              intro g7 WA eg7 rg7 hb ltg7
              have neg7 : w.heap.size < g7 := by have := hS.b.1.lt; omega
              have d67 : g6 < g7 := by have := r6.lt; omega
              try replace r6 := Rf.below r6 hb
              replace hk2 := hk2.trans (hb.mono hk2.size)
              replace hS := hS.after hb
              clear hb
              refine ⟨hS.b, ?_⟩
              try simp only [Act.put, List.setIfInBounds_toArray, List.set_cons_zero, List.set_cons_succ]
              refine wpAnyH_all (rs := [13]) (by kernel_rfl) (by simp) (fun i hi => ?_)
              simp only [List.mem_cons, List.not_mem_nil, or_false] at hi
              subst hi
              refine .inl ?_
              refine o_store_R (d := none) rfl (sc σ) rowS rg7 (sc_ok _) rfl rfl rfl ?_
              replace hk2 := below_setRow hk2 (Nat.le_of_lt neg7) (sc σ)
              replace hS := hS.setRow (R := g7) (c := sc σ) (by omega) (by omega)
              replace r6 := r6.setOther (g := g7) (by omega) (sc σ)
              replace rg7 := rg7.set (sc_ok σ)
              refine ⟨hS.b, ?_⟩
              try simp only [Act.put, List.setIfInBounds_toArray, List.set_cons_zero, List.set_cons_succ]
              refine wpAnyH_done (by kernel_rfl) ?_ _
              exact hQ _ _ ⟨⟨hS.b, r6, hk2, n6⟩, rg7, neg7⟩
            · refine .inl ?_
              refine o_alloc (ty := 25) (d := some 7) rfl (sc S0) (sc_ok S0) (by go_simp; try rfl) ?_
              intro g7 WA eg7 rg7 hb ltg7
              have neg7 : w.heap.size < g7 := by have := hS.b.1.lt; omega
              have d67 : g6 < g7 := by have := r6.lt; omega
              try replace r6 := Rf.below r6 hb
              replace hk2 := hk2.trans (hb.mono hk2.size)
              replace hS := hS.after hb
              clear hb
              refine ⟨hS.b, ?_⟩
              try simp only [Act.put, List.setIfInBounds_toArray, List.set_cons_zero, List.set_cons_succ]
              refine wpAnyH_all (rs := [11]) (by kernel_rfl) (by simp) (fun i hi => ?_)
              simp only [List.mem_cons, List.not_mem_nil, or_false] at hi
              subst hi
              refine .inl ?_
              go_simp
              refine (HDx.out _ hk2).mono ?_
              rintro e wc ⟨rfl, hb⟩
              try replace r6 := Rf.below r6 hb
              try replace rg7 := Rf.below rg7 hb
              replace hk2 := hk2.trans (hb.mono hk2.size)
              replace hS := hS.after hb
              clear hb
              refine ⟨hS.b, ?_⟩
              try simp only [Act.put, List.setIfInBounds_toArray, List.set_cons_zero, List.set_cons_succ]
              refine wpAnyH_all (rs := [13]) (by kernel_rfl) (by simp) (fun i hi => ?_)
              simp only [List.mem_cons, List.not_mem_nil, or_false] at hi
              subst hi
              refine .inl ?_
              refine o_store_R (d := none) rfl (sc σ) rowS rg7 (sc_ok _) rfl rfl rfl ?_
              replace hk2 := below_setRow hk2 (Nat.le_of_lt neg7) (sc σ)
              replace hS := hS.setRow (R := g7) (c := sc σ) (by omega) (by omega)
              replace r6 := r6.setOther (g := g7) (by omega) (sc σ)
              replace rg7 := rg7.set (sc_ok σ)
              refine ⟨hS.b, ?_⟩
              try simp only [Act.put, List.setIfInBounds_toArray, List.set_cons_zero, List.set_cons_succ]
              refine wpAnyH_done (by kernel_rfl) ?_ _
              exact hQ _ _ ⟨⟨hS.b, r6, hk2, n6⟩, rg7, neg7⟩
        intro g7 W7 h7
        obtain ⟨⟨hb7, r6, hk2, n6⟩, r7, n7⟩ := h7
        have hK2 := (Cs.after ⟨hb7.1, hb7.2⟩ (Below.refl _ _).drew : Cs w.heap.size s g (o + k * 2) x W7.drew)
        replace r6 := r6.drew
        replace r7 := r7.drew
        replace hk2 := hk2.drew
        clear hb7 hK1
        go_wp2
        refine wp_region_held_drew (S := fun W => Rf 25 16 W w.heap.size (sc s) ∧ Cw g (o + k * 2) x W) (by kernel_rfl) hK2.b (fun _ => ?_)
        have hS := hK2
        refine take_d (i := 0) (d := some 41) (v := .agg (sc s)) rfl rfl (by kernel_rfl) (by kernel_rfl) (by kernel_rfl) (fun _ _ _ h => h) (y_R rowS (by kernel_rfl) rfl rfl (fun W hW => hW.1)) hS.b ?_
        try simp only [Act.put, List.setIfInBounds_toArray, List.set_cons_zero, List.set_cons_succ]
        refine take_d (i := 1) (d := some 42) (v := ?_) rfl rfl (by kernel_rfl) (by kernel_rfl) (by kernel_rfl) (fun _ _ _ h => h) (.inl ⟨by rfl, ?_⟩) hS.b ?_
        rotate_left
        · intro W hW
          go_simp
          try with_reducible rfl
        try simp only [Act.put, List.setIfInBounds_toArray, List.set_cons_zero, List.set_cons_succ]
        refine take_d (i := 2) (d := some 43) (v := ?_) rfl rfl (by kernel_rfl) (by kernel_rfl) (by kernel_rfl) (fun _ _ _ h => h) (.inl ⟨by rfl, ?_⟩) hS.b ?_
        rotate_left
        · intro W hW
          go_simp
          try with_reducible rfl
        try simp only [Act.put, List.setIfInBounds_toArray, List.set_cons_zero, List.set_cons_succ]
        refine take_d (i := 3) (d := some 44) (v := ?_) rfl rfl (by kernel_rfl) (by kernel_rfl) (by kernel_rfl) (fun _ _ _ h => h) (.inl ⟨by rfl, ?_⟩) hS.b ?_
        rotate_left
        · intro W hW
          go_simp
          try with_reducible rfl
        try simp only [Act.put, List.setIfInBounds_toArray, List.set_cons_zero, List.set_cons_succ]
        refine take_d (i := 4) (d := some 45) (v := ?_) rfl rfl (by kernel_rfl) (by kernel_rfl) (by kernel_rfl) (fun _ _ _ h => h) (.inl ⟨by rfl, ?_⟩) hS.b ?_
        rotate_left
        · intro W hW
          go_simp
          try with_reducible rfl
        try simp only [Act.put, List.setIfInBounds_toArray, List.set_cons_zero, List.set_cons_succ]
        refine take_d (i := 5) (d := some 46) (v := ?_) rfl rfl (by kernel_rfl) (by kernel_rfl) (by kernel_rfl) (fun _ _ _ h => h) (.inl ⟨by rfl, ?_⟩) hS.b ?_
        rotate_left
        · intro W hW
          have q1 := hW.2.b.1; have q2 := hW.2.b.2
          go_simp
          try with_reducible rfl
        try simp only [Act.put, List.setIfInBounds_toArray, List.set_cons_zero, List.set_cons_succ]
        refine wpAnyH_all (rs := [6]) (by kernel_rfl) (by simp) (fun i hi => ?_)
        simp only [List.mem_cons, List.not_mem_nil, or_false] at hi
        subst hi
        refine .inl ?_
        go_simp
        refine (HUx.out _ hk2).mono ?_
        rintro e wc ⟨⟨v, rfl, ht⟩, hb⟩
        replace r6 := Rf.below r6 hb
        replace r7 := Rf.below r7 hb
        replace hk2 := hk2.trans (hb.mono hk2.size)
        replace hS := hS.after hb
        clear hb
        refine ⟨hS.b, ?_⟩
        try simp only [Act.put, List.setIfInBounds_toArray, List.set_cons_zero, List.set_cons_succ]
        refine take_d (i := 7) (d := some 8) (v := ?_) rfl rfl (by kernel_rfl) (by kernel_rfl) (by kernel_rfl) (fun _ _ _ h => h) (.inl ⟨by rfl, ?_⟩) hS.b ?_
        rotate_left
        · intro W hW
          go_simp
          try with_reducible rfl
        try simp only [Act.put, List.setIfInBounds_toArray, List.set_cons_zero, List.set_cons_succ]
        refine wpAnyH_done (by kernel_rfl) ?_ _
        obtain ⟨to, tc, rfl, _, _⟩ := ht.shape
        have HT : Hid (Tt w s P σ g6 g7 (.slice to T.length tc) T _) := Lib.hid ⟨hS.b.1, r6, r7, ht, hk2⟩
        have HG : Hid (∀ (W : World) (p : Plc), TsIs W (.slice to T.length tc) T → gB T p = true → Calls Tryd.prog 19 #[.slice to T.length tc, .agg (pla p)] W fun e w' => e = .returned (.bool true) ∧ Below W.heap.size W w') := Lib.hid (fun W p hT h => by
          have := goes_any p hT
          rw [show (T.any fun t => decide (t.to = p)) = true from h] at this
          exact this)
        clear ht hS hK2 hk2 r6 r7
        have qk := (HT.out.r6.cell 0).trans (show (wnt P)[0]? = some (.int .i64 P.kind) from rfl)
        by_cases k2 : P.kind = 2
        · as_aux_lemma =>
            obtain ⟨⟨a1, a2, a3, a4⟩, m1, m2, m3⟩ := HKD.out (.inl k2)
            rw [k2] at qk
            go_wp2
            go_loopw [10, 11] (fun cg i wr => ∃ r : Nat, r ≤ 8 ∧ cg = .int .i64 (cn r) ∧ i = .int .i64 (r : Int) ∧ Hid (Tt w s P σ g6 g7 (.slice to T.length tc) T wr)) (fun _ i _ => 9 - (intOf i).toNat)
            case atStart => exact ⟨0, by omega, by rw [HC0.out], rfl, HT⟩
            case round =>
              obtain ⟨r, hr, rfl, rfl, HT⟩ := hrel
              by_cases hlt3 : r < 8
              · as_aux_lemma =>
                  have hj : (r : Int) < 8 := by omega
                  have q7 := HT.out.r7.sr hlt3
                  have q0 := HT.out.st.sr hlt3
                  by_cases hd : σ.r r = s.r r
                  · have hc1 := HC1.out r hd
                    rw [hd] at q7
                    have HC := Lib.hid hc1
                    clear hd hc1
                    go_wp2
                    go_region
                    clear q7 q0
                    go_wp2
                    refine ⟨⟨r + 1, by omega, by rw [HC.out], by go_num, Lib.hid HT.out.drew⟩, ?_⟩
                    simp [intOf]; omega
                  · obtain ⟨hc0, hc1⟩ := HC2.out r hd
                    go_wp2
                    go_region
                    clear q7 q0
                    go_wp2
                    refine ⟨⟨r + 1, by omega, by rw [hc1], by go_num, Lib.hid HT.out.drew⟩, ?_⟩
                    simp [intOf]; omega
              · obtain rfl : r = 8 := by omega
                have hc8 := HC8.out 8
                obtain ⟨c8, hc8e⟩ : ∃ c8, cn 8 = c8 := ⟨_, rfl⟩
                rw [hc8e] at hc8 ⊢
                obtain ⟨hc80, hc81⟩ := hc8
                clear hc8e
                have qo := HT.out.r7.s
                have qs := HT.out.st.s
                try clear HZ; try clear HZ0; try clear HP; try clear HD; try clear HU; try clear HPx; try clear HDx; try clear HUx; try clear HREG; try clear HKD; try clear HC0; try clear HC1; try clear HC2; try clear HC8; try clear HRG; try clear HX; try clear HGL; try clear RS; try clear HB; try clear hs
                rw [a1] at qo
                rw [a2] at qo
                rw [a3] at qo
                rw [a4] at qo
                rw [m1, m2, m3] at qo
                go_wp2_with fail
                refine (HG _ (on 2) HT.out.t HPC.out).mono ?_
                rintro e wg ⟨rfl, hb⟩
                replace HT := Lib.hid (HT.out.after hb)
                clear hb qo qs
                go_wp2
                refine ⟨⟨k + 1, by omega, by go_num, Lib.hid HT.out.k, Lib.hid HT.out.st⟩, ?_⟩
                simp [intOf]; omega
        · by_cases k4 : P.kind = 4
          · as_aux_lemma =>
              obtain ⟨⟨a1, a2, a3, a4⟩, m1, m2, m3⟩ := HKD.out (.inr k4)
              rw [k4] at qk
              go_wp2
              go_loopw [10, 11] (fun cg i wr => ∃ r : Nat, r ≤ 8 ∧ cg = .int .i64 (cn r) ∧ i = .int .i64 (r : Int) ∧ Hid (Tt w s P σ g6 g7 (.slice to T.length tc) T wr)) (fun _ i _ => 9 - (intOf i).toNat)
              case atStart => exact ⟨0, by omega, by rw [HC0.out], rfl, HT⟩
              case round =>
                obtain ⟨r, hr, rfl, rfl, HT⟩ := hrel
                by_cases hlt3 : r < 8
                · as_aux_lemma =>
                    have hj : (r : Int) < 8 := by omega
                    have q7 := HT.out.r7.sr hlt3
                    have q0 := HT.out.st.sr hlt3
                    by_cases hd : σ.r r = s.r r
                    · have hc1 := HC1.out r hd
                      rw [hd] at q7
                      have HC := Lib.hid hc1
                      clear hd hc1
                      go_wp2
                      go_region
                      clear q7 q0
                      go_wp2
                      refine ⟨⟨r + 1, by omega, by rw [HC.out], by go_num, Lib.hid HT.out.drew⟩, ?_⟩
                      simp [intOf]; omega
                    · obtain ⟨hc0, hc1⟩ := HC2.out r hd
                      go_wp2
                      go_region
                      clear q7 q0
                      go_wp2
                      refine ⟨⟨r + 1, by omega, by rw [hc1], by go_num, Lib.hid HT.out.drew⟩, ?_⟩
                      simp [intOf]; omega
                · obtain rfl : r = 8 := by omega
                  have hc8 := HC8.out 8
                  obtain ⟨c8, hc8e⟩ : ∃ c8, cn 8 = c8 := ⟨_, rfl⟩
                  rw [hc8e] at hc8 ⊢
                  obtain ⟨hc80, hc81⟩ := hc8
                  clear hc8e
                  have qo := HT.out.r7.s
                  have qs := HT.out.st.s
                  try clear HZ; try clear HZ0; try clear HP; try clear HD; try clear HU; try clear HPx; try clear HDx; try clear HUx; try clear HREG; try clear HKD; try clear HC0; try clear HC1; try clear HC2; try clear HC8; try clear HRG; try clear HX; try clear HGL; try clear RS; try clear HB; try clear hs
                  rw [a1] at qo
                  rw [a2] at qo
                  rw [a3] at qo
                  rw [a4] at qo
                  rw [m1, m2, m3] at qo
                  go_wp2_with fail
                  refine (HG _ (on 2) HT.out.t HPC.out).mono ?_
                  rintro e wg ⟨rfl, hb⟩
                  replace HT := Lib.hid (HT.out.after hb)
                  clear hb qo qs
                  go_wp2
                  refine ⟨⟨k + 1, by omega, by go_num, Lib.hid HT.out.k, Lib.hid HT.out.st⟩, ?_⟩
                  simp [intOf]; omega
          · as_aux_lemma =>
              have HRG := Lib.hid (fun r hd => ((HREG.out r hd).2.resolve_left k2).resolve_left k4)
              go_wp2
              go_loopw [10, 11] (fun cg i wr => ∃ r : Nat, r ≤ 8 ∧ cg = .int .i64 (cn r) ∧ i = .int .i64 (r : Int) ∧ Hid (Tt w s P σ g6 g7 (.slice to T.length tc) T wr)) (fun _ i _ => 9 - (intOf i).toNat)
              case atStart => exact ⟨0, by omega, by rw [HC0.out], rfl, HT⟩
              case round =>
                obtain ⟨r, hr, rfl, rfl, HT⟩ := hrel
                by_cases hlt3 : r < 8
                · as_aux_lemma =>
                    have hj : (r : Int) < 8 := by omega
                    have q7 := HT.out.r7.sr hlt3
                    have q0 := HT.out.st.sr hlt3
                    by_cases hd : σ.r r = s.r r
                    · have hc1 := HC1.out r hd
                      rw [hd] at q7
                      have HC := Lib.hid hc1
                      clear hd hc1
                      go_wp2
                      go_region
                      clear q7 q0
                      go_wp2
                      refine ⟨⟨r + 1, by omega, by rw [HC.out], by go_num, Lib.hid HT.out.drew⟩, ?_⟩
                      simp [intOf]; omega
                    · obtain ⟨hc0, hc1⟩ := HC2.out r hd
                      have HGR := HRG.out r hd
                      go_wp2
                      go_region
                      clear q7 q0
                      go_wp2_with fail
                      refine (HG _ (rg r) HT.out.drew.t HGR).mono ?_
                      rintro e wg ⟨rfl, hb⟩
                      replace HT := Lib.hid (HT.out.drew.after hb)
                      clear hb
                      go_wp2
                      refine ⟨⟨r + 1, by omega, by rw [hc1], by go_num, HT⟩, ?_⟩
                      simp [intOf]; omega
                · obtain rfl : r = 8 := by omega
                  have hc8 := HC8.out 8
                  obtain ⟨c8, hc8e⟩ : ∃ c8, cn 8 = c8 := ⟨_, rfl⟩
                  rw [hc8e] at hc8 ⊢
                  obtain ⟨hc80, hc81⟩ := hc8
                  clear hc8e
                  have qo := HT.out.r7.s
                  have qs := HT.out.st.s
                  try clear HZ; try clear HZ0; try clear HP; try clear HD; try clear HU; try clear HPx; try clear HDx; try clear HUx; try clear HREG; try clear HKD; try clear HC0; try clear HC1; try clear HC2; try clear HC8; try clear HRG; try clear HX; try clear HGL; try clear RS; try clear HB; try clear hs
                  rcases HF4.out with ⟨e1, e2, e3, e4⟩ | ⟨n1, e2, e3, e4, g3⟩ | ⟨e1, n2, e3, e4, g4⟩ | ⟨e1, e2, n3, e4, g5, m1, m2, m3⟩ | ⟨e1, e2, e3, n4, g6x, m1, m2, m3⟩ | ⟨n1, n2, e3, e4, g3, g4⟩
                  · as_aux_lemma =>
                      rw [e1] at qo
                      rw [e2] at qo
                      rw [e3] at qo
                      rw [e4] at qo
                      by_cases hm : σ.su = s.su ∧ σ.pv = s.pv ∧ σ.en = s.en
                      · as_aux_lemma =>
                          obtain ⟨m1, m2, m3⟩ := hm
                          rw [m1, m2, m3] at qo
                          go_wp2_with fail
                          refine (HG _ (on 2) HT.out.t HPC.out).mono ?_
                          rintro e wg ⟨rfl, hb⟩
                          replace HT := Lib.hid (HT.out.after hb)
                          clear hb qo qs
                          go_wp2
                          refine ⟨⟨k + 1, by omega, by go_num, Lib.hid HT.out.k, Lib.hid HT.out.st⟩, ?_⟩
                          simp [intOf]; omega
                      · have H7 := HMD.out.resolve_left hm
                        by_cases m1 : σ.su = s.su
                        · by_cases m2 : σ.pv = s.pv
                          · as_aux_lemma =>
                              have m3 : ¬ σ.en = s.en := fun h => hm ⟨m1, m2, h⟩
                              clear hm
                              rw [m1, m2] at qo
                              go_wp2_with fail
                              refine (HG _ (on 7) HT.out.t H7).mono ?_
                              rintro e wg ⟨rfl, hb⟩
                              replace HT := Lib.hid (HT.out.after hb)
                              clear hb qo qs
                              go_wp2_with fail
                              refine (HG _ (on 2) HT.out.t HPC.out).mono ?_
                              rintro e wg ⟨rfl, hb⟩
                              replace HT := Lib.hid (HT.out.after hb)
                              clear hb
                              go_wp2
                              refine ⟨⟨k + 1, by omega, by go_num, Lib.hid HT.out.k, Lib.hid HT.out.st⟩, ?_⟩
                              simp [intOf]; omega
                          · as_aux_lemma =>
                              clear hm
                              rw [m1] at qo
                              go_wp2_with fail
                              refine (HG _ (on 7) HT.out.t H7).mono ?_
                              rintro e wg ⟨rfl, hb⟩
                              replace HT := Lib.hid (HT.out.after hb)
                              clear hb qo qs
                              go_wp2_with fail
                              refine (HG _ (on 2) HT.out.t HPC.out).mono ?_
                              rintro e wg ⟨rfl, hb⟩
                              replace HT := Lib.hid (HT.out.after hb)
                              clear hb
                              go_wp2
                              refine ⟨⟨k + 1, by omega, by go_num, Lib.hid HT.out.k, Lib.hid HT.out.st⟩, ?_⟩
                              simp [intOf]; omega
                        · as_aux_lemma =>
                            clear hm
                            go_wp2_with fail
                            refine (HG _ (on 7) HT.out.t H7).mono ?_
                            rintro e wg ⟨rfl, hb⟩
                            replace HT := Lib.hid (HT.out.after hb)
                            clear hb qo qs
                            go_wp2_with fail
                            refine (HG _ (on 2) HT.out.t HPC.out).mono ?_
                            rintro e wg ⟨rfl, hb⟩
                            replace HT := Lib.hid (HT.out.after hb)
                            clear hb
                            go_wp2
                            refine ⟨⟨k + 1, by omega, by go_num, Lib.hid HT.out.k, Lib.hid HT.out.st⟩, ?_⟩
                            simp [intOf]; omega
                  · as_aux_lemma =>
                      rw [e2] at qo
                      rw [e3] at qo
                      rw [e4] at qo
                      go_wp2_with fail
                      refine (HG _ (on 3) HT.out.t g3).mono ?_
                      rintro e wg ⟨rfl, hb⟩
                      replace HT := Lib.hid (HT.out.after hb)
                      clear hb qo qs
                      have qo := HT.out.r7.s
                      have qs := HT.out.st.s
                      rw [e2] at qo
                      rw [e3] at qo
                      rw [e4] at qo
                      by_cases hm : σ.su = s.su ∧ σ.pv = s.pv ∧ σ.en = s.en
                      · as_aux_lemma =>
                          obtain ⟨m1, m2, m3⟩ := hm
                          rw [m1, m2, m3] at qo
                          go_wp2_with fail
                          refine (HG _ (on 2) HT.out.t HPC.out).mono ?_
                          rintro e wg ⟨rfl, hb⟩
                          replace HT := Lib.hid (HT.out.after hb)
                          clear hb qo qs
                          go_wp2
                          refine ⟨⟨k + 1, by omega, by go_num, Lib.hid HT.out.k, Lib.hid HT.out.st⟩, ?_⟩
                          simp [intOf]; omega
                      · have H7 := HMD.out.resolve_left hm
                        by_cases m1 : σ.su = s.su
                        · by_cases m2 : σ.pv = s.pv
                          · as_aux_lemma =>
                              have m3 : ¬ σ.en = s.en := fun h => hm ⟨m1, m2, h⟩
                              clear hm
                              rw [m1, m2] at qo
                              go_wp2_with fail
                              refine (HG _ (on 7) HT.out.t H7).mono ?_
                              rintro e wg ⟨rfl, hb⟩
                              replace HT := Lib.hid (HT.out.after hb)
                              clear hb qo qs
                              go_wp2_with fail
                              refine (HG _ (on 2) HT.out.t HPC.out).mono ?_
                              rintro e wg ⟨rfl, hb⟩
                              replace HT := Lib.hid (HT.out.after hb)
                              clear hb
                              go_wp2
                              refine ⟨⟨k + 1, by omega, by go_num, Lib.hid HT.out.k, Lib.hid HT.out.st⟩, ?_⟩
                              simp [intOf]; omega
                          · as_aux_lemma =>
                              clear hm
                              rw [m1] at qo
                              go_wp2_with fail
                              refine (HG _ (on 7) HT.out.t H7).mono ?_
                              rintro e wg ⟨rfl, hb⟩
                              replace HT := Lib.hid (HT.out.after hb)
                              clear hb qo qs
                              go_wp2_with fail
                              refine (HG _ (on 2) HT.out.t HPC.out).mono ?_
                              rintro e wg ⟨rfl, hb⟩
                              replace HT := Lib.hid (HT.out.after hb)
                              clear hb
                              go_wp2
                              refine ⟨⟨k + 1, by omega, by go_num, Lib.hid HT.out.k, Lib.hid HT.out.st⟩, ?_⟩
                              simp [intOf]; omega
                        · as_aux_lemma =>
                            clear hm
                            go_wp2_with fail
                            refine (HG _ (on 7) HT.out.t H7).mono ?_
                            rintro e wg ⟨rfl, hb⟩
                            replace HT := Lib.hid (HT.out.after hb)
                            clear hb qo qs
                            go_wp2_with fail
                            refine (HG _ (on 2) HT.out.t HPC.out).mono ?_
                            rintro e wg ⟨rfl, hb⟩
                            replace HT := Lib.hid (HT.out.after hb)
                            clear hb
                            go_wp2
                            refine ⟨⟨k + 1, by omega, by go_num, Lib.hid HT.out.k, Lib.hid HT.out.st⟩, ?_⟩
                            simp [intOf]; omega
                  · as_aux_lemma =>
                      rw [e1] at qo
                      rw [e3] at qo
                      rw [e4] at qo
                      go_wp2_with fail
                      refine (HG _ (on 4) HT.out.t g4).mono ?_
                      rintro e wg ⟨rfl, hb⟩
                      replace HT := Lib.hid (HT.out.after hb)
                      clear hb qo qs
                      have qo := HT.out.r7.s
                      have qs := HT.out.st.s
                      rw [e1] at qo
                      rw [e3] at qo
                      rw [e4] at qo
                      by_cases hm : σ.su = s.su ∧ σ.pv = s.pv ∧ σ.en = s.en
                      · as_aux_lemma =>
                          obtain ⟨m1, m2, m3⟩ := hm
                          rw [m1, m2, m3] at qo
                          go_wp2_with fail
                          refine (HG _ (on 2) HT.out.t HPC.out).mono ?_
                          rintro e wg ⟨rfl, hb⟩
                          replace HT := Lib.hid (HT.out.after hb)
                          clear hb qo qs
                          go_wp2
                          refine ⟨⟨k + 1, by omega, by go_num, Lib.hid HT.out.k, Lib.hid HT.out.st⟩, ?_⟩
                          simp [intOf]; omega
                      · have H7 := HMD.out.resolve_left hm
                        by_cases m1 : σ.su = s.su
                        · by_cases m2 : σ.pv = s.pv
                          · as_aux_lemma =>
                              have m3 : ¬ σ.en = s.en := fun h => hm ⟨m1, m2, h⟩
                              clear hm
                              rw [m1, m2] at qo
                              go_wp2_with fail
                              refine (HG _ (on 7) HT.out.t H7).mono ?_
                              rintro e wg ⟨rfl, hb⟩
                              replace HT := Lib.hid (HT.out.after hb)
                              clear hb qo qs
                              go_wp2_with fail
                              refine (HG _ (on 2) HT.out.t HPC.out).mono ?_
                              rintro e wg ⟨rfl, hb⟩
                              replace HT := Lib.hid (HT.out.after hb)
                              clear hb
                              go_wp2
                              refine ⟨⟨k + 1, by omega, by go_num, Lib.hid HT.out.k, Lib.hid HT.out.st⟩, ?_⟩
                              simp [intOf]; omega
                          · as_aux_lemma =>
                              clear hm
                              rw [m1] at qo
                              go_wp2_with fail
                              refine (HG _ (on 7) HT.out.t H7).mono ?_
                              rintro e wg ⟨rfl, hb⟩
                              replace HT := Lib.hid (HT.out.after hb)
                              clear hb qo qs
                              go_wp2_with fail
                              refine (HG _ (on 2) HT.out.t HPC.out).mono ?_
                              rintro e wg ⟨rfl, hb⟩
                              replace HT := Lib.hid (HT.out.after hb)
                              clear hb
                              go_wp2
                              refine ⟨⟨k + 1, by omega, by go_num, Lib.hid HT.out.k, Lib.hid HT.out.st⟩, ?_⟩
                              simp [intOf]; omega
                        · as_aux_lemma =>
                            clear hm
                            go_wp2_with fail
                            refine (HG _ (on 7) HT.out.t H7).mono ?_
                            rintro e wg ⟨rfl, hb⟩
                            replace HT := Lib.hid (HT.out.after hb)
                            clear hb qo qs
                            go_wp2_with fail
                            refine (HG _ (on 2) HT.out.t HPC.out).mono ?_
                            rintro e wg ⟨rfl, hb⟩
                            replace HT := Lib.hid (HT.out.after hb)
                            clear hb
                            go_wp2
                            refine ⟨⟨k + 1, by omega, by go_num, Lib.hid HT.out.k, Lib.hid HT.out.st⟩, ?_⟩
                            simp [intOf]; omega
                  · as_aux_lemma =>
                      rw [e1] at qo
                      rw [e2] at qo
                      rw [e4] at qo
                      go_wp2_with fail
                      refine (HG _ (on 5) HT.out.t g5).mono ?_
                      rintro e wg ⟨rfl, hb⟩
                      replace HT := Lib.hid (HT.out.after hb)
                      clear hb qo qs
                      have qo := HT.out.r7.s
                      have qs := HT.out.st.s
                      rw [e1] at qo
                      rw [e2] at qo
                      rw [e4] at qo
                      rw [m1, m2, m3] at qo
                      go_wp2_with fail
                      refine (HG _ (on 2) HT.out.t HPC.out).mono ?_
                      rintro e wg ⟨rfl, hb⟩
                      replace HT := Lib.hid (HT.out.after hb)
                      clear hb qo qs
                      go_wp2
                      refine ⟨⟨k + 1, by omega, by go_num, Lib.hid HT.out.k, Lib.hid HT.out.st⟩, ?_⟩
                      simp [intOf]; omega
                  · as_aux_lemma =>
                      rw [e1] at qo
                      rw [e2] at qo
                      rw [e3] at qo
                      go_wp2_with fail
                      refine (HG _ (on 6) HT.out.t g6x).mono ?_
                      rintro e wg ⟨rfl, hb⟩
                      replace HT := Lib.hid (HT.out.after hb)
                      clear hb qo qs
                      have qo := HT.out.r7.s
                      have qs := HT.out.st.s
                      rw [e1] at qo
                      rw [e2] at qo
                      rw [e3] at qo
                      rw [m1, m2, m3] at qo
                      go_wp2_with fail
                      refine (HG _ (on 2) HT.out.t HPC.out).mono ?_
                      rintro e wg ⟨rfl, hb⟩
                      replace HT := Lib.hid (HT.out.after hb)
                      clear hb qo qs
                      go_wp2
                      refine ⟨⟨k + 1, by omega, by go_num, Lib.hid HT.out.k, Lib.hid HT.out.st⟩, ?_⟩
                      simp [intOf]; omega
                  · as_aux_lemma =>
                      rw [e3] at qo
                      rw [e4] at qo
                      go_wp2_with fail
                      refine (HG _ (on 3) HT.out.t g3).mono ?_
                      rintro e wg ⟨rfl, hb⟩
                      replace HT := Lib.hid (HT.out.after hb)
                      clear hb qo qs
                      have qo := HT.out.r7.s
                      have qs := HT.out.st.s
                      rw [e3] at qo
                      rw [e4] at qo
                      go_wp2_with fail
                      refine (HG _ (on 4) HT.out.t g4).mono ?_
                      rintro e wg ⟨rfl, hb⟩
                      replace HT := Lib.hid (HT.out.after hb)
                      clear hb qo qs
                      have qo := HT.out.r7.s
                      have qs := HT.out.st.s
                      rw [e3] at qo
                      rw [e4] at qo
                      by_cases hm : σ.su = s.su ∧ σ.pv = s.pv ∧ σ.en = s.en
                      · as_aux_lemma =>
                          obtain ⟨m1, m2, m3⟩ := hm
                          rw [m1, m2, m3] at qo
                          go_wp2_with fail
                          refine (HG _ (on 2) HT.out.t HPC.out).mono ?_
                          rintro e wg ⟨rfl, hb⟩
                          replace HT := Lib.hid (HT.out.after hb)
                          clear hb qo qs
                          go_wp2
                          refine ⟨⟨k + 1, by omega, by go_num, Lib.hid HT.out.k, Lib.hid HT.out.st⟩, ?_⟩
                          simp [intOf]; omega
                      · have H7 := HMD.out.resolve_left hm
                        by_cases m1 : σ.su = s.su
                        · by_cases m2 : σ.pv = s.pv
                          · as_aux_lemma =>
                              have m3 : ¬ σ.en = s.en := fun h => hm ⟨m1, m2, h⟩
                              clear hm
                              rw [m1, m2] at qo
                              go_wp2_with fail
                              refine (HG _ (on 7) HT.out.t H7).mono ?_
                              rintro e wg ⟨rfl, hb⟩
                              replace HT := Lib.hid (HT.out.after hb)
                              clear hb qo qs
                              go_wp2_with fail
                              refine (HG _ (on 2) HT.out.t HPC.out).mono ?_
                              rintro e wg ⟨rfl, hb⟩
                              replace HT := Lib.hid (HT.out.after hb)
                              clear hb
                              go_wp2
                              refine ⟨⟨k + 1, by omega, by go_num, Lib.hid HT.out.k, Lib.hid HT.out.st⟩, ?_⟩
                              simp [intOf]; omega
                          · as_aux_lemma =>
                              clear hm
                              rw [m1] at qo
                              go_wp2_with fail
                              refine (HG _ (on 7) HT.out.t H7).mono ?_
                              rintro e wg ⟨rfl, hb⟩
                              replace HT := Lib.hid (HT.out.after hb)
                              clear hb qo qs
                              go_wp2_with fail
                              refine (HG _ (on 2) HT.out.t HPC.out).mono ?_
                              rintro e wg ⟨rfl, hb⟩
                              replace HT := Lib.hid (HT.out.after hb)
                              clear hb
                              go_wp2
                              refine ⟨⟨k + 1, by omega, by go_num, Lib.hid HT.out.k, Lib.hid HT.out.st⟩, ?_⟩
                              simp [intOf]; omega
                        · as_aux_lemma =>
                            clear hm
                            go_wp2_with fail
                            refine (HG _ (on 7) HT.out.t H7).mono ?_
                            rintro e wg ⟨rfl, hb⟩
                            replace HT := Lib.hid (HT.out.after hb)
                            clear hb qo qs
                            go_wp2_with fail
                            refine (HG _ (on 2) HT.out.t HPC.out).mono ?_
                            rintro e wg ⟨rfl, hb⟩
                            replace HT := Lib.hid (HT.out.after hb)
                            clear hb
                            go_wp2
                            refine ⟨⟨k + 1, by omega, by go_num, Lib.hid HT.out.k, Lib.hid HT.out.st⟩, ?_⟩
                            simp [intOf]; omega
      · obtain rfl : k = xs.length := by omega
        go_wp2_with fail
        refine (known_any _ (HE.out _ HBl.out).1).mono ?_
        rintro e w1 ⟨rfl, b1⟩
        have HB1 := Lib.hid (HBl.out.trans (b1.mono HBl.out.size))
        clear b1
        go_wp2
        go_ret
        exact ⟨rfl, HB1.out⟩
end Go.Proofs.YthjdfneibogcgaaDoor

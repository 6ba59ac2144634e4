/-
  Layer 10: CpuSums, CpuBranches: walks. Written by gen_tq.py.
-/
import Derived.Test.YthjdfneibogcgaaDoorLOps
namespace Go.Proofs.YthjdfneibogcgaaDoor
open Go.RowKit
set_option maxHeartbeats 16000000
set_option linter.unusedVariables false
set_option linter.unusedSimpArgs false

def S2a (a b : Int) : Sta := ⟨fun k => if k = 1 then a else if k = 2 then b else 0, 0, 0, 0, 0, 0, true, false, false⟩
theorem S2a_ok {a b : Int} (ha : W32 a) (hb : W32 b) : (S2a a b).Ok := ⟨fun k => by
  unfold S2a
  dsimp only
  split
  · exact ha
  · split
    · exact hb
    · exact ⟨by decide, by decide⟩, (by unfold W32 S2a; dsimp only; omega), (by unfold W32 S2a; dsimp only; omega), (by unfold W32 S2a; dsimp only; omega), (by unfold W32 S2a; dsimp only; omega), (by unfold W32 S2a; dsimp only; omega)⟩
def S3a (a b p : Int) : Sta := ⟨fun k => if k = 1 then a else if k = 2 then b else if k = 3 then a else 0, p, 0, 0, 64, 0, true, false, false⟩
theorem S3a_ok {a b p : Int} (ha : W32 a) (hb : W32 b) (hp : W32 p) : (S3a a b p).Ok := ⟨fun k => by
  unfold S3a
  dsimp only
  split
  · exact ha
  · split
    · exact hb
    · split
      · exact ha
      · exact ⟨by decide, by decide⟩, hp, (by unfold W32 S3a; dsimp only; omega), (by unfold W32 S3a; dsimp only; omega), (by unfold W32 S3a; dsimp only; omega), (by unfold W32 S3a; dsimp only; omega)⟩
/-- A state that a law makes, in its block. -/
structure Sb (w : World) (R : Nat) (s : Sta) (W : World) : Prop where
  r : Rf 25 16 W R (sc s)
  b : Below w.heap.size w W
  h : w.heap.size ≤ R
theorem wp_store_sb {ops : Array Oper} {rest : List Oper} {a : Act} {W w : World} {Q : Exit → Act → World → Prop} {s : Sta} {R : Nat} {d : Option Tmp} {x y : Operand} {ty2 : TypeId} {pos : String} {af : Array Edge} (hD : Sb w R s W) (j : Nat) (v : Int) (s' : Sta) (e : (sc s).setIfInBounds j (.int .u32 v) = sc s') (u : Value) (hu : (sc s)[j]? = some u) (hx : a.eval x = .pointer (some ⟨R, j, none⟩)) (hy : a.eval y = .int .u32 v)
    (h : ∀ W', Sb w R s' W' → (∀ k, k ≠ R → W'.heap[k]? = W.heap[k]?) → wpList Tryd.prog ops Q rest (a.put d undef) W') : wpList Tryd.prog ops Q ({ dst := d, op := .store 22 x y, type := ty2, pos := pos, after := af, guard := none } :: rest) a W :=
  wpList_plain rfl fun K hK => by
    refine o_store_u32 (d := d) rfl ((hD.r.cell j).trans hu) (hD.r.blk.frozen j) rfl hx hy ?_
    exact hK _ _ (h _ ⟨by rw [← e]; exact hD.r.setCell rfl j, hD.b.setCell (p := ⟨R, j, none⟩) hD.h _, hD.h⟩ (fun k hk => Below.heap_setCell _ _ _ _ hk))
theorem Rf.newC (w : World) (s : Sta) (c : Array Value) (e : c = sc s) : Rf 25 16 (w.alloc (.cells c 25)) w.heap.size (sc s) := by subst e; exact rs_new w s
def S3b (a b c p : Int) : Sta := ⟨fun k => if k = 1 then a else if k = 2 then b else if k = 3 then c else 0, p, 0, 0, 64, 0, true, false, false⟩
set_option maxRecDepth 100000 in
theorem CpuSums_walk (a : Int) (ha : W32 a) (b : Int) (hb : W32 b) (m : Int) (hm : (Lit.int .u16 m).wf = true) (w : World) (h : Env w ∧ Nam w) : Calls Tryd.prog 9 #[.int .u32 a, .int .u32 b, .int .u16 m] w fun e w' => e = .returned (.bool true) ∧ Below w.heap.size w w' := by
  obtain ⟨σ, hσ⟩ : ∃ σ, Hid (σ = S2a a b) := ⟨_, rfl⟩
  have hok : σ.Ok := by rw [hσ.out]; exact S2a_ok ha hb
  have HE := Lib.hid (fun W (hb : Below w.heap.size w W) => (show Env W ∧ Nam W from ⟨h.1.below hb, h.2.below hb⟩))
  have HO := Lib.hid (fun W (x : Td) (hx : x.Ok) (hb : Below w.heap.size w W) => one_any σ hok x hx W ⟨h.1.below hb, h.2.below hb⟩)
  clear h
  obtain ⟨hm0, hm1⟩ := u16_of hm
  clear hm
  go_enter Tryd.func9, Tryd.ntmps9
  obtain ⟨W0, HW0⟩ : ∃ W0, Hid (W0 = w.alloc (.cells (sc (S2a 0 0)) 25)) := ⟨_, rfl⟩
  have H0 : Hid (Sb w w.heap.size (S2a 0 0) W0) := Lib.hid (by rw [HW0.out]; exact ⟨rs_new w _, bel1 _ _, Nat.le_refl _⟩)
  go_wp2_with (first | ((with_reducible refine wp_store_Rn (sc (S2a 0 0)) rowS ?_ ?_ ?_ ?_); (exact ⟨rfl, sc_ok _⟩); (kernel_rfl); (kernel_rfl); (rw [← HW0.out])) | ((with_reducible refine wp_store_sb H0.out 1 a (S2a a 0) ?_ (.int .u32 0) ?_ ?_ ?_ ?_); (rfl); (rfl); (rfl); (rfl)))
  intro W1 h1 _
  have H1 := Lib.hid h1
  clear h1 H0 HW0
  go_wp2_with ((with_reducible refine wp_store_sb H1.out 2 b (S2a a b) ?_ (.int .u32 0) ?_ ?_ ?_ ?_); (rfl); (rfl); (rfl); (rfl))
  intro W2 h2 _
  have HB := Lib.hid h2.b
  have RS := Lib.hid h2.r
  rw [← hσ.out] at RS
  clear h2 H1
  go_wp2
  go_loopw [8] (fun i wr => ∃ k : Nat, k ≤ 13 ∧ 2 ≤ k ∧ i = .int .u32 (k : Int) ∧ Hid (Below w.heap.size w wr) ∧ Hid (Rf 25 16 wr w.heap.size (sc σ))) (fun i _ => 31 - (intOf i).toNat)
  case atStart => exact ⟨2, by omega, by omega, rfl, HB, RS⟩
  case round =>
    obtain ⟨k, hk, hk0, rfl, HBl, HR⟩ := hrel
    by_cases hlt : k < 13
    · have hi : (k : Int) < 13 := by omega
      go_wp2
      go_loopw [9] (fun j wr => ∃ n : Nat, n ≤ 4 ∧ j = .int .u32 (n : Int) ∧ Hid (Below w.heap.size w wr) ∧ Hid (Rf 25 16 wr w.heap.size (sc σ))) (fun j _ => 16 - (intOf j).toNat)
      case atStart => exact ⟨0, by omega, rfl, HBl, HR⟩
      case round =>
        obtain ⟨n, hn, rfl, HBl, HR⟩ := hrel
        by_cases hlt2 : n < 4
        · have hj : (n : Int) < 4 := by omega
          go_wp2_with (first | ((with_reducible refine wp_load_R rowS HR.out ?_ ?_); (kernel_rfl)) | ((with_reducible refine wp_load_Rg ?_ rowS HR.out ?_ ?_); (kernel_rfl); (rfl)))
          refine (HO.out _ ⟨_, _⟩ ⟨by (try dsimp only); first | exact bw _ _ _ | exact md_w32 _ | exact ⟨by omega, by omega⟩, by (try dsimp only); first | exact ⟨by omega, by omega⟩⟩ HBl.out).mono ?_
          rintro e w1 ⟨rfl, b1⟩
          have HB1 := Lib.hid (HBl.out.trans (b1.mono HBl.out.size))
          have HR1 := Lib.hid (HR.out.below b1)
          clear b1
          go_wp2_with (first | ((with_reducible refine wp_load_R rowS HR1.out ?_ ?_); (kernel_rfl)) | ((with_reducible refine wp_load_Rg ?_ rowS HR1.out ?_ ?_); (kernel_rfl); (rfl)))
          refine (HO.out _ ⟨_, _⟩ ⟨by (try dsimp only); first | exact bw _ _ _ | exact md_w32 _ | exact ⟨by omega, by omega⟩, by (try dsimp only); first | exact ⟨by omega, by omega⟩⟩ HB1.out).mono ?_
          rintro e w2 ⟨rfl, b2⟩
          have HB2 := Lib.hid (HB1.out.trans (b2.mono HB1.out.size))
          have HR2 := Lib.hid (HR1.out.below b2)
          clear b2
          go_wp2_with (first | ((with_reducible refine wp_load_R rowS HR2.out ?_ ?_); (kernel_rfl)) | ((with_reducible refine wp_load_Rg ?_ rowS HR2.out ?_ ?_); (kernel_rfl); (rfl)))
          refine (HO.out _ ⟨_, _⟩ ⟨by (try dsimp only); first | exact bw _ _ _ | exact md_w32 _ | exact ⟨by omega, by omega⟩, by (try dsimp only); first | exact ⟨by omega, by omega⟩⟩ HB2.out).mono ?_
          rintro e w3 ⟨rfl, b3⟩
          have HB3 := Lib.hid (HB2.out.trans (b3.mono HB2.out.size))
          have HR3 := Lib.hid (HR2.out.below b3)
          clear b3
          go_wp2
          refine ⟨⟨n + 1, by omega, by go_num, HB3, HR3⟩, ?_⟩
          simp [intOf]; omega
        · obtain rfl : n = 4 := by omega
          go_wp2
          refine ⟨⟨k + 1, by omega, by omega, by go_num, HBl, HR⟩, ?_⟩
          simp [intOf]; omega
    · obtain rfl : k = 13 := by omega
      go_wp2_with fail
      refine (known_any _ (HE.out _ HBl.out).1).mono ?_
      rintro e w1 ⟨rfl, b1⟩
      have HB1 := Lib.hid (HBl.out.trans (b1.mono HBl.out.size))
      clear b1
      go_wp2
      go_ret
      exact ⟨rfl, HB1.out⟩
set_option maxRecDepth 100000 in
theorem CpuBranches_walk (a : Int) (ha : W32 a) (b : Int) (hb : W32 b) (x : Td) (hx : x.Ok) (w : World) (h : Env w ∧ Nam w) : Calls Tryd.prog 10 #[.int .u32 a, .int .u32 b, .agg (tdc x)] w fun e w' => e = .returned (.bool true) ∧ Below w.heap.size w w' := by
  obtain ⟨σ, hσ⟩ : ∃ σ, Hid (σ = S3a a b x.t) := ⟨_, rfl⟩
  have hok : σ.Ok := by rw [hσ.out]; exact S3a_ok ha hb hx.t
  have HE := Lib.hid (fun W (hb : Below w.heap.size w W) => (show Env W ∧ Nam W from ⟨h.1.below hb, h.2.below hb⟩))
  have HO := Lib.hid (fun W (x : Td) (hx : x.Ok) (hb : Below w.heap.size w W) => one_any σ hok x hx W ⟨h.1.below hb, h.2.below hb⟩)
  clear h
  obtain ⟨hx0, hx1⟩ := hx.w
  have HT : Hid (Rf 30 2 (w.alloc (.cells (tdc x) 30)) w.heap.size (tdc x)) := Lib.hid ((show Ok1 2 (tdc x) from ⟨rfl, by simp [tdc, Value.oneCell']⟩).new 30 w)
  have qt := (HT.out.cell 1).trans (show (tdc x)[1]? = some (.int .u32 x.t) from rfl)
  have HZ := Lib.hid (rs_newZ (w.alloc (.cells (tdc x) 30)) (w.heap.size + 1) (by simp))
  obtain ⟨W0, HW0⟩ : ∃ W0, Hid (W0 = ((w.alloc (.cells (tdc x) 30)).alloc (.cells #[Value.int .u32 0, Value.int .u32 0, Value.int .u32 0, Value.int .u32 0, Value.int .u32 0, Value.int .u32 0, Value.int .u32 0, Value.int .u32 0, Value.int .u32 0, Value.int .u32 0, Value.int .u32 0, Value.int .u32 0, Value.int .u32 0, Value.bool false, Value.bool false, Value.bool false] 25)).setRow (w.heap.size + 1) (sc (S3b 0 0 0 x.t))) := ⟨_, rfl⟩
  have H0 : Hid (Sb w (w.heap.size + 1) (S3b 0 0 0 x.t) W0 ∧ Rf 30 2 W0 w.heap.size (tdc x)) := Lib.hid (by
    rw [HW0.out]
    exact ⟨⟨HZ.out.set (sc_ok _), below_setRow ((bel1 w _).alloc (by simp) _) (by omega) _, by omega⟩, (HT.out.alloc _).setOther (by omega) _⟩)
  clear HT
  go_enter Tryd.func10, Tryd.ntmps10
  go_wp2_with (first | ((with_reducible refine wp_store_R (sc (S3b 0 0 0 x.t)) rowS ⟨HZ.out, sc_ok _⟩ ?_ ?_ ?_); (rfl); (rfl); (rw [← HW0.out])) | ((with_reducible refine wp_store_sb H0.out.1 1 a (S3b a 0 0 x.t) ?_ (.int .u32 0) ?_ ?_ ?_ ?_); (rfl); (rfl); (rfl); (rfl)))
  intro W1 h1 t1
  have H1 := Lib.hid (And.intro h1 (H0.out.2.keep (t1 w.heap.size (by omega))))
  clear h1 t1 H0 HW0 qt HZ
  go_wp2_with ((with_reducible refine wp_store_sb H1.out.1 2 b (S3b a b 0 x.t) ?_ (.int .u32 0) ?_ ?_ ?_ ?_); (rfl); (rfl); (rfl); (rfl))
  intro W2 h2 t2
  have H2 := Lib.hid (And.intro h2 (H1.out.2.keep (t2 w.heap.size (by omega))))
  clear h2 t2 H1
  go_wp2_with ((with_reducible refine wp_store_sb H2.out.1 3 a (S3b a b a x.t) ?_ (.int .u32 0) ?_ ?_ ?_ ?_); (rfl); (rfl); (rfl); (rfl))
  intro W3 h3 t3
  have HT := Lib.hid (H2.out.2.keep (t3 w.heap.size (by omega)))
  have HB := Lib.hid h3.b
  have RS : Hid (Rf 25 16 W3 (w.heap.size + 1) (sc σ)) := Lib.hid (by rw [hσ.out]; exact h3.r)
  clear h3 t3 H2
  go_wp2
  go_loopw [8] (fun i wr => ∃ k : Nat, k ≤ 22 ∧ 17 ≤ k ∧ i = .int .u32 (k : Int) ∧ Hid (Below w.heap.size w wr) ∧ Hid (Rf 25 16 wr (w.heap.size + 1) (sc σ)) ∧ Hid (Rf 30 2 wr w.heap.size (tdc x))) (fun i _ => 31 - (intOf i).toNat)
  case atStart => exact ⟨17, by omega, by omega, rfl, HB, RS, HT⟩
  case round =>
    obtain ⟨k, hk, hk0, rfl, HBl, HR, HQ⟩ := hrel
    by_cases hlt : k < 22
    · have hi : (k : Int) < 22 := by omega
      go_wp2
      go_loopw [9] (fun j wr => ∃ n : Nat, n ≤ 9 ∧ j = .int .u32 (n : Int) ∧ Hid (Below w.heap.size w wr) ∧ Hid (Rf 25 16 wr (w.heap.size + 1) (sc σ)) ∧ Hid (Rf 30 2 wr w.heap.size (tdc x))) (fun j _ => 16 - (intOf j).toNat)
      case atStart => exact ⟨0, by omega, rfl, HBl, HR, HQ⟩
      case round =>
        obtain ⟨n, hn, rfl, HBl, HR, HQ⟩ := hrel
        by_cases hlt2 : n < 9
        · have hj : (n : Int) < 9 := by omega
          have q0 := (HQ.out.cell 0).trans (show (tdc x)[0]? = some (.int .u32 x.w) from rfl)
          go_wp2_with (first | ((with_reducible refine wp_load_R rowS HR.out ?_ ?_); (kernel_rfl)) | ((with_reducible refine wp_load_Rg ?_ rowS HR.out ?_ ?_); (kernel_rfl); (rfl)))
          refine (HO.out _ ⟨_, _⟩ ⟨by (try dsimp only); first | exact bw _ _ _ | exact md_w32 _ | exact ⟨by omega, by omega⟩, by (try dsimp only); first | exact ⟨by omega, by omega⟩⟩ HBl.out).mono ?_
          rintro e w1 ⟨rfl, b1⟩
          have HB1 := Lib.hid (HBl.out.trans (b1.mono HBl.out.size))
          have HR1 := Lib.hid (HR.out.below b1)
          have HQ1 := Lib.hid (HQ.out.below b1)
          clear b1 q0
          have q0 := (HQ1.out.cell 0).trans (show (tdc x)[0]? = some (.int .u32 x.w) from rfl)
          go_wp2_with (first | ((with_reducible refine wp_load_R rowS HR1.out ?_ ?_); (kernel_rfl)) | ((with_reducible refine wp_load_Rg ?_ rowS HR1.out ?_ ?_); (kernel_rfl); (rfl)))
          refine (HO.out _ ⟨_, _⟩ ⟨by (try dsimp only); first | exact bw _ _ _ | exact md_w32 _ | exact ⟨by omega, by omega⟩, by (try dsimp only); first | exact ⟨by omega, by omega⟩⟩ HB1.out).mono ?_
          rintro e w2 ⟨rfl, b2⟩
          have HB2 := Lib.hid (HB1.out.trans (b2.mono HB1.out.size))
          have HR2 := Lib.hid (HR1.out.below b2)
          have HQ2 := Lib.hid (HQ1.out.below b2)
          clear b2 q0
          have q0 := (HQ2.out.cell 0).trans (show (tdc x)[0]? = some (.int .u32 x.w) from rfl)
          go_wp2_with (first | ((with_reducible refine wp_load_R rowS HR2.out ?_ ?_); (kernel_rfl)) | ((with_reducible refine wp_load_Rg ?_ rowS HR2.out ?_ ?_); (kernel_rfl); (rfl)))
          refine (HO.out _ ⟨_, _⟩ ⟨by (try dsimp only); first | exact bw _ _ _ | exact md_w32 _ | exact ⟨by omega, by omega⟩, by (try dsimp only); first | exact ⟨by omega, by omega⟩⟩ HB2.out).mono ?_
          rintro e w3 ⟨rfl, b3⟩
          have HB3 := Lib.hid (HB2.out.trans (b3.mono HB2.out.size))
          have HR3 := Lib.hid (HR2.out.below b3)
          have HQ3 := Lib.hid (HQ2.out.below b3)
          clear b3 q0
          have q0 := (HQ3.out.cell 0).trans (show (tdc x)[0]? = some (.int .u32 x.w) from rfl)
          go_wp2
          refine ⟨⟨n + 1, by omega, by go_num, HB3, HR3, HQ3⟩, ?_⟩
          simp [intOf]; omega
        · obtain rfl : n = 9 := by omega
          go_wp2
          refine ⟨⟨k + 1, by omega, by omega, by go_num, HBl, HR, HQ⟩, ?_⟩
          simp [intOf]; omega
    · obtain rfl : k = 22 := by omega
      go_wp2_with fail
      refine (known_any _ (HE.out _ HBl.out).1).mono ?_
      rintro e w1 ⟨rfl, b1⟩
      have HB1 := Lib.hid (HBl.out.trans (b1.mono HBl.out.size))
      clear b1
      go_wp2
      go_ret
      exact ⟨rfl, HB1.out⟩
end Go.Proofs.YthjdfneibogcgaaDoor

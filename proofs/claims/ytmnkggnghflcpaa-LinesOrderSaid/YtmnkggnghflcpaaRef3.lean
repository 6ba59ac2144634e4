/-
  Layer 7: the document's answers: wants, Wants, Pending: walks. Written by gen_ref3.py.
-/
import Derived.Test.YtmnkggnghflcpaaRef2
namespace Go.Proofs.Ytmnkggnghflcpaa
open Go.RowKit
set_option maxHeartbeats 1000000
set_option linter.unusedVariables false
set_option linter.unusedSimpArgs false

theorem Rwants_any {w : World} {l : Ls} {c : Array Value} {G : Nat → Prop} (h : Rv w l c G) (hok : l.Ok) (now : Int) (k : Nat) (hk : k < 4) : Calls Try.prog 44 #[.agg c, .int .i64 (k : Int), .int .i64 now] w fun e w' => e = .returned (.bool (l.w now k)) ∧ Below w.heap.size w w' := by
  obtain ⟨pv, tv, rfl, rfl, h⟩ := h
  obtain ⟨h1, hb⟩ := one_start w (rcL l pv tv) (h.ok l)
  obtain ⟨o, n, rfl, hn, hml, _⟩ := h.p.form
  obtain ⟨c0, _, c2, c3, c4, c5, c6, c7, _⟩ := h1.cells
  have HB := Lib.hid hb
  have hal := hok.al
  have htk := hok.tk
  unfold W32 at hal
  unfold maxLen at hml
  clear h h1 hb hok
  rcases lt4 hk with rfl | rfl | rfl | rfl
  · have HE := Lib.hid (show l.w now 0 = (decide (0 < l.al) && decide (l.al ≤ now)) from rfl)
    by_cases h0 : 0 < l.al
    · go_enter Try.func44, Try.ntmps44
      go_wp2
      go_ret
      refine ⟨?_, HB.out⟩
      rw [HE.out]
      simp [h0]
    · go_enter Try.func44, Try.ntmps44
      go_wp2
      go_ret
      refine ⟨?_, HB.out⟩
      rw [HE.out]
      simp <;> omega
  · have HE := Lib.hid (show l.w now 1 = decide (l.tk < l.ps.length) from rfl)
    go_enter Try.func44, Try.ntmps44
    go_wp2
    go_ret
    refine ⟨?_, HB.out⟩
    rw [HE.out]
    simp
  · go_enter Try.func44, Try.ntmps44
    go_wp2
    go_ret
    exact ⟨rfl, HB.out⟩
  · go_enter Try.func44, Try.ntmps44
    go_wp2
    go_ret
    exact ⟨rfl, HB.out⟩
/-- What holds in each round: the box, the value. -/
structure RwI (w : World) (N : Nat) (l : Ls) (c : Array Value) (G : Nat → Prop) (W : World) : Prop where
  a : Rf W N c
  rv : Rv W l c G
  below : Below w.heap.size w W
theorem RwI.after {w W W' : World} {N : Nat} {l : Ls} {c : Array Value} {G : Nat → Prop} (h : RwI w N l c G W) (hb : Below W.heap.size W W') : RwI w N l c G W' := ⟨h.a.below hb, h.rv.below hb, h.below.trans (hb.mono h.below.size)⟩
theorem rw_start {w : World} {l : Ls} {c : Array Value} {G : Nat → Prop} (h : Rv w l c G) : RwI w w.heap.size l c G (w.alloc (.cells c 30)) :=
  ⟨h.new w, h.below ((Below.refl _ _).alloc (Nat.le_refl _) _), (Below.refl _ _).alloc (Nat.le_refl _) _⟩
theorem pow_lit {k : Nat} (hk : k < 4) : ∃ b : Int, (2 : Int) ^ k = b ∧ 1 ≤ b ∧ b ≤ 8 ∧ (2 : Int) ^ (k + 1) = b * 2 := by
  rcases lt4 hk with rfl | rfl | rfl | rfl
  · exact ⟨1, rfl, by decide, by decide, rfl⟩
  · exact ⟨2, rfl, by decide, by decide, rfl⟩
  · exact ⟨4, rfl, by decide, by decide, rfl⟩
  · exact ⟨8, rfl, by decide, by decide, rfl⟩
set_option maxRecDepth 100000 in
theorem RWants_any {w : World} {l : Ls} {c : Array Value} {G : Nat → Prop} (h : Rv w l c G) (hok : l.Ok) (now : Int) : Calls Try.prog 18 #[.agg c, .int .i64 now] w fun e w' => e = .returned (.int .u32 (l.wn now)) ∧ Below w.heap.size w w' := by
  have H0 := Lib.hid (rw_start h)
  have HOK := Lib.hid hok
  clear h hok
  go_enter Try.func18, Try.ntmps18
  go_wp2
  generalize w.alloc (.cells c 30) = W0 at H0 ⊢
  go_loopw [5, 6, 7] (fun s b q wr => ∃ (k : Nat) (x y : Int), k ≤ 4 ∧ s = .int .u32 x ∧ b = .int .u32 y ∧ q = .int .i64 (k : Int) ∧ Hid (x = bsum (wfrom (l.w now) k)) ∧ Hid (y = 2 ^ k) ∧ 0 ≤ x ∧ x < 16 ∧ 0 ≤ y ∧ y ≤ 16 ∧ Hid (RwI w w.heap.size l c G wr)) (fun _ _ q _ => 5 - (intOf q).toNat)
  case atStart => exact ⟨0, 0, 1, by omega, rfl, rfl, rfl, rfl, rfl, by omega, by omega, by omega, by omega, H0.out⟩
  case round =>
    obtain ⟨k, x, y, hk, rfl, rfl, rfl, HX, HY, hx0, hx1, hy0, hy1, HI⟩ := hrel
    by_cases hlt : k < 4
    · have hi : (k : Int) < 4 := by omega
      have HW := Lib.hid (Rwants_any HI.out.rv HOK.out now k hlt)
      obtain ⟨b, eb, hb1, hb2, eb2⟩ := pow_lit hlt
      have hyb : y = b := HY.out.trans eb
      have hbs := bsum_lt (l.w now) (k + 1)
      have hle16 : (2 : Int) ^ (k + 1) ≤ 16 := by rw [eb2]; omega
      have hstep := bsum_wfrom (l.w now) k
      rw [eb] at hstep
      subst hyb
      have HY2 := Lib.hid eb2.symm
      cases hq : l.w now k with
      | true =>
        rw [hq] at HW hstep
        have e2 : bsum (wfrom (l.w now) (k + 1)) = x + y := by rw [hstep, HX.out]; simp [b2i]
        rw [e2] at hbs
        have HX2 : Hid (x + y = bsum (wfrom (l.w now) (k + 1))) := e2.symm
        have hs : x + y < 16 := by omega
        clear hq hstep hbs hle16 e2 eb eb2
        go_wp2_with ((with_reducible apply wp_load_R); (exact HI.out.a); (rfl))
        refine HW.out.mono ?_
        rintro e w1 ⟨rfl, hb⟩
        have HI2 := Lib.hid (HI.out.after hb)
        clear hb HI HW
        go_wp2
        go_roundw
        case rel => exact ⟨k + 1, x + y, y * 2, by omega, by go_num, by go_num, by go_num, HX2.out, HY2.out, by omega, by omega, by omega, by omega, HI2.out⟩
        case measure => simp [intOf]; omega
      | false =>
        rw [hq] at HW hstep
        have HX2 : Hid (x = bsum (wfrom (l.w now) (k + 1))) := by show x = _; rw [hstep, HX.out]; simp [b2i]
        clear hq hstep hbs hle16 eb eb2
        go_wp2_with ((with_reducible apply wp_load_R); (exact HI.out.a); (rfl))
        refine HW.out.mono ?_
        rintro e w1 ⟨rfl, hb⟩
        have HI2 := Lib.hid (HI.out.after hb)
        clear hb HI HW
        go_wp2
        go_roundw
        case rel => exact ⟨k + 1, x, y * 2, by omega, rfl, by go_num, by go_num, HX2.out, HY2.out, by omega, by omega, by omega, by omega, HI2.out⟩
        case measure => simp [intOf]; omega
    · obtain rfl : k = 4 := by omega
      have HE := Lib.hid HX.out
      go_wp2
      go_ret
      exact ⟨by rw [show l.wn now = x from HE.out.symm]; rfl, HI.out.below⟩
set_option maxRecDepth 100000 in
theorem RPending_any {w : World} {l : Ls} {c : Array Value} {G : Nat → Prop} (h : Rv w l c G) (hok : l.Ok) (now : Int) : Calls Try.prog 16 #[.agg c, .int .i64 now] w fun e w' => e = .returned (.int .i64 (l.pdI now)) ∧ Below w.heap.size w w' := by
  have H0 := Lib.hid (rw_start h)
  have HOK := Lib.hid hok
  have hms := hok.ms
  clear h hok
  go_enter Try.func16, Try.ntmps16
  go_wp2
  generalize w.alloc (.cells c 30) = W0 at H0 ⊢
  go_loopw [5, 6] (fun b q wr => ∃ (k : Nat) (y : Int), k ≤ 4 ∧ b = .int .u32 y ∧ q = .int .i64 (k : Int) ∧ Hid (∀ j, j < k → (l.w now j && bit l.ms j) = false) ∧ Hid (y = 2 ^ k) ∧ 1 ≤ y ∧ y ≤ 16 ∧ Hid (RwI w w.heap.size l c G wr)) (fun _ q _ => 5 - (intOf q).toNat)
  case atStart => exact ⟨0, 1, by omega, rfl, rfl, fun j hj => by omega, rfl, by omega, by omega, H0.out⟩
  case round =>
    obtain ⟨k, y, hk, rfl, rfl, HN, HY, hy0, hy1, HI⟩ := hrel
    by_cases hlt : k < 4
    · have hi : (k : Int) < 4 := by omega
      have HW := Lib.hid (Rwants_any HI.out.rv HOK.out now k hlt)
      obtain ⟨b, eb, hb1, hb2, eb2⟩ := pow_lit hlt
      have hyb : y = b := HY.out.trans eb
      subst hyb
      have HY2 := Lib.hid eb2.symm
      have hbit : bit l.ms k = decide (l.ms / y % 2 = 1) := by unfold bit; rw [eb]
      have hbeq : (l.ms / y % 2 == 1) = bit l.ms k := by rw [hbit]; congr
      have hq0 : 0 ≤ l.ms / y := Int.ediv_nonneg hms.1 (by omega)
      have hq1 : l.ms / y ≤ l.ms := Int.ediv_le_self y hms.1
      have htd : l.ms.tdiv y = l.ms / y := Int.tdiv_eq_ediv_of_nonneg hms.1
      have htm : (l.ms / y).tmod 2 = l.ms / y % 2 := Int.tmod_eq_emod_of_nonneg hq0
      have hy00 : ¬ y = 0 := by omega
      have hc1 : ∀ W, RwI w w.heap.size l c G W → W.cell? ⟨w.heap.size, 1, none⟩ = some (.int .u32 l.ms) := fun W hW => by
        obtain ⟨pv, tv, e, _, _⟩ := hW.rv
        have := hW.a
        rw [e] at this
        exact this.cells.2.1
      have HC1 := Lib.hid hc1
      cases hq : l.w now k with
      | true =>
        rw [hq] at HW
        cases hbt : bit l.ms k with
        | true =>
          have HP : Hid (l.pd now = some k) := pd_first hlt hq hbt HN.out
          rw [hbt] at hbeq
          clear hq hbt hbit eb eb2 hc1
          go_wp2_with ((with_reducible apply wp_load_R); (exact HI.out.a); (rfl))
          refine HW.out.mono ?_
          rintro e w1 ⟨rfl, hb⟩
          have HI2 := Lib.hid (HI.out.after hb)
          have q1 := HC1.out w1 HI2.out
          clear hb HI HW
          go_wp2
          go_ret
          exact ⟨by unfold Ls.pdI; rw [HP.out]; rfl, HI2.out.below⟩
        | false =>
          have HN2 : Hid (∀ j, j < k + 1 → (l.w now j && bit l.ms j) = false) := fun j hj => by
            by_cases e : j = k
            · subst e; rw [hbt]; simp
            · exact HN.out j (by omega)
          rw [hbt] at hbeq
          clear hq hbt hbit eb eb2 hc1
          go_wp2_with ((with_reducible apply wp_load_R); (exact HI.out.a); (rfl))
          refine HW.out.mono ?_
          rintro e w1 ⟨rfl, hb⟩
          have HI2 := Lib.hid (HI.out.after hb)
          have q1 := HC1.out w1 HI2.out
          clear hb HI HW
          go_wp2
          go_roundw
          case rel => exact ⟨k + 1, y * 2, by omega, by go_num, by go_num, HN2.out, HY2.out, by omega, by omega, HI2.out⟩
          case measure => simp [intOf]; omega
      | false =>
        rw [hq] at HW
        have HN2 : Hid (∀ j, j < k + 1 → (l.w now j && bit l.ms j) = false) := fun j hj => by
          by_cases e : j = k
          · subst e; rw [hq]; simp
          · exact HN.out j (by omega)
        clear hq hbit hbeq eb eb2 hc1
        go_wp2_with ((with_reducible apply wp_load_R); (exact HI.out.a); (rfl))
        refine HW.out.mono ?_
        rintro e w1 ⟨rfl, hb⟩
        have HI2 := Lib.hid (HI.out.after hb)
        clear hb HI HW
        go_wp2
        go_roundw
        case rel => exact ⟨k + 1, y * 2, by omega, by go_num, by go_num, HN2.out, HY2.out, by omega, by omega, HI2.out⟩
        case measure => simp [intOf]; omega
    · obtain rfl : k = 4 := by omega
      have HP : Hid (l.pd now = none) := pd_nothing HN.out
      go_wp2
      go_ret
      exact ⟨by unfold Ls.pdI; rw [HP.out]; rfl, HI.out.below⟩
end Go.Proofs.Ytmnkggnghflcpaa

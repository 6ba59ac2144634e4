/-
  Layer 5: reach: what is refused, and the closure that goes on: walks.
-/
import Derived.Test.YthcipnmcmcihgaaMake
import Derived.RegionTactic
import Derived.StillTailTactics
namespace Go.Proofs.Ythcipnmcmcihgaa
open Go.RowKit
set_option maxHeartbeats 1000000

/-- Why m bytes at a, by a divider, are not reached. -/
def reaE (n a m d : Int) : Int := if d = 0 then 2 else if a % d ≠ 0 then 150 else if n < a + m then 4 else 0
theorem reach_nil (a n d : Int) (fv : Value) (w : World) : Calls Try.prog 32 #[.pointer none, .int .u32 a, .int .i64 n, .int .u32 d, fv] w fun e w' => e = .returned (.int .i64 1) ∧ w = w' := by
  go_enter Try.func32, Try.ntmps32
  go_wp2_with (go_at_call 31; refine (none_nil _).mono ?_; rintro e w' ⟨rfl, rfl⟩)
  go_ret
  exact ⟨rfl, rfl⟩
theorem reach_no {w : World} {S g c : Nat} {l : List Int} (h : FrIs w S g c l) (a m d : Int) (ha : W32 a) (hd : W32 d) (hm : d ≠ 0 → 0 ≤ m ∧ m < 9223372036854775808) (fv : Value) (hno : reaE l.length a m d ≠ 0) :
    Calls Try.prog 32 #[.pointer (some ⟨S, 0, none⟩), .int .u32 a, .int .i64 m, .int .u32 d, fv] w fun e w' => e = .returned (.int .i64 (reaE l.length a m d)) ∧ w = w' := by
  have hlo := h.lo
  have HN := Lib.hid (none_some S _ _ _ w h.cell (by omega))
  have HH0 := Lib.hid (fun hd0 : d ≠ 0 => has_any S _ _ _ a m ha (hm hd0).1 (hm hd0).2 w h.cell h.hi)
  clear h
  obtain ⟨a0, a1⟩ := ha
  obtain ⟨d0, d1⟩ := hd
  unfold reaE at hno ⊢
  by_cases e0 : d = 0
  · subst e0
    go_enter Try.func32, Try.ntmps32
    go_wp2_with (go_at_call 31; refine (HN.out).mono ?_; rintro e w' ⟨rfl, rfl⟩)
    go_ret
    exact ⟨by simp, rfl⟩
  · have ht : a.tmod d = a % d := Int.tmod_eq_emod_of_nonneg (by omega)
    by_cases e1 : a % d = 0
    · by_cases e2 : (l.length : Int) < a + m
      · have hb : decide (a + m ≤ (l.length : Int)) = false := by simp; omega
        have HH := Lib.hid (HH0.out e0)
        rw [hb] at HH
        clear hb
        simp only [e0, e1, e2, if_true, if_false, ne_eq, not_true_eq_false] at hno ⊢
        have e1' : (a.tmod d) = 0 := by rw [ht]; exact e1
        clear hno e2 hlo hm ht
        go_enter Try.func32, Try.ntmps32
        go_wp2_with (first | (go_at_call 31; refine (HN.out).mono ?_; rintro e w' ⟨rfl, rfl⟩) | (go_at_call 41; refine (HH.out).mono ?_; rintro e w' ⟨rfl, rfl⟩))
        go_ret
        exact ⟨rfl, rfl⟩
      · simp [e0, e1, e2] at hno
    · simp only [e0, e1, if_true, if_false, ne_eq, not_false_eq_true] at hno ⊢
      have e1' : ¬ (a.tmod d) = 0 := by rw [ht]; exact e1
      clear hno hlo hm ht
      go_enter Try.func32, Try.ntmps32
      go_wp2_with (go_at_call 31; refine (HN.out).mono ?_; rintro e w' ⟨rfl, rfl⟩)
      go_ret
      exact ⟨rfl, rfl⟩
theorem reach_yes {w : World} {S g c : Nat} {l : List Int} (h : FrIs w S g c l) (a m d : Int) (ha : W32 a) (hd : W32 d) (hm : 0 ≤ m) (hm2 : m < 9223372036854775808) (fv : Value) (hyes : reaE l.length a m d = 0)
    (F : Nat) (hE : ∀ args W, (callFunc F args).run Try.prog W = .ok (.enter F args) W) (cap : Value) (hfv : fv = .func (.func F) #[] #[cap]) (sl : Value) (hcut : Calls Try.prog 40 #[.pointer (some ⟨S, 0, none⟩), .int .i64 a, .int .i64 m] w fun e w' => e = .returned sl ∧ w = w')
    (Q : World → Prop) (hgo : Calls Try.prog F #[sl, cap] w fun e w' => e = .returned (.tuple #[]) ∧ Q w') :
    Calls Try.prog 32 #[.pointer (some ⟨S, 0, none⟩), .int .u32 a, .int .i64 m, .int .u32 d, fv] w fun e w' => e = .returned (.int .i64 0) ∧ Q w' := by
  subst hfv
  have hlo := h.lo
  have HN := Lib.hid (none_some S _ _ _ w h.cell (by omega))
  have HH := Lib.hid (has_any S _ _ _ a m ha hm hm2 w h.cell h.hi)
  have HC := Lib.hid hcut
  have HG := Lib.hid hgo
  clear h hcut hgo
  obtain ⟨a0, a1⟩ := ha
  obtain ⟨d0, d1⟩ := hd
  unfold reaE at hyes
  have e0 : ¬ d = 0 := by intro e; simp [e] at hyes
  have ht : a.tmod d = a % d := Int.tmod_eq_emod_of_nonneg (by omega)
  have e1 : a % d = 0 := by
    by_cases e : a % d = 0
    · exact e
    · simp [e0, e] at hyes
  have e2 : ¬ (l.length : Int) < a + m := by intro e; simp [e0, e1, e] at hyes
  have hb : decide (a + m ≤ (l.length : Int)) = true := by simp; omega
  rw [hb] at HH
  have e1' : (a.tmod d) = 0 := by rw [ht]; exact e1
  clear hb hyes e2 hlo hm hm2 ht
  go_enter Try.func32, Try.ntmps32
  go_wp2_with (first | (go_at_call 31; refine (HN.out).mono ?_; rintro e w' ⟨rfl, rfl⟩) | (go_at_call 41; refine (HH.out).mono ?_; rintro e w' ⟨rfl, rfl⟩) | (go_at_call 40; refine (HC.out).mono ?_; rintro e w' ⟨rfl, rfl⟩))
  refine HG.out.mono ?_
  rintro e w' ⟨rfl, hq⟩
  have HQ := Lib.hid hq
  clear hq
  go_wp2
  go_ret
  exact ⟨rfl, HQ.out⟩
theorem enter_Read1 : ∀ args W, (callFunc 34 args).run Try.prog W = .ok (.enter 34 args) W := fun _ _ => by kernel_rfl
theorem enter_Write1 : ∀ args W, (callFunc 35 args).run Try.prog W = .ok (.enter 35 args) W := fun _ _ => by kernel_rfl
theorem enter_Load1 : ∀ args W, (callFunc 36 args).run Try.prog W = .ok (.enter 36 args) W := fun _ _ => by kernel_rfl

/-! ### the closures -/
set_option linter.unusedVariables false
theorem box_step {W : World} {b : Nat} {v : Int} (hb : W.heap[b]? = some (.cells #[.int .u32 v] 34 (0, 0))) (u : Int) {W1 : World} (hW : W1 = (W.setCell ⟨b, 0, none⟩ (.int .u32 u)).drew) :
    W1.heap[b]? = some (.cells #[.int .u32 u] 34 (0, 0)) ∧ W1.cell? ⟨b, 0, none⟩ = some (.int .u32 u) ∧ W1.frozen? ⟨b, 0, none⟩ = false ∧ (∀ g j, g ≠ b → W1.cell? ⟨g, j, none⟩ = W.cell? ⟨g, j, none⟩) ∧ Turned (fun j => j = b) W W1 := by
  subst hW
  have h1 : (W.setCell ⟨b, 0, none⟩ (.int .u32 u)).drew.heap[b]? = some (.cells #[.int .u32 u] 34 (0, 0)) := by
    rw [heap_drew, heap_setCell_same W b 0 _ _ _ hb]; rfl
  refine ⟨h1, by simp [World.cell?, h1], by simp [World.frozen?, h1], fun g j hg => ?_, ((Turned.refl (fun j => j = b) W).setCell (p := ⟨b, 0, none⟩) (.inl rfl) _).drew⟩
  unfold World.cell?
  simp only [heap_drew]
  rw [heap_setCell_other W ⟨b, 0, none⟩ g _ hg]
/-- What stands in the box where Read's value is gathered. -/
theorem Read1_one {w : World} {g : Nat} {l : List Int} (hr : RowAt w g l) (hb : Byt l) (k b : Nat) (hk : k + 1 ≤ l.length) (hbg : w.heap[b]? = some (.cells #[.int .u32 0] 34 (0, 0))) :
    Calls Try.prog 34 #[.slice (some ⟨g, k, none⟩) 1 1, .pointer (some ⟨b, 0, none⟩)] w fun e w' => e = .returned (.tuple #[]) ∧ (w'.cell? ⟨b, 0, none⟩ = some (.int .u32 (at0 l k)) ∧ Turned (fun j => j = b) w w') := by
  have c0 := (hr.cell (i := k) (by omega)).1
  have v0 := hb.at0 k
  have m0 : w.cell? ⟨b, 0, none⟩ = some (.int .u32 0) := by simp [World.cell?, hbg]
  have f0 : w.frozen? ⟨b, 0, none⟩ = false := by simp [World.frozen?, hbg]
  have HO := Lib.hid (or1 _ v0)
  have HG := Lib.hid hbg
  clear hbg hr hb
  generalize at0 l k = x0 at c0 v0 HO ⊢
  obtain ⟨v00, v01⟩ := v0
  go_enter Try.func34, Try.ntmps34
  go_wp2
  refine wp_loop_rounds 2 ?_
  rw [rounds_succ]
  go_wp2
  go_region
  go_wp2
  rw [rounds_succ]
  go_wp2
  refine bodyPost_end (results_none rfl _ _ _) rfl ?_
  obtain ⟨_, h2, _, _, h5⟩ := box_step HG.out (bits .or .u32 0 x0) rfl
  exact ⟨rfl, by rw [h2, HO.out], h5⟩
theorem Read1_four {w : World} {g : Nat} {l : List Int} (hr : RowAt w g l) (hb : Byt l) (k b : Nat) (hk : k + 4 ≤ l.length) (hne : g ≠ b) (hbg : w.heap[b]? = some (.cells #[.int .u32 0] 34 (0, 0))) :
    Calls Try.prog 34 #[.slice (some ⟨g, k, none⟩) 4 4, .pointer (some ⟨b, 0, none⟩)] w fun e w' => e = .returned (.tuple #[]) ∧ (w'.cell? ⟨b, 0, none⟩ = some (.int .u32 (wrd (at0 l k) (at0 l (k + 1)) (at0 l (k + 2)) (at0 l (k + 3)))) ∧ Turned (fun j => j = b) w w') := by
  have c0 := (hr.cell (i := k) (by omega)).1
  have c1 := (hr.cell (i := k + 1) (by omega)).1
  have c2 := (hr.cell (i := k + 2) (by omega)).1
  have c3 := (hr.cell (i := k + 3) (by omega)).1
  have v0 := hb.at0 k
  have v1 := hb.at0 (k + 1)
  have v2 := hb.at0 (k + 2)
  have v3 := hb.at0 (k + 3)
  have m0 : w.cell? ⟨b, 0, none⟩ = some (.int .u32 0) := by simp [World.cell?, hbg]
  have f0 : w.frozen? ⟨b, 0, none⟩ = false := by simp [World.frozen?, hbg]
  have HO1 := Lib.hid (or1 _ v0)
  have HO2 := Lib.hid (or2 _ _ v0 v1)
  have HO3 := Lib.hid (or3 _ _ _ v0 v1 v2)
  have HO4 := Lib.hid (or4 _ _ _ _ v0 v1 v2 v3)
  have HG := Lib.hid hbg
  have HN := Lib.hid hne
  clear hbg hr hb hne
  generalize at0 l k = x0 at *
  generalize at0 l (k + 1) = x1 at *
  generalize at0 l (k + 2) = x2 at *
  generalize at0 l (k + 3) = x3 at *
  obtain ⟨v00, v01⟩ := v0
  obtain ⟨v10, v11⟩ := v1
  obtain ⟨v20, v21⟩ := v2
  obtain ⟨v30, v31⟩ := v3
  go_enter Try.func34, Try.ntmps34
  go_wp2
  refine wp_loop_rounds 5 ?_
  rw [rounds_succ]
  go_wp2
  go_region
  obtain ⟨W1, hW1⟩ : ∃ W1, W1 = (w.setCell ⟨b, 0, none⟩ (.int .u32 (bits .or .u32 0 x0))).drew := ⟨_, rfl⟩
  rw [← hW1]
  obtain ⟨hb1, m1, f1, hc1, t1⟩ := box_step HG.out _ hW1
  rw [HO1.out] at m1 hb1
  have HB1 := Lib.hid hb1
  have T1 := Lib.hid t1
  rw [← hc1 g _ HN.out] at c1 c2 c3
  clear hb1 hc1 t1 hW1 m0 f0 c0
  go_wp2
  rw [rounds_succ]
  go_wp2
  go_region
  obtain ⟨W2, hW2⟩ : ∃ W2, W2 = (W1.setCell ⟨b, 0, none⟩ (.int .u32 (bits .or .u32 x0 (x1 * 256)))).drew := ⟨_, rfl⟩
  rw [← hW2]
  obtain ⟨hb2, m2, f2, hc2, t2⟩ := box_step HB1.out _ hW2
  rw [HO2.out] at m2 hb2
  have HB2 := Lib.hid hb2
  have T2 := Lib.hid t2
  rw [← hc2 g _ HN.out] at c2 c3
  clear hb2 hc2 t2 hW2 m1 f1 c1
  go_wp2
  rw [rounds_succ]
  go_wp2
  go_region
  obtain ⟨W3, hW3⟩ : ∃ W3, W3 = (W2.setCell ⟨b, 0, none⟩ (.int .u32 (bits .or .u32 (x0 + x1 * 256) (x2 * 65536)))).drew := ⟨_, rfl⟩
  rw [← hW3]
  obtain ⟨hb3, m3, f3, hc3, t3⟩ := box_step HB2.out _ hW3
  rw [HO3.out] at m3 hb3
  have HB3 := Lib.hid hb3
  have T3 := Lib.hid t3
  rw [← hc3 g _ HN.out] at c3
  clear hb3 hc3 t3 hW3 m2 f2 c2
  go_wp2
  rw [rounds_succ]
  go_wp2
  go_region
  obtain ⟨W4, hW4⟩ : ∃ W4, W4 = (W3.setCell ⟨b, 0, none⟩ (.int .u32 (bits .or .u32 (x0 + x1 * 256 + x2 * 65536) (x3 * 16777216)))).drew := ⟨_, rfl⟩
  rw [← hW4]
  obtain ⟨hb4, m4, f4, hc4, t4⟩ := box_step HB3.out _ hW4
  rw [HO4.out] at m4 hb4
  have M4 := Lib.hid m4
  have T4 := Lib.hid t4
  clear hb4 hc4 t4 hW4 m3 f3 c3 m4
  go_wp2
  rw [rounds_succ]
  go_wp2
  refine bodyPost_end (results_none rfl _ _ _) rfl ?_
  exact ⟨rfl, M4.out, ((T1.out.trans T2.out (fun _ h => .inl h)).trans T3.out (fun _ h => .inl h)).trans T4.out (fun _ h => .inl h)⟩

/-! ### writing -/
theorem row_step {W : World} {g : Nat} {l : List Int} (hr : RowAt W g l) {i : Nat} (hi : i < l.length) (x : Int) {W1 : World} (hW : W1 = W.setCell ⟨g, i, none⟩ (.int .u8 x)) :
    RowAt W1 g (l.set i x) ∧ (∀ a j, a ≠ g → W1.cell? ⟨a, j, none⟩ = W.cell? ⟨a, j, none⟩) ∧ Turned (fun j => j = g) W W1 := by
  subst hW
  refine ⟨hr.set hi x, fun a j ha => ?_, (Turned.refl (fun j => j = g) W).setCell (p := ⟨g, i, none⟩) (.inl rfl) _⟩
  unfold World.cell?
  rw [heap_setCell_other W ⟨g, i, none⟩ a _ ha]
theorem Write1_one {w : World} {g : Nat} {l : List Int} (hr : RowAt w g l) (k b : Nat) (x : Int) (hx : W32 x) (hk : k + 1 ≤ l.length) (m0 : w.cell? ⟨b, 0, none⟩ = some (.int .u32 x)) :
    Calls Try.prog 35 #[.slice (some ⟨g, k, none⟩) 1 1, .pointer (some ⟨b, 0, none⟩)] w fun e w' => e = .returned (.tuple #[]) ∧ (RowAt w' g (wrV l k 1 x) ∧ Turned (fun j => j = g) w w') := by
  obtain ⟨c0, f0⟩ := hr.cell (i := k) (by omega)
  obtain ⟨x0, x1⟩ := hx
  have HR := Lib.hid hr
  clear hr
  go_enter Try.func35, Try.ntmps35
  go_wp2
  refine wp_loop_rounds 2 ?_
  rw [rounds_succ]
  go_wp2
  rw [rounds_succ]
  go_wp2
  refine bodyPost_end (results_none rfl _ _ _) rfl ?_
  obtain ⟨h1, _, h3⟩ := row_step HR.out (i := k) (by omega) (x % 256) rfl
  exact ⟨rfl, by simpa [wrV] using h1, h3⟩
theorem Write1_four {w : World} {g : Nat} {l : List Int} (hr : RowAt w g l) (k b : Nat) (x : Int) (hx : W32 x) (hk : k + 4 ≤ l.length) (hne : b ≠ g) (m0 : w.cell? ⟨b, 0, none⟩ = some (.int .u32 x)) :
    Calls Try.prog 35 #[.slice (some ⟨g, k, none⟩) 4 4, .pointer (some ⟨b, 0, none⟩)] w fun e w' => e = .returned (.tuple #[]) ∧ (RowAt w' g (wrV l k 4 x) ∧ Turned (fun j => j = g) w w') := by
  obtain ⟨c0, f0⟩ := hr.cell (i := k) (by omega)
  obtain ⟨x0, x1⟩ := hx
  have e2 : x / 65536 % 256 = x / 256 / 256 % 256 := by omega
  have e3 : x / 16777216 = x / 256 / 256 / 256 % 256 := by omega
  have E2 := Lib.hid e2
  have E3 := Lib.hid e3
  have HR := Lib.hid hr
  have HN := Lib.hid hne
  clear hr hne e2 e3
  go_enter Try.func35, Try.ntmps35
  go_wp2
  refine wp_loop_rounds 5 ?_
  rw [rounds_succ]
  go_wp2
  obtain ⟨W1, hW1⟩ : ∃ W1, W1 = w.setCell ⟨g, k, none⟩ (.int .u8 (x % 256)) := ⟨_, rfl⟩
  rw [← hW1]
  obtain ⟨r1, q1, t1⟩ := row_step HR.out (i := k) (by omega) _ hW1
  obtain ⟨c1, f1⟩ := r1.cell (i := k + 1) (by simp; omega)
  have HR1 := Lib.hid r1
  have T1 := Lib.hid t1
  rw [← q1 b _ HN.out] at m0
  clear c0 f0 r1 t1 q1 hW1
  rw [rounds_succ]
  go_wp2
  obtain ⟨W2, hW2⟩ : ∃ W2, W2 = W1.setCell ⟨g, k + 1, none⟩ (.int .u8 (x / 256 % 256)) := ⟨_, rfl⟩
  rw [← hW2]
  obtain ⟨r2, q2, t2⟩ := row_step HR1.out (i := k + 1) (by simp; omega) _ hW2
  obtain ⟨c2, f2⟩ := r2.cell (i := k + 2) (by simp; omega)
  have HR2 := Lib.hid r2
  have T2 := Lib.hid t2
  rw [← q2 b _ HN.out] at m0
  clear c1 f1 r2 t2 q2 hW2
  rw [rounds_succ]
  go_wp2
  obtain ⟨W3, hW3⟩ : ∃ W3, W3 = W2.setCell ⟨g, k + 2, none⟩ (.int .u8 (x / 65536 % 256)) := ⟨_, rfl⟩
  rw [← hW3]
  obtain ⟨r3, q3, t3⟩ := row_step HR2.out (i := k + 2) (by simp; omega) _ hW3
  obtain ⟨c3, f3⟩ := r3.cell (i := k + 3) (by simp; omega)
  have HR3 := Lib.hid r3
  have T3 := Lib.hid t3
  rw [← q3 b _ HN.out] at m0
  clear c2 f2 r3 t3 q3 hW3
  rw [rounds_succ]
  go_wp2
  obtain ⟨W4, hW4⟩ : ∃ W4, W4 = W3.setCell ⟨g, k + 3, none⟩ (.int .u8 (x / 16777216)) := ⟨_, rfl⟩
  rw [← hW4]
  obtain ⟨r4, q4, t4⟩ := row_step HR3.out (i := k + 3) (by simp; omega) _ hW4
  have HR4 := Lib.hid r4
  have T4 := Lib.hid t4
  clear c3 f3 r4 t4 q4 hW4 m0
  rw [rounds_succ]
  go_wp2
  refine bodyPost_end (results_none rfl _ _ _) rfl ?_
  refine ⟨rfl, ?_, ((T1.out.trans T2.out (fun _ h => .inl h)).trans T3.out (fun _ h => .inl h)).trans T4.out (fun _ h => .inl h)⟩
  have := HR4.out
  rw [E2.out, E3.out] at this
  simpa [wrV] using this

/-! ### laying -/
theorem turned_setRow (w : World) (g : Nat) (cs : Array Value) : Turned (fun j => j = g) w (w.setRow g cs) :=
  ⟨rfl, rfl, rfl, by simp, fun k _ hn => setRow_other w g k cs hn⟩
theorem Load1_any {w : World} {g : Nat} {l : List Int} (hr : RowAt w g l) (k b : Nat) (v : Value) (xs : List Int) (hv : NumsIn .u8 w v xs) (hk : k + xs.length ≤ l.length) (m0 : w.cell? ⟨b, 0, none⟩ = some v) (h0 : 0 < xs.length) :
    Calls Try.prog 36 #[.slice (some ⟨g, k, none⟩) xs.length xs.length, .pointer (some ⟨b, 0, none⟩)] w fun e w' => e = .returned (.tuple #[]) ∧ (RowAt w' g (ldV l k xs) ∧ Turned (fun j => j = g) w w') := by
  obtain ⟨a, c, rfl, hcap, hlen, A0, _⟩ : ∃ (a : Addr) (c : Nat), v = .slice (some a) xs.length c ∧ xs.length ≤ c ∧ xs.length ≤ maxLen ∧ (∀ (i : Nat) x, xs[i]? = some x → w.cell? (a.add i) = some (.int .u8 x)) ∧ ∀ x ∈ xs, (Lit.int .u8 x).wf = true := by
    rcases hv with ⟨_, rfl⟩ | h
    · simp at h0
    · exact h
  have A : Hid (∀ j u, (bv xs)[j]? = some u → w.cell? (a.add j) = some u) := fun j u hj => by
    rw [bv_at] at hj
    obtain ⟨x, hx, rfl⟩ := Option.map_eq_some_iff.1 hj
    exact A0 j x hx
  have HR := Lib.hid hr
  obtain ⟨tl, hg⟩ := hr
  have hsz : (bv l ++ tl).toArray.size = l.length + tl.length := by simp [bv]
  have hbl := bv_length xs
  have hi1 : (Try.prog.info? 5).map (·.size) = some 1 := by kernel_rfl
  have HG := Lib.hid hg
  clear hg A0
  go_enter Try.func36, Try.ntmps36
  go_wp2
  rw [run_copy_row (P := Try.prog) w 22 22 _ 5 g k xs.length xs.length a xs.length c _ _ (bv xs) Try.underlying22 hi1 HG.out (by simp [hbl]) A.out (by rw [hsz, hbl]; omega) (bv_one xs)]
  simp only [Result.andThen]
  rw [Oper.upon_value]
  go_wp2
  refine bodyPost_end (results_none rfl _ _ _) rfl ?_
  have hs := HR.out.setRow k xs hk HG.out
  rw [hbl] at hs
  exact ⟨rfl, hs, turned_setRow _ _ _⟩
theorem Load1_none {w : World} {g : Nat} (b : Nat) (v : Value) (hv : NumsIn .u8 w v []) (m0 : w.cell? ⟨b, 0, none⟩ = some v) :
    Calls Try.prog 36 #[.slice (some ⟨g, 0, none⟩) 0 0, .pointer (some ⟨b, 0, none⟩)] w fun e w' => e = .returned (.tuple #[]) ∧ w = w' := by
  obtain ⟨o, c, rfl, _, _, _⟩ := hv.form
  have hi1 : (Try.prog.info? 5).map (·.size) = some 1 := by kernel_rfl
  go_enter Try.func36, Try.ntmps36
  go_wp2
  try rw [run_copy_none (P := Try.prog) w 22 22 _ 5 _ _ _ _ _ _ Try.underlying22 hi1 (by simp)]
  try simp only [Result.andThen]
  try rw [Oper.upon_value]
  go_wp2
  refine bodyPost_end (results_none rfl _ _ _) rfl ?_
  exact ⟨rfl, rfl⟩
end Go.Proofs.Ythcipnmcmcihgaa

/-
  Layer 1: each statement's function returns true, whatever the input: walks.
-/
import Derived.Test.YtoibdcnglpinoaaRows
import Derived.Test.YtoibdcnglpinoaaMath
import Derived.Test.YtoibdcnglpinoaaLeaf
import Derived.Test.YtoibdcnglpinoaaRef
import Derived.Test.YtoibdcnglpinoaaBytes
import Derived.Test.YtoibdcnglpinoaaIter
import Derived.Test.YtoibdcnglpinoaaWorks
import Derived.WalkKit
import Derived.WalkSpells
import Derived.WalkLawsBesides
import Derived.Lib.Hide
import Derived.Deep.RegionHeld3
namespace Go.Proofs.Ytoibdcnglpinoaa
open Go.RowKit
set_option maxHeartbeats 400000

theorem WordsSums_walk (a b : Int) (ha : W32 a) (hb : W32 b) (w : World) :
    Calls Try.prog 3 #[.int .u32 a, .int .u32 b] w fun e w' => e = .returned (.bool true) ∧ Below w.heap.size w w' := by
  go_enter Try.func3, Try.ntmps3
  go_wp2_with (first
    | (go_at_call 10; refine (Add_any a b _).mono ?_; rintro e w' ⟨rfl, rfl⟩)
    | (go_at_call 11; refine (RAdd_any a b ha hb _).mono ?_; rintro e w' ⟨rfl, rfl⟩)
    | (go_at_call 12; refine (Sub_any a b _).mono ?_; rintro e w' ⟨rfl, rfl⟩)
    | (go_at_call 13; refine (RSub_any a b ha hb _).mono ?_; rintro e w' ⟨rfl, rfl⟩)
    | (go_at_call 14; refine (Mul_any a b _).mono ?_; rintro e w' ⟨rfl, rfl⟩)
    | (go_at_call 15; refine (RMul_any a b ha hb _).mono ?_; rintro e w' ⟨rfl, rfl⟩)
    | (go_at_call 16; refine (works_any _).mono ?_; rintro e w1 ⟨rfl, hb1⟩))
  go_ret
  exact ⟨rfl, hb1⟩

theorem WordsMoves_walk (a n : Int) (ha : W32 a) (hn : W32 n) (w : World) :
    Calls Try.prog 4 #[.int .u32 a, .int .u32 n] w fun e w' => e = .returned (.bool true) ∧ Below w.heap.size w w' := by
  go_enter Try.func4, Try.ntmps4
  go_wp2_with (first
    | (go_at_call 17; refine (Shl_any a n hn _).mono ?_; rintro e w1 ⟨rfl, hb1⟩)
    | (go_at_call 18; refine (RShl_any a n ha hn _).mono ?_; rintro e w' ⟨rfl, rfl⟩)
    | (go_at_call 16; refine (works_any _).mono ?_; rintro e w2 ⟨rfl, hb2⟩))
  go_ret
  exact ⟨rfl, hb1.trans (hb2.mono hb1.size)⟩

theorem WordsFalls_walk (a n : Int) (ha : W32 a) (hn : W32 n) (w : World) :
    Calls Try.prog 5 #[.int .u32 a, .int .u32 n] w fun e w' => e = .returned (.bool true) ∧ Below w.heap.size w w' := by
  go_enter Try.func5, Try.ntmps5
  go_wp2_with (first
    | (go_at_call 19; refine (Shr_any a n ha hn _).mono ?_; rintro e w1 ⟨rfl, hb1⟩)
    | (go_at_call 20; refine (RShr_any a n ha hn _).mono ?_; rintro e w' ⟨rfl, rfl⟩)
    | (go_at_call 21; refine (Sar_any a n ha hn _).mono ?_; rintro e w2 ⟨rfl, hb2⟩)
    | (go_at_call 22; refine (RSar_any a n ha hn _).mono ?_; rintro e w' ⟨rfl, rfl⟩)
    | (go_at_call 16; refine (works_any _).mono ?_; rintro e w3 ⟨rfl, hb3⟩))
  go_ret
  exact ⟨rfl, (hb1.trans (hb2.mono hb1.size)).trans (hb3.mono (Nat.le_trans hb1.size hb2.size))⟩

theorem WordsOrders_walk (a b : Int) (ha : W32 a) (hb : W32 b) (w : World) :
    Calls Try.prog 6 #[.int .u32 a, .int .u32 b] w fun e w' => e = .returned (.bool true) ∧ Below w.heap.size w w' := by
  go_enter Try.func6, Try.ntmps6
  go_wp2_with (first
    | (go_at_call 23; refine (Less_any a b ha hb _).mono ?_; rintro e w' ⟨rfl, rfl⟩)
    | (go_at_call 24; refine (RLess_any a b ha hb _).mono ?_; rintro e w' ⟨rfl, rfl⟩)
    | (go_at_call 25; refine (LessU_any a b _).mono ?_; rintro e w' ⟨rfl, rfl⟩)
    | (go_at_call 26; refine (RLessU_any a b _).mono ?_; rintro e w' ⟨rfl, rfl⟩)
    | (go_at_call 27; refine (Sign_any a ha _).mono ?_; rintro e w' ⟨rfl, rfl⟩)
    | (go_at_call 28; refine (RSign_any a ha _).mono ?_; rintro e w' ⟨rfl, rfl⟩)
    | (go_at_call 16; refine (works_any _).mono ?_; rintro e w1 ⟨rfl, hb1⟩))
  all_goals go_ret
  all_goals exact ⟨by simp, hb1⟩

/-- The box of four bytes at block g, behind a call that makes memory only. -/
theorem arr_keep {w W W1 : World} {g : Nat} {v0 v1 v2 v3 : Value} (hb : Below W.heap.size W W1) (hl : g < W.heap.size) (c0 : W.cell? ⟨g, 0, none⟩ = some v0) (c1 : W.cell? ⟨g, 1, none⟩ = some v1) (c2 : W.cell? ⟨g, 2, none⟩ = some v2) (c3 : W.cell? ⟨g, 3, none⟩ = some v3) (hB : Below w.heap.size w W) :
    g < W1.heap.size ∧ W1.cell? ⟨g, 0, none⟩ = some v0 ∧ W1.cell? ⟨g, 1, none⟩ = some v1 ∧ W1.cell? ⟨g, 2, none⟩ = some v2 ∧ W1.cell? ⟨g, 3, none⟩ = some v3 ∧ Below w.heap.size w W1 :=
  ⟨Nat.lt_of_lt_of_le hl hb.size, (hb.cell (p := ⟨g, 0, none⟩) hl).trans c0, (hb.cell (p := ⟨g, 1, none⟩) hl).trans c1, (hb.cell (p := ⟨g, 2, none⟩) hl).trans c2, (hb.cell (p := ⟨g, 3, none⟩) hl).trans c3, hB.trans (hb.mono hB.size)⟩

set_option maxHeartbeats 4000000 in
theorem WordsBytes_walk (a b0 b1 b2 b3 n : Int) (ha : W32 a) (h0 : 0 ≤ b0 ∧ b0 < 256) (h1 : 0 ≤ b1 ∧ b1 < 256) (h2 : 0 ≤ b2 ∧ b2 < 256) (h3 : 0 ≤ b3 ∧ b3 < 256) (hn : W32 n) (w : World) :
    Calls Try.prog 7 #[.int .u32 a, .agg #[.int .u8 b0, .int .u8 b1, .int .u8 b2, .int .u8 b3], .int .u32 n] w fun e w' => e = .returned (.bool true) ∧ Below w.heap.size w w' := by
  have HW := fun (W : World) => Word_any b0 b1 b2 b3 h0 h1 h2 h3 W
  have HR := fun (W : World) => RWord_any b0 b1 b2 b3 h0 h1 h2 h3 W
  have HV := Lib.hid HW
  have HU := Lib.hid HR
  clear HW HR h0 h1 h2 h3
  go_enter Try.func7, Try.ntmps7
  go_wp2_with fail
  have hB0 : Below w.heap.size w (w.alloc (.cells #[.int .u8 b0, .int .u8 b1, .int .u8 b2, .int .u8 b3] 27)) := (Below.refl _ _).alloc (Nat.le_refl _) _
  go_region_held3 (fun W => w.heap.size < W.heap.size ∧ W.cell? ⟨w.heap.size, 0, none⟩ = some (.int .u8 b0) ∧ W.cell? ⟨w.heap.size, 1, none⟩ = some (.int .u8 b1) ∧ W.cell? ⟨w.heap.size, 2, none⟩ = some (.int .u8 b2) ∧ W.cell? ⟨w.heap.size, 3, none⟩ = some (.int .u8 b3) ∧ Below w.heap.size w W)
    (first
      | (go_split_ands; exact arr_keep (by assumption) (by assumption) (by assumption) (by assumption) (by assumption) (by assumption) (by assumption))
      | (refine ⟨by simp, by simp, by simp, by simp, by simp, ?_⟩; first | exact hB0.drew | exact hB0)
      | go_keep)
    (first
    | (go_at_call 29; refine (Bytes_any a ha _).mono ?_; rintro e w1 ⟨rfl, hb1⟩)
    | (go_at_call 30; refine (RBytes_any a ha _).mono ?_; rintro e w2 ⟨rfl, hb2⟩)
    | (go_at_call 31; refine (HV.out _).mono ?_; rintro e w3 ⟨rfl, hb3⟩)
    | (go_at_call 32; refine (HU.out _).mono ?_; rintro e w4 ⟨rfl, hb4⟩)
    | (go_at_call 33; refine (Byte_any a n ha hn _).mono ?_; rintro e w5 ⟨rfl, hb5⟩)
    | (go_at_call 34; refine (RByte_any a n ha hn _).mono ?_; rintro e w6 ⟨rfl, hb6⟩)
    | (go_at_call 16; refine (works_any _).mono ?_; rintro e w7 ⟨rfl, hb7⟩))
  go_wp2
  go_ret
  refine ⟨rfl, ?_⟩
  go_split_ands
  assumption

theorem mul_turn (a b : Int) : (a * b % 4294967296 == b * a % 4294967296) = true := by rw [Int.mul_comm]; simp
theorem mul_through (a b c : Int) : (a * ((b + c) % 4294967296) % 4294967296 == (a * b + a * c) % 4294967296) = true := by
  have e : a * ((b + c) % 4294967296) % 4294967296 = (a * b + a * c) % 4294967296 := by
    rw [Int.mul_emod, Int.emod_emod_of_dvd _ (Int.dvd_refl _), ← Int.mul_emod, Int.mul_add]
  rw [e]; simp

theorem WordsProducts_walk (a b c : Int) (ha : W32 a) (hb : W32 b) (_hc : W32 c) (w : World) :
    Calls Try.prog 8 #[.int .u32 a, .int .u32 b, .int .u32 c] w fun e w' => e = .returned (.bool true) ∧ Below w.heap.size w w' := by
  have h1 := mul_turn a b
  have h2 := mul_through a b c
  go_enter Try.func8, Try.ntmps8
  go_wp2_with fail
  refine (Mul_any a b _).mono ?_; rintro e w' ⟨rfl, rfl⟩
  go_wp2_with fail
  refine (RMul_any b a hb ha _).mono ?_; rintro e w' ⟨rfl, rfl⟩
  go_wp2_with fail
  refine (Add_any b c _).mono ?_; rintro e w' ⟨rfl, rfl⟩
  go_wp2_with fail
  refine (Mul_any a _ _).mono ?_; rintro e w' ⟨rfl, rfl⟩
  go_wp2_with fail
  refine (Mul_any a b _).mono ?_; rintro e w' ⟨rfl, rfl⟩
  go_wp2_with fail
  refine (Mul_any a c _).mono ?_; rintro e w' ⟨rfl, rfl⟩
  go_wp2_with fail
  refine (Add_any _ _ _).mono ?_; rintro e w' ⟨rfl, rfl⟩
  go_wp2_with fail
  refine (works_any _).mono ?_; rintro e w1 ⟨rfl, hb1⟩
  go_wp2_with fail
  go_ret
  exact ⟨rfl, hb1⟩


/-! ### WordsAgain -/
theorem Word_back (a : Int) (ha : W32 a) (w : World) :
    Calls Try.prog 31 #[.agg #[.int .u8 (byt a 0), .int .u8 (byt a 1), .int .u8 (byt a 2), .int .u8 (byt a 3)]] w fun e w' => e = .returned (.int .u32 a) ∧ Below w.heap.size w w' := by
  have h := Word_any (byt a 0) (byt a 1) (byt a 2) (byt a 3) (byt_range a 0) (byt_range a 1) (byt_range a 2) (byt_range a 3) w
  rw [wrd_byt a ha] at h; exact h
theorem Bytes_back (b0 b1 b2 b3 : Int) (h0 : 0 ≤ b0 ∧ b0 < 256) (h1 : 0 ≤ b1 ∧ b1 < 256) (h2 : 0 ≤ b2 ∧ b2 < 256) (h3 : 0 ≤ b3 ∧ b3 < 256) (w : World) :
    Calls Try.prog 29 #[.int .u32 (wrd b0 b1 b2 b3)] w fun e w' => e = .returned (.agg #[.int .u8 b0, .int .u8 b1, .int .u8 b2, .int .u8 b3]) ∧ Below w.heap.size w w' := by
  have h := Bytes_any (wrd b0 b1 b2 b3) (wrd_w32 b0 b1 b2 b3 h0 h1 h2 h3) w
  obtain ⟨e0, e1, e2, e3⟩ := byt_wrd b0 b1 b2 b3 h0 h1 h2 h3
  rw [e0, e1, e2, e3] at h; exact h
theorem Sub_back (a b : Int) (ha : W32 a) (w : World) :
    Calls Try.prog 12 #[.int .u32 ((a + b) % 4294967296), .int .u32 b] w fun e w' => e = .returned (.int .u32 a) ∧ w = w' := by
  have h := Sub_any ((a + b) % 4294967296) b w
  have e : ((a + b) % 4294967296 - b) % 4294967296 = a := by unfold W32 at ha; omega
  rw [e] at h; exact h
theorem Mul_power (a : Int) (k : Nat) (w : World) :
    Calls Try.prog 14 #[.int .u32 a, .int .u32 (shlN 1 k)] w fun e w' => e = .returned (.int .u32 (shlN a k)) ∧ w = w' := by
  have h := Mul_any a (shlN 1 k) w
  have e : a * shlN 1 k % 4294967296 = shlN a k := by
    unfold shlN
    rw [Int.one_mul, Int.mul_emod, Int.emod_emod_of_dvd _ (Int.dvd_refl _), ← Int.mul_emod]
  rw [e] at h; exact h
theorem shlN_one_zero : shlN 1 0 = 1 := by decide


/-- Two boxes of four bytes, at blocks g and k, behind a call that makes memory only. -/
theorem arr_keep2 {w W W1 : World} {g k o : Nat} {u0 u1 u2 u3 v0 v1 v2 v3 v : Value} (hb : Below W.heap.size W W1) (hl : g < W.heap.size) (hk : k < W.heap.size)
    (c0 : W.cell? ⟨g, 0, none⟩ = some u0) (c1 : W.cell? ⟨g, 1, none⟩ = some u1) (c2 : W.cell? ⟨g, 2, none⟩ = some u2) (c3 : W.cell? ⟨g, 3, none⟩ = some u3)
    (d0 : W.cell? ⟨k, 0, none⟩ = some v0) (d1 : W.cell? ⟨k, 1, none⟩ = some v1) (d2 : W.cell? ⟨k, 2, none⟩ = some v2) (d3 : W.cell? ⟨k, 3, none⟩ = some v3)
    (d : W.cell? ⟨k, o, none⟩ = some v) (hB : Below w.heap.size w W) :
    g < W1.heap.size ∧ k < W1.heap.size ∧ W1.cell? ⟨g, 0, none⟩ = some u0 ∧ W1.cell? ⟨g, 1, none⟩ = some u1 ∧ W1.cell? ⟨g, 2, none⟩ = some u2 ∧ W1.cell? ⟨g, 3, none⟩ = some u3 ∧
      W1.cell? ⟨k, 0, none⟩ = some v0 ∧ W1.cell? ⟨k, 1, none⟩ = some v1 ∧ W1.cell? ⟨k, 2, none⟩ = some v2 ∧ W1.cell? ⟨k, 3, none⟩ = some v3 ∧ W1.cell? ⟨k, o, none⟩ = some v ∧ Below w.heap.size w W1 :=
  ⟨Nat.lt_of_lt_of_le hl hb.size, Nat.lt_of_lt_of_le hk hb.size, (hb.cell (p := ⟨g, 0, none⟩) hl).trans c0, (hb.cell (p := ⟨g, 1, none⟩) hl).trans c1, (hb.cell (p := ⟨g, 2, none⟩) hl).trans c2, (hb.cell (p := ⟨g, 3, none⟩) hl).trans c3,
    (hb.cell (p := ⟨k, 0, none⟩) hk).trans d0, (hb.cell (p := ⟨k, 1, none⟩) hk).trans d1, (hb.cell (p := ⟨k, 2, none⟩) hk).trans d2, (hb.cell (p := ⟨k, 3, none⟩) hk).trans d3, (hb.cell (p := ⟨k, o, none⟩) hk).trans d, hB.trans (hb.mono hB.size)⟩

/-- The start: what stands in both boxes when the last statement begins. -/
theorem again_start (a c0 c1 c2 c3 : Int) (n : Nat) (hn : n < 4) (w w1 : World) (hb1 : Below (w.alloc (.cells #[.int .u8 c0, .int .u8 c1, .int .u8 c2, .int .u8 c3] 27)).heap.size (w.alloc (.cells #[.int .u8 c0, .int .u8 c1, .int .u8 c2, .int .u8 c3] 27)) w1) (W : World)
    (hW : W = w1.alloc (.cells #[.int .u8 (byt a 0), .int .u8 (byt a 1), .int .u8 (byt a 2), .int .u8 (byt a 3)] 27)) :
    w.heap.size < W.heap.size ∧ w1.heap.size < W.heap.size ∧ W.cell? ⟨w.heap.size, 0, none⟩ = some (.int .u8 c0) ∧ W.cell? ⟨w.heap.size, 1, none⟩ = some (.int .u8 c1) ∧ W.cell? ⟨w.heap.size, 2, none⟩ = some (.int .u8 c2) ∧ W.cell? ⟨w.heap.size, 3, none⟩ = some (.int .u8 c3) ∧
      W.cell? ⟨w1.heap.size, 0, none⟩ = some (.int .u8 (byt a 0)) ∧ W.cell? ⟨w1.heap.size, 1, none⟩ = some (.int .u8 (byt a 1)) ∧ W.cell? ⟨w1.heap.size, 2, none⟩ = some (.int .u8 (byt a 2)) ∧ W.cell? ⟨w1.heap.size, 3, none⟩ = some (.int .u8 (byt a 3)) ∧
      W.cell? ⟨w1.heap.size, n, none⟩ = some (.int .u8 (byt a n)) ∧ Below w.heap.size w W := by
  subst hW
  have hs : w.heap.size + 1 ≤ w1.heap.size := by have := hb1.size; simpa using this
  have hc : ∀ i, (w1.alloc (.cells #[.int .u8 (byt a 0), .int .u8 (byt a 1), .int .u8 (byt a 2), .int .u8 (byt a 3)] 27)).cell? ⟨w.heap.size, i, none⟩ = (w.alloc (.cells #[.int .u8 c0, .int .u8 c1, .int .u8 c2, .int .u8 c3] 27)).cell? ⟨w.heap.size, i, none⟩ := fun i => by
    rw [World.cell?_alloc_lt _ _ _ (by show w.heap.size < _; omega)]
    exact hb1.cell (p := ⟨w.heap.size, i, none⟩) (by simp)
  refine ⟨by simp; omega, by simp, by rw [hc]; simp, by rw [hc]; simp, by rw [hc]; simp, by rw [hc]; simp, by simp, by simp, by simp, by simp, ?_, ?_⟩
  · have : n = 0 ∨ n = 1 ∨ n = 2 ∨ n = 3 := by omega
    rcases this with rfl | rfl | rfl | rfl <;> simp
  · exact (((Below.refl _ w).alloc (Nat.le_refl _) _).trans (hb1.mono (by simp))).alloc (by omega) _

set_option maxHeartbeats 8000000 in
theorem WordsAgain_walk (a b c0 c1 c2 c3 : Int) (ha : W32 a) (hb : W32 b) (h0 : 0 ≤ c0 ∧ c0 < 256) (h1 : 0 ≤ c1 ∧ c1 < 256) (h2 : 0 ≤ c2 ∧ c2 < 256) (h3 : 0 ≤ c3 ∧ c3 < 256) (w : World) :
    Calls Try.prog 9 #[.int .u32 a, .int .u32 b, .agg #[.int .u8 c0, .int .u8 c1, .int .u8 c2, .int .u8 c3]] w fun e w' => e = .returned (.bool true) ∧ Below w.heap.size w w' := by
  have HW := Lib.hid (fun (W : World) => Word_any c0 c1 c2 c3 h0 h1 h2 h3 W)
  have HB := Lib.hid (fun (W : World) => Bytes_back c0 c1 c2 c3 h0 h1 h2 h3 W)
  clear h0 h1 h2 h3
  obtain ⟨hb0, hbm⟩ := id hb
  go_enter Try.func9, Try.ntmps9
  go_wp2_with (go_at_call 29; refine (Bytes_any a ha _).mono ?_; rintro e w1 ⟨rfl, hb1⟩)
  have hS := Lib.hid (again_start a c0 c1 c2 c3 (b % 4).toNat (by omega) w w1 hb1 _ rfl)
  clear hb1
  go_loop [8, 9] (fun x i => ∃ k : Nat, (k : Int) ≤ b % 32 ∧ i = .int .u32 k ∧ x = .int .u32 (shlN 1 k)) (fun _ i => 32 - (intOf i).toNat)
  case atStart => exact ⟨0, by omega, rfl, by rw [shlN_one_zero]⟩
  case round =>
    obtain ⟨k, hk, rfl, rfl⟩ := hrel
    have hs := Lib.hid (shlN_succ 1 k)
    by_cases hlt : (k : Int) < b % 32
    · go_wp2
      go_round
      case rel => exact ⟨k + 1, by omega, by go_num, by rw [hs.out]⟩
      case measure => simp [intOf]; omega
    · obtain rfl : k = (b % 32).toNat := by omega
      have hi0 : (0 : Int) ≤ b % 4 := by omega
      have hi4 : b % 4 < (4 : Int) := by omega
      have hi5 : IntKind.i64.wrap (b % 4) = b % 4 := IntWalk.i64_in _ (by omega)
      have hi6 : b.tmod 4 = b % 4 := Int.tmod_eq_emod_of_nonneg hb0
      go_wp2_with fail
      go_region_held3 (fun W => w.heap.size < W.heap.size ∧ w1.heap.size < W.heap.size ∧ W.cell? ⟨w.heap.size, 0, none⟩ = some (.int .u8 c0) ∧ W.cell? ⟨w.heap.size, 1, none⟩ = some (.int .u8 c1) ∧ W.cell? ⟨w.heap.size, 2, none⟩ = some (.int .u8 c2) ∧ W.cell? ⟨w.heap.size, 3, none⟩ = some (.int .u8 c3) ∧
        W.cell? ⟨w1.heap.size, 0, none⟩ = some (.int .u8 (byt a 0)) ∧ W.cell? ⟨w1.heap.size, 1, none⟩ = some (.int .u8 (byt a 1)) ∧ W.cell? ⟨w1.heap.size, 2, none⟩ = some (.int .u8 (byt a 2)) ∧ W.cell? ⟨w1.heap.size, 3, none⟩ = some (.int .u8 (byt a 3)) ∧
        W.cell? ⟨w1.heap.size, (b % 4).toNat, none⟩ = some (.int .u8 (byt a (b % 4).toNat)) ∧ Below w.heap.size w W)
        (first
          | (go_split_ands; exact arr_keep2 (by assumption) (by assumption) (by assumption) (by assumption) (by assumption) (by assumption) (by assumption) (by assumption) (by assumption) (by assumption) (by assumption) (by assumption) (by assumption))
          | (obtain ⟨s1, s2, s3, s4, s5, s6, s7, s8, s9, s10, s11, s12⟩ := hS.out; exact ⟨s1, s2, s3, s4, s5, s6, s7, s8, s9, s10, s11, s12.drew⟩)
          | go_keep)
        (first
          | (go_at_call 31; (with_reducible refine (HW.out _).mono ?_); rintro e w2 ⟨rfl, hb2⟩)
          | (go_at_call 31; (with_reducible refine (Word_back a ha _).mono ?_); rintro e w3 ⟨rfl, hb3⟩)
          | (go_at_call 29; (with_reducible refine (HB.out _).mono ?_); rintro e w4 ⟨rfl, hb4⟩)
          | (go_at_call 33; (with_reducible refine (Byte_any a b ha hb _).mono ?_); rintro e w5 ⟨rfl, hb5⟩)
          | (go_at_call 10; (with_reducible refine (Add_any a b _).mono ?_); rintro e w' ⟨rfl, rfl⟩)
          | (go_at_call 12; (with_reducible refine (Sub_back a b ha _).mono ?_); rintro e w' ⟨rfl, rfl⟩)
          | (go_at_call 14; (with_reducible refine (Mul_power a _ _).mono ?_); rintro e w' ⟨rfl, rfl⟩)
          | (go_at_call 17; (with_reducible refine (Shl_any a b hb _).mono ?_); rintro e w6 ⟨rfl, hb6⟩)
          | (go_at_call 23; (with_reducible refine (Less_any a b ha hb _).mono ?_); rintro e w' ⟨rfl, rfl⟩)
          | (go_at_call 27; (with_reducible refine (Sign_any _ (by assumption) _).mono ?_); rintro e w' ⟨rfl, rfl⟩)
          | (go_at_call 16; (with_reducible refine (works_any _).mono ?_); rintro e w7 ⟨rfl, hb7⟩))
      go_wp2
      go_ret
      refine ⟨rfl, ?_⟩
      go_split_ands
      assumption
end Go.Proofs.Ytoibdcnglpinoaa

/-
  Layer 3: Join, Union, Same of the document's own answers: walks.
-/
import Derived.Test.YtepmndadbikijaaRef
namespace Go.Proofs.Ytepmndadbikijaa
open Go.RowKit
set_option maxHeartbeats 1000000
set_option linter.unusedSimpArgs false

theorem half_bd {a : Int} (h : W32 a) (k : Nat) : W32 (a / 2 ^ k) := by
  unfold W32 at *
  have hp : (0 : Int) < 2 ^ k := Int.pow_pos (by omega)
  exact ⟨Int.ediv_nonneg h.1 (Int.le_of_lt hp), Int.lt_of_le_of_lt (Int.ediv_le_self _ h.1) h.2⟩
theorem pow16 (k : Nat) (hk : k ≤ 16) : (1 : Int) ≤ 2 ^ k ∧ (2 : Int) ^ k ≤ 65536 := by
  have h : (2 : Nat) ^ k ≤ 2 ^ 16 := Nat.pow_le_pow_right (by decide) hk
  have h0 : 0 < (2 : Nat) ^ k := Nat.two_pow_pos k
  have e : ((2 : Int) ^ k) = ((2 ^ k : Nat) : Int) := by simp
  rw [e]
  have h3 : (2 : Nat) ^ 16 = 65536 := rfl
  omega
theorem pow_lt (k : Nat) (hk : k < 16) : (2 : Int) ^ k ≤ 32768 := by
  have h : (2 : Nat) ^ k ≤ 2 ^ 15 := Nat.pow_le_pow_right (by decide) (by omega)
  have e : ((2 : Int) ^ k) = ((2 ^ k : Nat) : Int) := by simp
  rw [e]
  have h3 : (2 : Nat) ^ 15 = 32768 := rfl
  omega
theorem RJoin_any (a b : Int) (ha : S16 a) (hb : S16 b) (w : World) :
    Calls Try.prog 45 #[.int .u32 a, .int .u32 b] w fun e w' => e = .returned (.int .u32 (orI a b)) ∧ w = w' := by
  have HE := Lib.hid (orS_end ha hb)
  obtain ⟨a0, a1⟩ := ha.w32
  obtain ⟨b0, b1⟩ := hb.w32
  go_enter Try.func45, Try.ntmps45
  go_wp2
  go_loop [5, 6] (fun x p => ∃ k : Nat, k ≤ 16 ∧ p = .int .u32 (2 ^ k) ∧ x = .int .u32 (orS a b k)) (fun _ p => 65536 - (intOf p).toNat)
  case atStart => exact ⟨0, by omega, rfl, by rw [orS_zero]⟩
  case round =>
    obtain ⟨k, hk, rfl, rfl⟩ := hrel
    obtain ⟨p0, p1⟩ := pow16 k hk
    obtain ⟨s0, s1⟩ := orS_le a b k hk
    have HP : Hid ((2 : Int) ^ (k + 1) = 2 ^ k * 2) := Int.pow_succ 2 k
    have HY := Lib.hid (orS_yes a b k)
    have HN := Lib.hid (orS_no a b k)
    have ta := bitI_div a0 k
    have tb := bitI_div b0 k
    have hp2 := fun h => pow_lt k h
    have hda := half_bd (a := a) ⟨a0, a1⟩ k
    have hdb := half_bd (a := b) ⟨b0, b1⟩ k
    generalize hp : (2 : Int) ^ k = p at p0 p1 HP HY HN ta tb hp2 hda hdb ⊢
    generalize hs : orS a b k = s at s0 s1 HY HN ⊢
    have HS := Lib.hid hs
    have HPK := Lib.hid hp
    clear hs hp
    by_cases hlt : k < 16
    · have hp3 := hp2 hlt
      obtain ⟨x0, x1⟩ := hda
      obtain ⟨y0, y1⟩ := hdb
      generalize bitI a k = q1 at HY HN ta
      generalize bitI b k = q2 at HY HN tb
      clear hp2
      cases q1 <;> cases q2
      all_goals
        go_wp2
        go_round
        case rel => exact ⟨k + 1, by omega, by rw [HP.out], by first | rw [HY.out rfl] | rw [HN.out rfl]⟩
        case measure => simp [intOf]; omega
    · obtain rfl : k = 16 := by omega
      have hp3 : ¬ p ≤ 32768 := by rw [← HPK.out]; decide
      clear hp2 ta tb
      go_wp2
      go_ret
      have e : s = orI a b := by rw [← HS.out, HE.out]
      exact ⟨by simp [e], rfl⟩
theorem RUnion_any {w : World} {g c P : Nat} {l : List Int} (h : Rw w g c l) (hb : Bytes P l) (a n : Int) :
    Calls Try.prog 28 #[rwV g c l, .int .i64 a, .int .i64 n] w fun e w' => e = .returned (.tuple #[.int .u32 (unionV P l a n), .int .i64 (unionE P a n)]) ∧ w = w' := by
  have hl := hb.len
  have h32 := hb.hi
  have HI := Lib.hid (Rinside_any g c l P hl h32 a n w)
  cases hi : insB P a n with
  | false =>
    have hE : unionE P a n = 4 := by simp [unionE, hi]
    have hV : unionV P l a n = 0 := by simp [unionV, hi]
    rw [hE, hV]
    rw [hi] at HI
    clear h hE hV hi
    go_enter Try.func28, Try.ntmps28
    go_wp2_with (go_at_call 44; refine (HI.out).mono ?_; rintro e w' ⟨rfl, rfl⟩)
    go_ret2
    exact ⟨rfl, rfl⟩
  | true =>
    obtain ⟨i, k, rfl, rfl, hik⟩ := insB_yes hi
    have hE : unionE P (i : Int) (k : Int) = 0 := by simp [unionE, hi]
    have hV : unionV P l (i : Int) (k : Int) = unionL l i k := by simp [unionV, hi]
    rw [hE, hV]
    rw [hi] at HI
    have HH := Lib.hid h
    clear h hE hV hi
    go_enter Try.func28, Try.ntmps28
    go_wp2_with (go_at_call 44; refine (HI.out).mono ?_; rintro e w' ⟨rfl, rfl⟩)
    go_loop [8, 9] (fun u q => ∃ j : Nat, j ≤ k ∧ q = .int .i64 ((i + j : Nat) : Int) ∧ u = .int .u32 (unionL l i j)) (fun _ q => i + k - (intOf q).toNat)
    case atStart => exact ⟨0, by omega, by simp, rfl⟩
    case round =>
      obtain ⟨j, hj, rfl, rfl⟩ := hrel
      by_cases hlt : j < k
      · have c1 := HH.out.cells (k := i + j) (by omega)
        have hcp := HH.out.cap
        have q0 : (0 : Int) ≤ ((i + j : Nat) : Int) := by omega
        have q1 : ((i + j : Nat) : Int) < (l.length : Int) := by omega
        have HJ := Lib.hid (RJoin_any (unionL l i j) (at0 l (i + j)) (union_s16 hb i j) (hb.at_ _) w)
        have HU : Hid (unionL l i (j + 1) = orI (unionL l i j) (at0 l (i + j))) := rfl
        generalize at0 l (i + j) = y at c1 HJ HU
        generalize unionL l i j = u at HJ HU
        go_wp2_with (go_at_call 45; refine (HJ.out).mono ?_; rintro e w' ⟨rfl, rfl⟩)
        go_round
        case rel => exact ⟨j + 1, by omega, by go_num, by rw [HU.out]⟩
        case measure => simp [intOf]; omega
      · have q1 : ¬ ((i + j : Nat) : Int) < (i : Int) + (k : Int) := by omega
        go_wp2
        go_ret2
        obtain rfl : j = k := by omega
        exact ⟨rfl, rfl⟩
theorem RSame_any {w : World} {g1 c1 g2 c2 P : Nat} {l m : List Int} (h1 : Rw w g1 c1 l) (h2 : Rw w g2 c2 m) (hb1 : Bytes P l) (hb2 : Bytes P m) :
    Calls Try.prog 31 #[rwV g1 c1 l, rwV g2 c2 m] w fun e w' => e = .returned (.bool (decide (l = m))) ∧ ∃ n, w' = w.drewN n := by
  have hl1 := hb1.len
  have hl2 := hb2.len
  have h32 := hb1.hi
  have H1 := Lib.hid h1
  have H2 := Lib.hid h2
  have hlen : ((l.length : Int) == (m.length : Int)) = true := by simp; omega
  have hle : m.length = l.length := by omega
  clear h1 h2
  go_enter Try.func31, Try.ntmps31
  go_wp2
  go_loopw [5] (fun i wr => ∃ k : Nat, k ≤ l.length ∧ i = .int .i64 k ∧ Hid (∀ j, j < k → at0 l j = at0 m j) ∧ Hid (∃ n, wr = w.drewN n)) (fun i _ => l.length - (intOf i).toNat)
  case atStart => exact ⟨0, by omega, rfl, fun j hj => by omega, 0, rfl⟩
  case round =>
    obtain ⟨k, hk, rfl, hE, hW⟩ := hrel
    by_cases hlt : k < l.length
    · obtain ⟨n, rfl⟩ := hW.out
      have x1 : w.cell? ⟨g1, k, none⟩ = some (.int .u32 (at0 l k)) := H1.out.cells (k := k) (by omega)
      have x2 : w.cell? ⟨g2, k, none⟩ = some (.int .u32 (at0 m k)) := H2.out.cells (k := k) (by omega)
      have p1 := H1.out.cap
      have p2 := H2.out.cap
      have q0 : (0 : Int) ≤ (k : Int) := by omega
      have q1 : (k : Int) < (l.length : Int) := by omega
      have q2 : (k : Int) < (m.length : Int) := by omega
      by_cases he : at0 l k = at0 m k
      · have HE := Lib.hid he
        rw [← he] at x2
        clear he
        generalize at0 l k = y at x1 x2
        go_wp2
        go_quiet (fail)
        go_wp2
        go_roundw
        case rel =>
          refine ⟨k + 1, by omega, by go_num, fun j hj => ?_, _, rfl⟩
          by_cases e : j = k
          · subst e; exact HE.out
          · exact hE.out j (by omega)
        case measure => simp [intOf]; omega
      · have HE := Lib.hid he
        have t1 : (at0 l k == at0 m k) = false := by simpa using he
        have t2 : (at0 l k != at0 m k) = true := by simpa using he
        generalize hy : at0 l k = y at x1 t1 t2 he
        generalize hz : at0 m k = z at x2 t1 t2 he
        have HY := Lib.hid hy
        have HZ := Lib.hid hz
        clear hy hz
        go_wp2
        go_quiet (fail)
        go_wp2
        go_ret
        have : l ≠ m := fun e => HE.out (by rw [e])
        exact ⟨by simp [this], n + nq, by simp [World.drewN, Nat.add_assoc]⟩
    · obtain ⟨n, rfl⟩ := hW.out
      go_wp2
      go_ret
      have : l = m := ext_at hl1 hl2 (fun i hi => hE.out i (by omega))
      exact ⟨by simp [this], _, rfl⟩
end Go.Proofs.Ytepmndadbikijaa

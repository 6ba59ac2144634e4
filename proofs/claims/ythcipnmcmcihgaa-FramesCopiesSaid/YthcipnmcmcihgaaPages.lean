/-
  Layer 5: frames (the pages), Grow, Concat, Bytes, Copy: walks.
-/
import Derived.Test.YthcipnmcmcihgaaAcc
import Derived.Lib.AppendZeros
import Derived.Deep.QuietTactic
namespace Go.Proofs.Ythcipnmcmcihgaa
open Go.RowKit
set_option maxHeartbeats 1000000
set_option linter.unusedVariables false

/-- The pages of a row. -/
def pgv (g n : Nat) : List Value := (List.range n).map fun k => .slice (some ⟨g, 64 * k, none⟩) 64 64
theorem pgv_length (g n : Nat) : (pgv g n).length = n := by simp [pgv]
theorem pgv_succ (g n : Nat) : pgv g n ++ [.slice (some ⟨g, 64 * n, none⟩) 64 64] = pgv g (n + 1) := by simp [pgv, List.range_succ]
theorem pgv_one (g n : Nat) : ∀ u ∈ pgv g n, u.oneCell' = true := by
  intro u hu
  obtain ⟨k, _, rfl⟩ := List.mem_map.1 hu
  rfl
theorem pgv_at (g : Nat) {n k : Nat} (h : k < n) : (pgv g n)[k]? = some (.slice (some ⟨g, 64 * k, none⟩) 64 64) := by simp [pgv, h]
theorem A.infoFr : (Try.prog.info? 57).map (fun i => (i.zero, i.size, i.bytes)) = some (some (.slice none 0 0), 1, 24) := by kernel_rfl
/-- A slice of the pages of the row at g. -/
def PagesIn (w : World) (v : Value) (g n : Nat) : Prop := (v = .slice none 0 0 ∧ n = 0) ∨ ∃ r c, v = .slice (some ⟨r, 0, none⟩) n c ∧ n ≤ c ∧ ∀ k, k < n → w.cell? ⟨r, k, none⟩ = some (.slice (some ⟨g, 64 * k, none⟩) 64 64)
theorem pagesIn_of_own {w : World} {base n g : Nat} {v : Value} (h : w.ownsRow base 57 1 v n (pgv g n)) : PagesIn w v g n := by
  rcases h.2 with ⟨rfl, rfl⟩ | ⟨r, cap, cur, rfl, hb, hg, hn, hm, hc, ht⟩
  · exact .inl ⟨rfl, rfl⟩
  · refine .inr ⟨r, cap, rfl, hn, fun k hk => ?_⟩
    have := h.cells (g := r) rfl k _ (pgv_at g hk)
    rwa [add_lit, Nat.zero_add] at this
theorem PagesIn.below {w w' : World} {v : Value} {g n : Nat} (h : PagesIn w v g n) (hb : Below w.heap.size w w') : PagesIn w' v g n := by
  rcases h with h | ⟨r, c, h1, h2, h3⟩
  · exact .inl h
  · refine .inr ⟨r, c, h1, h2, fun k hk => ?_⟩
    have h6 := h3 k hk
    have := World.block_lt_of_cell? _ _ h6
    unfold World.cell? at h6 ⊢
    rw [hb.block _ this]; exact h6

theorem frames_nil (w : World) : Calls Try.prog 30 #[.pointer none] w fun e w' => e = .returned (.slice none 0 0) ∧ w = w' := by
  go_enter Try.func30, Try.ntmps30
  go_wp2_with (go_at_call 16; refine (Size_nil _).mono ?_; rintro e w' ⟨rfl, rfl⟩)
  refine wp_loop_rounds 1 ?_
  rw [rounds_succ]
  go_wp2
  go_ret
  exact ⟨rfl, rfl⟩
theorem cut_page {w : World} {S g c : Nat} {l : List Int} (h : FrIs w S g c l) (k : Nat) (hk : 64 * k + 64 ≤ l.length) :
    Calls Try.prog 40 #[.pointer (some ⟨S, 0, none⟩), .int .i64 ((k : Int) * 64), .int .i64 64] w fun e w' => e = .returned (.slice (some ⟨g, 64 * k, none⟩) 64 64) ∧ w = w' := by
  have := cut_pos h (64 * k) 64 (by omega) hk
  have e : ((64 * k : Nat) : Int) = (k : Int) * 64 := by omega
  rw [e] at this
  exact this
set_option maxRecDepth 100000 in
theorem frames_is {w : World} {S g c : Nat} {l : List Int} (h : FrIs w S g c l) : Calls Try.prog 30 #[.pointer (some ⟨S, 0, none⟩)] w fun e w' =>
    ∃ v, e = .returned v ∧ w'.ownsRow w.heap.size 57 1 v (l.length / 64) (pgv g (l.length / 64)) ∧ Below w.heap.size w w' := by
  obtain ⟨i0, hi, hz0, hz1, hz2⟩ := info_parts A.infoFr
  have hlo := h.lo
  have hhi := h.hi
  have hq : (l.length : Int).tdiv 64 = ((l.length / 64 : Nat) : Int) := by rw [Int.tdiv_eq_ediv_of_nonneg (by omega)]; omega
  have HS := Lib.hid (Size_any (F := frB S g) ⟨g, c, rfl, h⟩)
  have HL : Hid (l.length / 64 * 64 ≤ l.length) := by show _ ≤ _; omega
  have HF := Lib.hid h
  have HN : l.length / 64 ≤ 32 := by omega
  clear h hlo hhi
  generalize l.length / 64 = n at hq HL HN ⊢
  generalize hln : (l.length : Int) = L at hq HS
  have HLN := Lib.hid hln
  clear hln
  go_enter Try.func30, Try.ntmps30
  go_wp2_with (go_at_call 16; refine HS.out.mono ?_; rintro e w' ⟨rfl, rfl⟩)
  go_loopw [3, 8] (fun v i wr => ∃ (k : Nat) (u : Value), k ≤ n ∧ u = v ∧ i = .int .i64 (k : Int) ∧ Hid (wr.ownsRow w.heap.size 57 1 u k (pgv g k)) ∧ Hid (Below w.heap.size w wr)) (fun _ i _ => n - (intOf i).toNat)
  case atStart => exact ⟨0, _, by omega, rfl, rfl, World.ownsRow_nil _ _ _ _, Below.refl _ _⟩
  case round =>
    obtain ⟨k, u, hk, rfl, rfl, hrow, hb⟩ := hrel
    by_cases hlt : k < n
    · have HC := Lib.hid (cut_page (HF.out.below hb.out) k (by have := HL.out; omega))
      have hs := hb.out.size
      go_wp2_with fail
      refine HC.out.mono ?_
      rintro e w1 ⟨rfl, rfl⟩
      go_wp2_with (at_builtin; refine wpList_append_own _ rfl _ _ 59 rfl w.heap.size 57 i0 (.slice none 0 0) 1 24 Try.underlying59 hi hz0 hz1 hz2 rfl (by decide) _ _ _ rfl (hrow.out.alloc _) ⟨wr.heap.size, 0, none⟩ 1 1 [.slice (some ⟨g, 64 * k, none⟩) 64 64] rfl rfl (cell_one_new _ _ _) (by simp [Value.oneCell']) (by unfold maxLen; omega) (by omega) (by simp; omega) ?_; intro v' w5 hown' hgrow hn1)
      go_roundw
      case rel =>
        refine ⟨k + 1, _, by omega, rfl, by go_num, ?_, ?_⟩
        · unfold Hid; rw [← pgv_succ]; exact hown'
        · exact (hb.out.alloc hs _).grown hgrow (by simp; omega) (fun j e => (World.ownsRow.lt hrow.out j e).1)
      case measure => simp [intOf]; omega
    · obtain rfl : k = n := by omega
      go_wp2
      go_ret
      exact ⟨_, rfl, hrow.out, hb.out⟩

/-! ### Grow, Concat -/
theorem Grow_zero (w : World) : Calls Try.prog 39 #[.slice none 0 0, .int .i64 0] w fun e w' => e = .returned (.slice none 0 0) ∧ w = w' := by
  go_enter Try.func39, Try.ntmps39
  go_wp2
  go_ret
  exact ⟨rfl, rfl⟩
theorem own_empty (w : World) (cs : Array Value) (c : Nat) (hc : c ≤ maxLen) (hs : cs.size = c) : (w.alloc (.cells cs 5)).drew.ownsRow w.heap.size 5 1 (.slice (some ⟨w.heap.size, 0, none⟩) 0 c) 0 [] :=
  ⟨rfl, .inr ⟨w.heap.size, c, cs, rfl, Nat.le_refl _, by rw [heap_drew]; exact heap_alloc_new w _, Nat.zero_le _, hc, by omega, by simp⟩⟩
theorem Grow_pos (n : Nat) (h0 : 0 < n) (h1 : n ≤ 65536) (w : World) : Calls Try.prog 39 #[.slice none 0 0, .int .i64 (n : Int)] w fun e w' => ∃ v, e = .returned v ∧ w'.ownsRow w.heap.size 5 1 v 0 [] ∧ Below w.heap.size w w' := by
  obtain ⟨i0, hi, hz0, hz1, hz2⟩ := info_parts A.infoB
  have hr := Lib.run_append_nil_zeros (P := Try.prog) w 57 3 57 5 i0 (.int .u8 0) .i64 .i64 Try.underlying57 Try.underlying3 hi hz0 n h0 (by omega) (by omega) (by rw [hz2]; omega)
  have HR := Lib.hid hr
  clear hr
  go_enter Try.func39, Try.ntmps39
  go_wp2_with (at_builtin; refine Lib.wpList_append_run _ rfl _ _ _ _ rfl _ _ rfl rfl _ _ HR.out ?_)
  go_ret
  refine ⟨_, rfl, own_empty w _ _ (grownCap_le_maxLen _ _ _ _ (by unfold maxLen; omega)) ?_, ((Below.refl _ _).alloc (Nat.le_refl _) _).drew⟩
  have := grownCap_ge w n 0 5
  simp only [Array.size_append, size_zeroCells]
  simp
  omega
/-- A part of a row. -/
def part (l : List Int) (k n : Nat) : List Int := (l.drop k).take n
theorem part_length {l : List Int} {k n : Nat} (h : k + n ≤ l.length) : (part l k n).length = n := by simp [part]; omega
theorem RowAt.part {w : World} {g : Nat} {l : List Int} (h : RowAt w g l) {k n : Nat} (hk : k + n ≤ l.length) : ∀ j u, (bv (part l k n))[j]? = some u → w.cell? ((⟨g, k, none⟩ : Addr).add j) = some u := by
  intro j u hj
  have hlt : j < n := by
    have := (List.getElem?_eq_some_iff.1 hj).1
    rw [bv_length, part_length hk] at this; exact this
  rw [bv_at] at hj
  unfold Go.Proofs.Ythcipnmcmcihgaa.part at hj
  rw [List.getElem?_take_of_lt hlt, List.getElem?_drop, at0_lt (show k + j < l.length by omega)] at hj
  rw [add_lit, (h.cell (i := k + j) (by omega)).1]
  simpa using hj
theorem bv_append (a b : List Int) : bv (a ++ b) = bv a ++ bv b := by simp [bv]
theorem take_part (l : List Int) (k n : Nat) : l.take k ++ part l k n = l.take (k + n) := by unfold part; rw [List.take_add]
theorem Concat_zero (w : World) : Calls Try.prog 29 #[.slice none 0 0] w fun e w' => e = .returned (.slice none 0 0) ∧ w = w' := by
  go_enter Try.func29, Try.ntmps29
  go_wp2
  refine wp_loop_rounds 1 ?_
  rw [rounds_succ]
  go_wp2_with (go_at_call 39; refine (Grow_zero _).mono ?_; rintro e w' ⟨rfl, rfl⟩)
  refine wp_loop_rounds 1 ?_
  rw [rounds_succ]
  go_wp2
  go_ret
  exact ⟨rfl, rfl⟩
set_option maxRecDepth 100000 in
theorem Concat_any {w : World} {g : Nat} {l : List Int} (hr : RowAt w g l) (v : Value) (n : Nat) (hp : PagesIn w v g n) (hn : 64 * n = l.length) (h0 : 0 < n) (hm : n ≤ 32) :
    Calls Try.prog 29 #[v] w fun e w' => ∃ u, e = .returned u ∧ w'.ownsRow w.heap.size 5 1 u l.length (bv l) ∧ Below w.heap.size w w' := by
  obtain ⟨i0, hi, hz0, hz1, hz2⟩ := info_parts A.infoB
  have HP := Lib.hid hp
  obtain ⟨r, c, rfl, hnc, hcell⟩ : ∃ r c, v = .slice (some ⟨r, 0, none⟩) n c ∧ n ≤ c ∧ ∀ k, k < n → w.cell? ⟨r, k, none⟩ = some (.slice (some ⟨g, 64 * k, none⟩) 64 64) := by
    rcases hp with ⟨_, rfl⟩ | h
    · omega
    · exact h
  have HC := Lib.hid hcell
  have HR := Lib.hid hr
  have HN := Lib.hid hn
  have HG := Lib.hid (Grow_pos (64 * n) (by omega) (by omega) w)
  have e64 : ((64 * n : Nat) : Int) = 64 * (n : Int) := by omega
  rw [e64] at HG
  clear hp hcell hr hn e64
  go_enter Try.func29, Try.ntmps29
  go_wp2
  go_loop [3, 11] (fun s i => ∃ k : Nat, k ≤ n ∧ i = .int .i64 (k : Int) ∧ s = .int .i64 (64 * (k : Int))) (fun _ i => n - (intOf i).toNat)
  case atStart => exact ⟨0, by omega, rfl, by simp⟩
  case round =>
    obtain ⟨k, hk, rfl, rfl⟩ := hrel
    by_cases hlt : k < n
    · have hc := HC.out k hlt
      go_wp2
      go_round
      case rel => exact ⟨k + 1, by omega, by go_num, by go_num⟩
      case measure => simp [intOf]; omega
    · obtain rfl : k = n := by omega
      go_wp2_with (go_at_call 39; refine HG.out.mono ?_; rintro e w1 ⟨v1, rfl, hrow1, hb1⟩)
      have HR1 := Lib.hid (HR.out.keep (hb1.block _ HR.out.lt))
      have HP1 := Lib.hid (HP.out.below hb1)
      have HRow1 := Lib.hid hrow1
      have HB1 := Lib.hid hb1
      clear hrow1 hb1 hlt hk
      go_loopw [6, 27] (fun v i wr => ∃ (j : Nat) (u : Value), j ≤ k ∧ u = v ∧ i = .int .i64 (j : Int) ∧ Hid (wr.ownsRow w.heap.size 5 1 u (64 * j) (bv (l.take (64 * j)))) ∧ Hid (Below w.heap.size w wr)) (fun _ i _ => k - (intOf i).toNat)
      case atStart => exact ⟨0, _, by omega, rfl, rfl, by unfold Hid; simpa [bv] using HRow1.out, HB1.out⟩
      case round =>
        obtain ⟨j, u, hj, rfl, rfl, hrow, hb⟩ := hrel
        by_cases hlt : j < k
        · have hc := HP.out.below hb.out
          have hc1 : wr.cell? ⟨r, j, none⟩ = some (.slice (some ⟨g, 64 * j, none⟩) 64 64) := by
            rcases hc with ⟨h1, _⟩ | ⟨r', c', h1, _, h3⟩
            · cases h1
            · simp at h1
              obtain ⟨rfl, rfl⟩ := h1
              exact h3 j hlt
          have hs := hb.out.size
          have hfit : 64 * j + 64 ≤ l.length := by have := HN.out; omega
          have HA := Lib.hid ((HR.out.keep (hb.out.block _ HR.out.lt)).part hfit)
          have HLn := Lib.hid (part_length hfit)
          have hbl : (bv (part l (64 * j) 64)).length = 64 * 1 := by rw [bv_length, HLn.out]
          have HE := Lib.hid (take_part l (64 * j) 64)
          clear hc hfit
          go_wp2_with (at_builtin; refine wpList_append_own _ rfl _ _ 57 rfl w.heap.size 5 i0 (.int .u8 0) 1 1 Try.underlying57 hi hz0 hz1 hz2 rfl (by decide) _ _ _ rfl hrow.out ⟨g, 64 * j, none⟩ 64 64 (bv (part l (64 * j) 64)) rfl hbl HA.out (bv_one _) (by unfold maxLen; omega) (by omega) hs ?_; intro v' w5 hown' hgrow hn1)
          go_roundw
          case rel =>
            refine ⟨j + 1, _, by omega, rfl, by go_num, ?_, ?_⟩
            · unfold Hid
              rw [← bv_append, HE.out] at hown'
              exact hown'
            · exact hb.out.grown hgrow (by omega) (fun q e => (World.ownsRow.lt hrow.out q e).1)
          case measure => simp [intOf]; omega
        · obtain rfl : j = k := by omega
          go_wp2
          go_ret
          refine ⟨_, rfl, ?_, hb.out⟩
          have h1 := hrow.out
          rw [HN.out, List.take_of_length_le (Nat.le_refl _)] at h1
          exact h1
end Go.Proofs.Ythcipnmcmcihgaa

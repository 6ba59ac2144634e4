/-
  Layer 2: the walk of LabelsBound.
-/
import Derived.Test.YtafnclkkncokpaaDoorPlay
namespace Go.Proofs.YtafnclkkncokpaaDoor
open Go.RowKit
set_option maxHeartbeats 1000000
theorem NumsIn.form {k : IntKind} {w : World} {v : Value} {xs : List Int} (h : NumsIn k w v xs) : ∃ (o : Option Addr) (c : Nat), v = .slice o xs.length c ∧ xs.length ≤ c ∧ xs.length ≤ maxLen ∧ (∀ (i : Nat) x, xs[i]? = some x → ∃ a, o = some a ∧ w.cell? (a.add i) = some (.int k x) ∧ (Lit.int k x).wf = true) := by
  rcases h with ⟨rfl, rfl⟩ | ⟨a, c, rfl, hcap, hl, hc, hw⟩
  · exact ⟨none, 0, rfl, by simp, by simp, fun i x hx => by simp at hx⟩
  · exact ⟨some a, c, rfl, hcap, hl, fun i x hx => ⟨a, rfl, hc i x hx, hw x (List.mem_of_getElem? hx)⟩⟩

theorem Has_yes (T : Nat) (most : Int) (ss : List Int) (m : Nat) (F : List Nat) (x : Int) (hx : W32 x) (hm : x ∈ ss) (w : World) (h : Tab w T most ss m F) :
    Calls Tryd.prog 18 #[.pointer (some ⟨T, 0, none⟩), .int .u32 x] w fun e w' => e = .returned (.tuple #[.int .i64 (pos ss x : Int), .bool true]) ∧ w = w' := by
  have := Has_any T most ss m F x hx w h
  simpa [hm] using this
theorem Has_no (T : Nat) (most : Int) (ss : List Int) (m : Nat) (F : List Nat) (x : Int) (hx : W32 x) (hm : x ∉ ss) (w : World) (h : Tab w T most ss m F) :
    Calls Tryd.prog 18 #[.pointer (some ⟨T, 0, none⟩), .int .u32 x] w fun e w' => e = .returned (.tuple #[.int .i64 0, .bool false]) ∧ w = w' := by
  have := Has_any T most ss m F x hx w h
  simpa [hm] using this
/-- Keep, at a table far from B, by what the document's Keep gives. -/
theorem Keep_far (T : Nat) (most : Int) (ss ss' : List Int) (m : Nat) (F : List Nat) (x : Int) (hx : W32 x) (B : Nat) (w0 w : World) (hB : B ≤ w.heap.size) (hF : ∀ k ∈ F, B ≤ k) (hb : Below B w0 w) (n e : Int) (hk : keepR most ss x = (ss', n, e)) (h : Tab w T most ss m F) :
    Calls Tryd.prog 14 #[.pointer (some ⟨T, 0, none⟩), .int .u32 x] w fun r w' => r = .returned (.tuple #[.int .i64 n, .int .i64 e]) ∧ ∃ F', Hid (Tab w' T most ss' m F' ∧ (∀ k ∈ F', B ≤ k) ∧ Below B w0 w') := by
  have := Keep_any T most ss m F x hx w h
  rw [hk] at this
  exact this.mono fun r w' ⟨h1, h2⟩ => ⟨h1, h2.far hB hF hb⟩

set_option maxRecDepth 100000 in
theorem LabelsBound_walk (most : Int) (hm : (Lit.int .i64 most).wf = true) (v : Value) (xs : List Int) (w : World) (h : NumsIn .u32 w v xs) :
    Calls Tryd.prog 8 #[.int .i64 most, v] w fun e w' => e = .returned (.bool true) ∧ Below w.heap.size w w' := by
  obtain ⟨o, c, rfl, hcap, hl, hc⟩ := h.form
  have HC := Lib.hid hc
  clear h hc
  by_cases hbad : most < 1 ∨ 60 < most ∨ 100 < (xs.length : Int)
  · clear HC
    go_enter Tryd.func8, Tryd.ntmps8
    by_cases h1 : most < 1
    · go_wp2_with (go_at_call 9; (with_reducible refine (known_any _).mono ?_); rintro e w3 ⟨rfl, hb3⟩)
      go_ret
      exact ⟨rfl, hb3⟩
    · by_cases h2 : 60 < most
      · go_wp2_with (go_at_call 9; (with_reducible refine (known_any _).mono ?_); rintro e w3 ⟨rfl, hb3⟩)
        go_ret
        exact ⟨rfl, hb3⟩
      · have h3 : 100 < (xs.length : Int) := by omega
        go_wp2_with (go_at_call 9; (with_reducible refine (known_any _).mono ?_); rintro e w3 ⟨rfl, hb3⟩)
        go_ret
        exact ⟨rfl, hb3⟩
  · have b1 : 1 ≤ most := by omega
    have b2 : most ≤ 60 := by omega
    have b3 : (xs.length : Int) ≤ 100 := by omega
    go_enter Tryd.func8, Tryd.ntmps8
    go_wp2_with (first
      | (go_at_call 10; (with_reducible refine (New_good most b1 (by omega) _).mono ?_); rintro e w1 ⟨rfl, hT, hb1⟩; have HT := Lib.hid (And.intro hT hb1); clear hT hb1))
    generalize hTT : w.heap.size + 3 = T at *
    have HTT := Lib.hid hTT
    clear hTT
    go_loopw [7] (fun i wr => ∃ k : Nat, k ≤ xs.length ∧ i = .int .i64 k ∧ ∃ ss F, Hid (Tab wr T most ss 0 F ∧ (∀ k ∈ F, w.heap.size ≤ k) ∧ Below w.heap.size w wr)) (fun i _ => xs.length - (intOf i).toNat)
    case atStart => exact ⟨0, by omega, rfl, [0], _, HT.out.1, by have := HTT.out; simp; omega, HT.out.2⟩
    case round =>
      obtain ⟨k, hk, rfl, ss, F, HI⟩ := hrel
      by_cases hlt : k < xs.length
      · obtain ⟨y, hy⟩ : ∃ y, xs[k]? = some y := ⟨_, List.getElem?_eq_getElem hlt⟩
        obtain ⟨a, rfl, hca, hwf⟩ := HC.out k y hy
        have hcw := below_cell HI.out.2.2 hca (World.block_lt_of_cell? _ _ hca)
        have hy0 : W32 y := w32_of_wf hwf
        have hx16 : S16 (y.tmod 65536) := by
          rw [Int.tmod_eq_emod_of_nonneg hy0.1]
          exact ⟨by have := hy0.1; omega, by omega⟩
        have hz := HI.out.2.2.size
        have hsl := HI.out.1.sets.len
        have hF := Lib.hid HI.out.2.1
        clear hca hwf hy
        have hw32 := Lib.hid hx16.w32
        by_cases hin : y.tmod 65536 ∈ ss
        · have HK := Lib.hid (keepR_old (most := most) hx16.2 hin)
          have HIN := Lib.hid hin
          clear hin hx16 hy0
          go_wp2_with (first
            | (go_at_call 18; (with_reducible refine (Has_yes _ _ _ _ _ _ hw32.out HIN.out _ HI.out.1).mono ?_); rintro e w2 ⟨rfl, rfl⟩)
            | (go_at_call 14; (with_reducible refine (Keep_far _ _ _ _ _ _ _ hw32.out _ _ _ hz hF.out HI.out.2.2 _ _ HK.out HI.out.1).mono ?_); rintro e w2 ⟨rfl, F2, HI2⟩))
          go_roundw
          case rel => exact ⟨k + 1, by omega, by go_num, ss, F2, HI2⟩
          case measure => simp [intOf]; omega
        · by_cases hf : most ≤ (ss.length : Int)
          · have HK := Lib.hid (keepR_full (most := most) hx16.2 hin hf)
            have HIN := Lib.hid hin
            have t1 : ((ss.length : Int) != most) = false := by simp; omega
            clear hin hx16 hy0
            go_wp2_with (first
              | (go_at_call 18; (with_reducible refine (Has_no _ _ _ _ _ _ hw32.out HIN.out _ HI.out.1).mono ?_); rintro e w2 ⟨rfl, rfl⟩)
              | (go_at_call 14; (with_reducible refine (Keep_far _ _ _ _ _ _ _ hw32.out _ _ _ hz hF.out HI.out.2.2 _ _ HK.out HI.out.1).mono ?_); rintro e w2 ⟨rfl, F2, HI2⟩)
              | (go_at_call 27; (with_reducible refine (Len_any _ _ _ _ _ _ HI2.out.1).mono ?_); rintro e w3 ⟨rfl, rfl⟩))
            go_roundw
            case rel => exact ⟨k + 1, by omega, by go_num, ss, F2, HI2⟩
            case measure => simp [intOf]; omega
          · have HK := Lib.hid (keepR_new (most := most) hx16.2 hin (by omega))
            have HIN := Lib.hid hin
            clear hin hx16 hy0
            go_wp2_with (first
              | (go_at_call 18; (with_reducible refine (Has_no _ _ _ _ _ _ hw32.out HIN.out _ HI.out.1).mono ?_); rintro e w2 ⟨rfl, rfl⟩)
              | (go_at_call 14; (with_reducible refine (Keep_far _ _ _ _ _ _ _ hw32.out _ _ _ hz hF.out HI.out.2.2 _ _ HK.out HI.out.1).mono ?_); rintro e w2 ⟨rfl, F2, HI2⟩)
              | (go_at_call 27; (with_reducible refine (Len_any _ _ _ _ _ _ HI2.out.1).mono ?_); rintro e w3 ⟨rfl, rfl⟩))
            go_roundw
            case rel => exact ⟨k + 1, by omega, by go_num, _, F2, HI2⟩
            case measure => simp [intOf]; omega
      · have hsl := HI.out.1.sets.len
        go_wp2_with (first
          | (go_at_call 27; (with_reducible refine (Len_any _ _ _ _ _ _ HI.out.1).mono ?_); rintro e w3 ⟨rfl, rfl⟩)
          | (go_at_call 9; (with_reducible refine (known_any _).mono ?_); rintro e w3 ⟨rfl, hb3⟩))
        go_ret
        exact ⟨rfl, HI.out.2.2.trans (hb3.mono HI.out.2.2.size)⟩
end Go.Proofs.YtafnclkkncokpaaDoor

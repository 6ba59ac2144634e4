/-
  Layer 8: made of package disk, whatever tells the sectors; New, Of, Copy: walks.
-/
import Derived.Test.YtbinpapgfddafaaPut
namespace Go.Proofs.Ytbinpapgfddafaa
open Go.RowKit
set_option maxHeartbeats 1000000
set_option linter.unusedVariables false
set_option linter.unusedSimpArgs false

theorem made_no {w : World} {n : Int} (h : n < 1 ∨ 32 < n) (fv : Value) : Calls Try.prog 26 #[.int .i64 n, fv] w fun e w' => e = .returned (.tuple #[.pointer none, .int .i64 2]) ∧ w = w' := by
  by_cases h1 : n < 1
  · go_enter Try.func26, Try.ntmps26
    go_wp2
    go_ret2
    exact ⟨rfl, rfl⟩
  · go_enter Try.func26, Try.ntmps26
    go_wp2
    all_goals first | omega | skip
    go_ret2
    exact ⟨rfl, rfl⟩
/-- Sectors n and on are still noughts. -/
structure Mk (w : World) (P : Nat) (b : List Int) (n : Nat) (W : World) : Prop where
  dk : Dk W (w.heap.size + 1) P (pre b P n) (dkF (w.heap.size + 1) w.heap.size)
  below : Below w.heap.size w W
theorem mk_start (w : World) {P : Nat} {b : List Int} (h : Dsk P b) : Mk w P b 0 ((w.alloc (.map #[] 0)).alloc (.cells #[.int .i64 (P : Int), .map (some w.heap.size)] 69)) := by
  have h1 := blk_new (w.alloc (.map #[] 0)) #[.int .i64 (P : Int), .map (some w.heap.size)] 69
  rw [World.size_alloc] at h1
  have h2 := (World.ownsMap_made w Try.prog 3 hv).alloc (.cells #[.int .i64 (P : Int), .map (some w.heap.size)] 69)
  refine ⟨?_, ((Below.refl _ _).alloc (Nat.le_refl _) _).alloc (by simp) _⟩
  rw [pre_zero]
  exact dk_new h.lo h.hi h1 h2
theorem Mk.step {w W W1 W2 : World} {P : Nat} {b : List Int} {n : Nat} (h : Mk w P b n W) (hD : Dsk P b) (hn : n < P) (hb : Below W.heap.size W W1) (hp : PutPost W1 (w.heap.size + 1) P (wr (pre b P n) n (sec b n)) (dkF (w.heap.size + 1) w.heap.size) W2) : Mk w P b (n + 1) W2 := by
  obtain ⟨p1, p2⟩ := hp
  rw [pre_succ hD.len hn] at p1
  have hs := h.below.size
  have h1 := h.below.trans (hb.mono hs)
  exact ⟨p1, h1.trans (p2.below h1.size (fun k hk => by rcases hk with e | e <;> omega))⟩
theorem made_any {w : World} {P : Nat} {b : List Int} (h : Dsk P b) (F : Nat) (bd cp : Array Value) (hE : ∀ args W, (callFunc F args).run Try.prog W = .ok (.enter F args) W)
    (hat : ∀ n, n < P → ∀ W, Below w.heap.size w W → Calls Try.prog F (bd.push (.int .i64 (n : Int)) ++ cp) W fun e w' => e = .returned (.agg (sc (sec b n))) ∧ Below W.heap.size W w') :
    Calls Try.prog 26 #[.int .i64 (P : Int), .func (.func F) bd cp] w fun e w' => e = .returned (.tuple #[.pointer (some ⟨w.heap.size + 1, 0, none⟩), .int .i64 0]) ∧ Dk w' (w.heap.size + 1) P b (dkF (w.heap.size + 1) w.heap.size) ∧ Below w.heap.size w w' := by
  have hlo := h.lo
  have hhi := h.hi
  have HM := Lib.hid (mk_start w h)
  have HA := Lib.hid hat
  have HD := Lib.hid h
  clear h hat
  have i1 : ¬ ((P : Int) < 1) := by omega
  have i2 : ¬ (32 < (P : Int)) := by omega
  have hmm := @run_makeMap Try.prog
  go_enter Try.func26, Try.ntmps26
  go_wp2
  go_loopw [19] (fun q wr => ∃ k : Nat, k ≤ P ∧ q = .int .i64 (k : Int) ∧ Hid (Mk w P b k wr)) (fun q _ => P + 1 - natI q)
  case atStart => exact ⟨0, by omega, rfl, HM.out⟩
  case round =>
    obtain ⟨k, hk, rfl, HK⟩ := hrel
    by_cases hlt : k < P
    · have hi : (k : Int) < P := by omega
      have hcall := HA.out k hlt wr HK.out.below
      have HC := Lib.hid hcall
      clear hcall
      go_wp2_with fail
      refine HC.out.mono ?_; rintro e w1 ⟨rfl, hb1⟩
      have HP := Lib.hid (put_any (HK.out.dk.below hb1) hlt (sec_len HD.out.len hlt) (HD.out.byt.sec k))
      have HB1 := Lib.hid hb1
      clear hb1
      go_wp2_with fail
      refine HP.out.mono ?_; rintro e w2 ⟨⟨v2, rfl⟩, hp2⟩
      have HK2 : Hid (Mk w P b (k + 1) w2) := HK.out.step HD.out hlt HB1.out hp2
      clear hp2
      go_wp2
      refine ⟨⟨k + 1, by omega, by go_num, HK2.out⟩, ?_⟩
      simp [natI]; omega
    · obtain rfl : k = P := by omega
      go_wp2
      go_ret2
      refine ⟨rfl, ?_, HK.out.below⟩
      have := HK.out.dk
      rw [pre_all HD.out.len] at this
      exact this
end Go.Proofs.Ytbinpapgfddafaa

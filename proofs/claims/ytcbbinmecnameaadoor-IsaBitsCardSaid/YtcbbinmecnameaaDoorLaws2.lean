/-
  Layer 4: the statement IsaBits, as a contract: a walk.
-/
import Derived.Test.YtcbbinmecnameaaDoorLaws1
set_option linter.unusedVariables false
namespace Go.Proofs.YtcbbinmecnameaaDoor
open Go.RowKit Go.Maps
set_option maxHeartbeats 1000000

theorem infoU : (Tryd.prog.info? 29).map (fun i => (i.zero, i.size, i.bytes)) = some (some (.int .u32 0), 1, 4) := by kernel_rfl

theorem bits_w32 (op : BinOp) (x y : Int) : W32 (bits op .u32 x y) := by
  unfold bits W32
  simp only [IntKind.wrap_u32]
  omega
theorem wf_of_w32 {a : Int} (h : W32 a) : (Lit.int .u32 a).wf = true := by
  unfold W32 at h
  simp [Lit.wf, IntKind.min, IntKind.max, IntKind.signed, IntKind.bits]; omega

/-- A slice of words that the call made, as a slice that comes in. -/
theorem nums_own {k : IntKind} {w : World} {B t : Nat} {v : Value} {xs : List Int} (h : w.ownsRow B t 1 v xs.length (xs.map (Value.int k))) (hm : xs.length ≤ maxLen) (hw : ∀ x ∈ xs, (Lit.int k x).wf = true) : NumsIn k w v xs := by
  rcases h.2 with ⟨rfl, h0⟩ | ⟨g, cap, cur, hv, _, hg, hc, _⟩
  · exact .inl ⟨rfl, List.eq_nil_of_length_eq_zero h0⟩
  · subst hv
    refine .inr ⟨⟨g, 0, none⟩, cap, rfl, hc, hm, fun i x hi => ?_, hw⟩
    exact h.cells (g := g) rfl i _ (by rw [List.getElem?_map, hi]; rfl)

set_option maxRecDepth 10000 in
theorem IsaBits_walk (x : Int) (hx : W32 x) (w : World) (h : Env w) :
    Calls Tryd.prog 8 #[.int .u32 x] w fun e w' => e = .returned (.bool true) ∧ Below w.heap.size w w' := by
  obtain ⟨i0, hi, hz0, hz1, hz2⟩ := info_parts infoU
  have HX := Lib.hid hx
  obtain ⟨hx0, hx1⟩ := hx
  go_enter Tryd.func8, Tryd.ntmps8
  go_wp2_with fail
  go_loopw [3, 4] (fun v i wr => ∃ (k : Nat) (u : Value) (ys : List Int), k ≤ 32 ∧ u = v ∧ i = .int .i64 (k : Int) ∧ Hid (ys.length = k) ∧ Hid (∀ y ∈ ys, W32 y) ∧ Hid (wr.ownsRow w.heap.size 29 1 u k (ys.map (Value.int .u32))) ∧ Hid (Below w.heap.size w wr)) (fun _ i _ => 32 - (intOf i).toNat)
  case atStart => exact ⟨0, _, [], by omega, rfl, rfl, rfl, fun y hy => by simp at hy, World.ownsRow_nil _ _ _ _, Below.refl _ _⟩
  case round =>
    obtain ⟨k, u, ys, hk, rfl, rfl, hl, hw, hrow, hb⟩ := hrel
    by_cases hlt : k < 32
    · have hY := bits_w32 .xor x (2 ^ k % 4294967296)
      have HY := Lib.hid hY
      have hs := hb.out.size
      have hll := hl.out
      clear hY
      go_wp2_with (at_builtin; refine wpList_append_own _ rfl _ _ 22 rfl w.heap.size 29 i0 (.int .u32 0) 1 4 Tryd.underlying22 hi hz0 hz1 hz2 rfl (by decide) _ _ _ rfl (hrow.out.alloc _) ⟨wr.heap.size, 0, none⟩ 1 1 [.int .u32 (bits .xor .u32 x (2 ^ k % 4294967296))] rfl rfl (cell_one_new _ _ _) (by simp [Value.oneCell']) (by unfold maxLen; omega) (by omega) (by simp; omega) ?_; intro v' w5 hown' hgrow hn1)
      go_roundw
      case rel =>
        refine ⟨k + 1, _, ys ++ [bits .xor .u32 x (2 ^ k % 4294967296)], by omega, rfl, by go_num, by unfold Hid; simp [hll], fun y hy => ?_, ?_, ?_⟩
        · rcases List.mem_append.1 hy with h1 | h1
          · exact hw.out y h1
          · rw [List.mem_singleton.1 h1]; exact HY.out
        · unfold Hid; simpa using hown'
        · exact (hb.out.alloc hs _).grown hgrow (by simp; omega) (fun j e => (World.ownsRow.lt hrow.out j e).1)
      case measure => simp [intOf]; omega
    · obtain rfl : k = 32 := by omega
      have hs := hb.out.size
      have hll := hl.out
      have HE := Lib.hid (h.below hb.out)
      go_wp2_with (at_builtin; refine wpList_append_own _ rfl _ _ 22 rfl w.heap.size 29 i0 (.int .u32 0) 1 4 Tryd.underlying22 hi hz0 hz1 hz2 rfl (by decide) _ _ _ rfl (hrow.out.alloc _) ⟨wr.heap.size, 0, none⟩ 1 1 [.int .u32 x] rfl rfl (cell_one_new _ _ _) (by simp [Value.oneCell']) (by unfold maxLen; omega) (by omega) (by simp; omega) ?_; intro v' w5 hown' hgrow hn1)
      have hb5 := (hb.out.alloc hs (.cells #[.int .u32 x] 29)).grown hgrow (by simp; omega) (fun j e => (World.ownsRow.lt hrow.out j e).1)
      have hz : (ys ++ [x]).length = 33 := by simp [hll]
      refine (IsaDecode_walk v' (ys ++ [x]) w5 (h.below hb5) (nums_own (B := w.heap.size) (t := 29) (by rw [hz]; simpa using hown') (by unfold maxLen; omega) (fun y hy => ?_))).mono ?_
      · rcases List.mem_append.1 hy with h1 | h1
        · exact wf_of_w32 (hw.out y h1)
        · rw [List.mem_singleton.1 h1]; exact wf_of_w32 HX.out
      rintro e w6 ⟨rfl, b6⟩
      have HF := Lib.hid (hb5.trans (b6.mono hb5.size))
      clear hgrow hb5 b6
      go_wp2_with fail
      go_ret
      exact ⟨rfl, HF.out⟩
end Go.Proofs.YtcbbinmecnameaaDoor

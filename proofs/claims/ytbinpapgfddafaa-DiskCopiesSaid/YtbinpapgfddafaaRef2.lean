/-
  Layer 8: the document's answer Used: walk.
-/
import Derived.Test.YtbinpapgfddafaaRef
import Derived.Test.YtbinpapgfddafaaUsed
namespace Go.Proofs.Ytbinpapgfddafaa
open Go.RowKit
set_option maxHeartbeats 1000000
set_option linter.unusedVariables false
set_option linter.unusedSimpArgs false

theorem A.infoI : (Try.prog.info? 3).map (fun i => (i.zero, i.size, i.bytes)) = some (some (.int .i64 0), 1, 8) := by kernel_rfl
def encs (l : List Nat) : List Value := (nat2int l).map (Value.int .i64)
theorem encs_snoc (l : List Nat) (k : Nat) : encs (l ++ [k]) = encs l ++ [.int .i64 (k : Int)] := by simp [encs, nat2int]
/-- What Used tells. -/
def UsP (w : World) (us : List Nat) (v : Value) (w' : World) : Prop := NumsIn .i64 w' v (nat2int us) ∧ (∀ k, rdBlk v = some k → w.heap.size ≤ k) ∧ Below w.heap.size w w'
set_option maxRecDepth 100000 in
theorem RUsed_any {w : World} {v : Value} {b : List Int} (hv : NumsIn .u8 w v b) (hl : b.length ≤ 3000) : Calls Try.prog 23 #[v] w fun e w' => ∃ v', e = .returned v' ∧ UsP w (uses b (b.length / 64)) v' w' := by
  obtain ⟨i0, hi, hz0, hz1, hz2⟩ := info_parts A.infoI
  have ht := @tdiv64 b.length
  have hz := zero_arr
  have HN := Lib.hid (fun W (hb : Below w.heap.size w W) => (show NumsIn .u8 W v b from hv.below hb))
  obtain ⟨ao, c, rfl, hc, _⟩ := hv.form
  have hqb : b.length / 64 ≤ 50 := by omega
  have HSL := Lib.hid (fun k (hk : k < b.length / 64) => (show (sec b k).length = 64 ∧ rdE b (k : Int) = sec b k from ⟨by unfold sec; rw [List.length_take, List.length_drop]; omega, by unfold rdE; rw [if_pos (by simp; omega)]; simp⟩))
  have HL := Lib.hid hl
  have HUL := Lib.hid (uses_le b)
  generalize hq : b.length / 64 = q at *
  clear hv
  go_enter Try.func23, Try.ntmps23
  go_wp2
  go_loopw [3, 4] (fun v i wr => ∃ k : Nat, k ≤ q ∧ i = .int .i64 (k : Int) ∧ Hid (wr.ownsRow w.heap.size 3 1 v (uses b k).length (encs (uses b k))) ∧ Hid (Below w.heap.size w wr)) (fun _ i _ => q + 1 - natI i)
  case atStart => exact ⟨0, by omega, rfl, World.ownsRow_nil _ _ _ _, Below.refl _ _⟩
  case round =>
    obtain ⟨k, hk, rfl, HRow, HB⟩ := hrel
    by_cases hlt : k < q
    · have hi' : (k : Int) < (q : Int) := by omega
      obtain ⟨hsl, hrd⟩ := HSL.out k hlt
      have HR := Lib.hid (RRead_any (HN.out wr HB.out) (by have := HL.out; omega) (k : Int))
      rw [hrd] at HR
      generalize wrR b (k : Int) = r0 at HR
      clear hrd
      have hul := HUL.out k
      cases hu : usd b k with
      | true =>
        have HY := Lib.hid (uses_yes hu)
        have hne : sec b k ≠ nou := by simpa [usd] using hu
        have hqq : ∀ W, (binOp .neq 37 (.agg (sc (sec b k))) (.agg (sc nou))).run Try.prog W = .ok (.bool true) W := fun W => by rw [neq_arr _ _ hsl nou_len, decide_eq_false hne]; rfl
        have hgd := guard_arr .neq
        clear hu hne
        go_wp2_with fail
        refine HR.out.mono ?_
        rintro e w1 ⟨rfl, hb1⟩
        have HB1 := Lib.hid hb1
        have HX := Lib.hid (ba_new w1 hsl)
        have hrow : w1.ownsRow w.heap.size 3 1 _ (uses b k).length (encs (uses b k)) := (Turned.of_below hb1 (fun _ => False)).row HRow.out (fun _ _ h => h)
        have hbz := (HB.out.trans (hb1.mono HB.out.size)).size
        clear hb1
        go_wp2_with (first | ((with_reducible apply wp_store_An (sec b k)); (exact ⟨nou_len, hsl⟩); (rfl); (rfl)) | ((with_reducible apply wp_load_A); (exact HX.out); (rfl)) | (at_builtin; refine wpList_append_own _ rfl _ _ 53 rfl w.heap.size 3 i0 (.int .i64 0) 1 8 Try.underlying53 hi hz0 hz1 hz2 rfl (by decide) _ _ _ rfl ((hrow.alloc _).alloc _) ⟨w1.heap.size + 1, 0, none⟩ 1 1 [.int .i64 (k : Int)] rfl rfl (by have := cell_one_new (w1.alloc (.cells (sc (sec b k)) 37)) (.int .i64 (k : Int)) 3; rw [World.size_alloc] at this; exact this) (by simp [Value.oneCell']) (by unfold maxLen; omega) (by omega) (by simp; omega) ?_; intro v' w2 hown' hgrow hn1))
        change World.grownBy _ _ (Value.ownBlock _) at hgrow
        refine ⟨⟨k + 1, by omega, by go_num, ?_, ?_⟩, ?_⟩
        · show w2.ownsRow _ _ _ _ _ _
          rw [HY.out, encs_snoc, List.length_append]
          exact hown'
        · refine (((HB.out.trans (HB1.out.mono HB.out.size)).alloc hbz _).alloc (by simp; omega) _).grown hgrow (by simp; omega) (fun j e => ?_)
          exact (World.ownsRow.lt hrow j e).1
        · simp [natI]; omega
      | false =>
        have HY := Lib.hid (uses_no hu)
        have he : sec b k = nou := by simpa [usd] using hu
        have hqq : ∀ W, (binOp .neq 37 (.agg (sc (sec b k))) (.agg (sc nou))).run Try.prog W = .ok (.bool false) W := fun W => by rw [neq_arr _ _ hsl nou_len, decide_eq_true he]; rfl
        have hgd := guard_arr .neq
        clear hu he
        go_wp2_with fail
        refine HR.out.mono ?_
        rintro e w1 ⟨rfl, hb1⟩
        have HB1 := Lib.hid hb1
        have HX := Lib.hid (ba_new w1 hsl)
        have hrow : w1.ownsRow w.heap.size 3 1 _ (uses b k).length (encs (uses b k)) := (Turned.of_below hb1 (fun _ => False)).row HRow.out (fun _ _ h => h)
        have hbz := (HB.out.trans (hb1.mono HB.out.size)).size
        clear hb1
        go_wp2_with (first | ((with_reducible apply wp_store_An (sec b k)); (exact ⟨nou_len, hsl⟩); (rfl); (rfl)) | ((with_reducible apply wp_load_A); (exact HX.out); (rfl)))
        refine ⟨⟨k + 1, by omega, by go_num, ?_, (HB.out.trans (HB1.out.mono HB.out.size)).alloc hbz _⟩, ?_⟩
        · show World.ownsRow _ _ _ _ _ _ _
          rw [HY.out]
          exact hrow.alloc _
        · simp [natI]; omega
    · obtain rfl : k = q := by omega
      have hul := HUL.out k
      go_wp2
      go_ret
      have hrow := HRow.out
      have hle : (nat2int (uses b k)).length = (uses b k).length := nat2int_len _
      refine ⟨_, rfl, nums_of_row (base := w.heap.size) (by rw [hle]; exact hrow) (by rw [hle]; unfold maxLen; omega) (fun x hx => ?_), fun j hj => ?_, HB.out⟩
      · obtain ⟨h0, h1⟩ := mem_nat2int.1 hx
        have := (mem_uses.1 h1).1
        exact wf_i64 (by omega) (by omega)
      · rcases hrow.2 with ⟨rfl, _⟩ | ⟨g, cap, cur, rfl, hbs, _⟩
        · simp [rdBlk] at hj
        · simp [rdBlk] at hj
          omega
end Go.Proofs.Ytbinpapgfddafaa

/-
  Layer 8: put of package disk where a sector is kept; Read, Write: walks. Written by gen_put.py.
-/
import Derived.Test.YtbinpapgfddafaaLeaf
import Derived.Laws.CopyOwn
namespace Go.Proofs.Ytbinpapgfddafaa
open Go.RowKit
set_option maxHeartbeats 400000
set_option linter.unusedVariables false
set_option linter.unusedSimpArgs false

/-- A map is written, at the operation. -/
theorem o_mapUpdate {P : Program} {op : Oper} {a : Act} {w w' : World} {K : Act → World → Prop} {Q : Exit → Act → World → Prop} {m x y : Operand} {t : TypeId} {mv key val : Value} (ho : op.op = .mapUpdate t m x y) (hm : a.eval m = mv) (hx : a.eval x = key) (hy : a.eval y = val)
    (hr : (Instr.mapUpdate t mv key val).run P w = .ok () w') (h : K (a.put op.dst undef) w') : op.wp P a w K Q := by
  unfold Oper.wp
  simp [execOp, ho, hm, hx, hy, hr, Result.andThen]
  exact h
theorem put_set {w : World} {S P : Nat} {b : List Int} {F : Nat → Prop} (h : Dk w S P b F) {n : Nat} (hn : n < P) {x : List Int} (hx : x.length = 64) (hb : Byt x) (hne : x ≠ nou) : Calls Try.prog 37 #[.pointer (some ⟨S, 0, none⟩), .int .i64 (n : Int), .agg (sc x)] w fun e w' => (∃ v, e = .returned v) ∧ PutPost w S P (wr b n x) F w' := by
  obtain ⟨mb, D, rfl, h⟩ := h
  have h32 := h.dsk.hi
  have h1 : DkIs (w.alloc (.cells (sc x) 61)) S mb P b D := h.keep fun k hk => Below.heap_alloc _ _ _ (h.lt k hk)
  have key := key_int (x := (n : Int)) (wf_i64 (by omega) (by omega))
  obtain ⟨w6, hrun, hown6, hturn6⟩ := h1.map.drew.store numLaw Try.underlying67 (by unfold maxLen; omega) key (hv_at (sv x))
  have ht6 : Turned (fun j => j = mb) (w.alloc (.cells (sc x) 61)).drew w6 := Turned.of_grown hturn6.grown (fun j e => by cases e; rfl)
  have h1d : DkIs (w.alloc (.cells (sc x) 61)).drew S mb P b D := h1.keep fun _ _ => rfl
  have HB := bs_new w hx
  have hmb : w.heap.size ≠ mb := by have := h.lt mb (.inr rfl); omega
  have hK0 : (fun W => W.cell? ⟨S, 1, none⟩ = some (.map (some mb)) ∧ Bs W w.heap.size x) (w.alloc (.cells (sc x) 61)).drew := ⟨h1d.cells.2, HB.drew⟩
  have hS6 := Lib.hid (show (fun W => W.cell? ⟨S, 1, none⟩ = some (.map (some mb)) ∧ Bs W w.heap.size x) w6 from ⟨(h1d.put (h.dsk.wr hx hb hn) ht6 hown6 (sd_put h.sd h1.map.isMap h.dsk.len hn hx hne)).cells.2, HB.drew.keep (ht6.block _ (HB.drew.blk.lt) hmb)⟩)
  have HF := Lib.hid (show PutPost w S P (wr b n x) (dkF S mb) w6 from ⟨⟨mb, _, rfl, h1d.put (h.dsk.wr hx hb hn) ht6 hown6 (sd_put h.sd h1.map.isMap h.dsk.len hn hx hne)⟩, (((Turned.refl _ w).alloc _).drew).trans ht6 (fun k e => .inl (.inr e))⟩)
  obtain ⟨c0, c1⟩ := h1.cells
  have hz := zero_sec
  have hq := fun W => eql_sec x nou hx nou_len W
  simp only [hne, decide_false] at hq
  have hgd := guard_sec .eql
  have HB1 := Lib.hid HB
  clear h h1 h1d ht6 hturn6 hown6 HB
  go_enter Try.func37, Try.ntmps37
  go_wp2_with (first | ((with_reducible apply wp_load_S); (exact HB1.out); (rfl)))
  refine wp_region_held_drew (S := fun W => W.cell? ⟨S, 1, none⟩ = some (.map (some mb)) ∧ Bs W w.heap.size x) (by kernel_rfl) hK0 (fun _ => ?_)
  have hS := hK0
  refine take_d (i := 0) (d := some 14) (v := ?_) rfl rfl (by kernel_rfl) (by kernel_rfl) (by kernel_rfl) (fun _ _ _ h => h) (.inl ⟨by rfl, ?_⟩) hS ?_
  rotate_left
  · intro W hW
    go_simp
    try with_reducible rfl
  try simp only [Act.put, List.setIfInBounds_toArray, List.set_cons_zero, List.set_cons_succ]
  refine take_d (i := 1) (d := some 15) (v := ?_) rfl rfl (by kernel_rfl) (by kernel_rfl) (by kernel_rfl) (fun _ _ _ h => h) (.inl ⟨by rfl, ?_⟩) hS ?_
  rotate_left
  · intro W hW
    go_simp
    try with_reducible rfl
  try simp only [Act.put, List.setIfInBounds_toArray, List.set_cons_zero, List.set_cons_succ]
  refine take_d (i := 2) (d := some 16) (v := ?_) rfl rfl (by kernel_rfl) (by kernel_rfl) (by kernel_rfl) (fun _ _ _ h => h) (.inl ⟨by rfl, ?_⟩) hS ?_
  rotate_left
  · intro W hW
    go_simp
    try with_reducible rfl
  try simp only [Act.put, List.setIfInBounds_toArray, List.set_cons_zero, List.set_cons_succ]
  refine take_d (i := 3) (d := some 17) (v := ?_) rfl rfl (by kernel_rfl) (by kernel_rfl) (by kernel_rfl) (fun _ _ _ h => h) (.inl ⟨by rfl, ?_⟩) hS ?_
  rotate_left
  · intro W hW
    have q := hW.1
    go_simp
    try with_reducible rfl
  try simp only [Act.put, List.setIfInBounds_toArray, List.set_cons_zero, List.set_cons_succ]
  refine take_d (i := 4) (d := some 18) (v := ?_) rfl rfl (by kernel_rfl) (by kernel_rfl) (by kernel_rfl) (fun _ _ _ h => h) (.inl ⟨by rfl, ?_⟩) hS ?_
  rotate_left
  · intro W hW
    go_simp
    try with_reducible rfl
  try simp only [Act.put, List.setIfInBounds_toArray, List.set_cons_zero, List.set_cons_succ]
  refine take_d (i := 5) (d := some 19) (v := .agg (sc x)) rfl rfl (by kernel_rfl) (by kernel_rfl) (by kernel_rfl) (fun _ _ _ h => h) (y_S (by rfl) rfl rfl (fun W hW => hW.2) hx) hS ?_
  try simp only [Act.put, List.setIfInBounds_toArray, List.set_cons_zero, List.set_cons_succ]
  refine wpAnyH_all (rs := [6]) (by kernel_rfl) (by simp) (fun i hi => ?_)
  simp only [List.mem_cons, List.not_mem_nil, or_false] at hi
  subst hi
  refine .inl ?_
  refine o_mapUpdate rfl rfl rfl rfl hrun ?_
  refine ⟨hS6.out, ?_⟩
  try simp only [Act.put, List.setIfInBounds_toArray, List.set_cons_zero, List.set_cons_succ]
  refine wpAnyH_done (by kernel_rfl) ?_ _
  go_end0
  exact ⟨⟨_, rfl⟩, HF.out⟩
theorem put_any {w : World} {S P : Nat} {b : List Int} {F : Nat → Prop} (h : Dk w S P b F) {n : Nat} (hn : n < P) {x : List Int} (hx : x.length = 64) (hb : Byt x) : Calls Try.prog 37 #[.pointer (some ⟨S, 0, none⟩), .int .i64 (n : Int), .agg (sc x)] w fun e w' => (∃ v, e = .returned v) ∧ PutPost w S P (wr b n x) F w' := by
  by_cases e : x = nou
  · subst e; exact put_del h hn
  · exact put_set h hn hx hb e

/-! ### Read, Write -/
theorem Read_nil (n : Int) (w : World) : Calls Try.prog 16 #[.pointer none, .int .i64 n] w fun e w' => e = .returned (.tuple #[.agg (sc nou), .int .i64 1]) ∧ Below w.heap.size w w' := by
  have hz := zero_arr
  have hz2 := zero_sec
  go_enter Try.func16, Try.ntmps16
  go_wp2_with (first | ((with_reducible apply wp_store_An nou); (exact ⟨nou_len, nou_len⟩); (rfl); (rfl)) | (go_at_call 30; refine (refusal_nil _ _).mono ?_; rintro e w' ⟨rfl, rfl⟩))
  exact bodyPost_ret (res_A_tmp (fn := Try.f16) rfl _ (ba_new w nou_len) rfl) rfl ⟨rfl, (Below.refl _ _).alloc (Nat.le_refl _) _⟩
theorem Read_any {w : World} {S P : Nat} {b : List Int} {F : Nat → Prop} (h : Dk w S P b F) (n : Int) : Calls Try.prog 16 #[.pointer (some ⟨S, 0, none⟩), .int .i64 n] w fun e w' => e = .returned (.tuple #[.agg (sc (rdE b n)), .int .i64 (wrR b n)]) ∧ Below w.heap.size w w' := by
  have hz := zero_arr
  have hz2 := zero_sec
  have hD := h.alloc (.cells (sc nou) 37)
  have HR := Lib.hid (refusal_any hD n)
  have hdv := h.dsk.div
  rw [← refP_wr h.dsk n]
  by_cases h0 : 0 ≤ n ∧ n < (P : Int)
  · obtain ⟨p, rfl⟩ : ∃ p : Nat, n = (p : Int) := ⟨n.toNat, by omega⟩
    have hp : p < P := by omega
    have HA := Lib.hid (at_any hD hp)
    have he : rdE b (p : Int) = sec b p := by unfold rdE; rw [hdv, if_pos (by simp; exact hp)]; simp
    have hr : refP P (p : Int) = 0 := by unfold refP; rw [if_pos h0]
    have hsl := sec_len h.dsk.len hp
    have HBA := Lib.hid (ba_new w nou_len)
    rw [he, hr]
    rw [hr] at HR
    clear he hr h hD h0
    go_enter Try.func16, Try.ntmps16
    go_wp2_with fail
    refine HR.out.mono ?_; rintro e w1 ⟨rfl, rfl⟩
    go_wp2_with fail
    refine HA.out.mono ?_; rintro e w1 ⟨rfl, hb1⟩
    have HB1 := Lib.hid (HBA.out.below hb1)
    have HB := Lib.hid hb1
    clear hb1
    go_wp2_with (first | ((with_reducible apply wp_store_A (sec b p)); (exact ⟨HB1.out, hsl⟩); (rfl); (rfl)))
    refine bodyPost_ret (res_A_tmp (fn := Try.f16) rfl _ (HB1.out.set hsl) rfl) rfl ⟨rfl, ?_⟩
    exact below_setRow (((Below.refl _ w).alloc (Nat.le_refl _) _).trans (HB.out.mono (by simp))) (Nat.le_refl _) _
  · have he : rdE b n = nou := by unfold rdE; rw [hdv, if_neg (by omega)]
    have hr : refP P n = 4 := by unfold refP; rw [if_neg h0]
    rw [he, hr]
    rw [hr] at HR
    have HBA := Lib.hid (ba_new w nou_len)
    clear he hr h hD h0
    go_enter Try.func16, Try.ntmps16
    go_wp2_with (first | ((with_reducible apply wp_store_An nou); (exact ⟨nou_len, nou_len⟩); (rfl); (rfl)) | (go_at_call 30; refine (HR.out).mono ?_; rintro e w' ⟨rfl, rfl⟩))
    exact bodyPost_ret (res_A_tmp (fn := Try.f16) rfl _ (ba_new w nou_len) rfl) rfl ⟨rfl, (Below.refl _ _).alloc (Nat.le_refl _) _⟩
theorem Write_nil (n : Int) {x : List Int} (hx : x.length = 64) (w : World) : Calls Try.prog 22 #[.pointer none, .int .i64 n, .agg (sc x)] w fun e w' => e = .returned (.int .i64 1) ∧ Below w.heap.size w w' := by
  go_enter Try.func22, Try.ntmps22
  go_wp2_with (go_at_call 30; refine (refusal_nil _ _).mono ?_; rintro e w' ⟨rfl, rfl⟩)
  go_ret
  exact ⟨rfl, (Below.refl _ _).alloc (Nat.le_refl _) _⟩
theorem Write_any {w : World} {S P : Nat} {b : List Int} {F : Nat → Prop} (h : Dk w S P b F) (n : Int) {x : List Int} (hx : x.length = 64) (hb : Byt x) : Calls Try.prog 22 #[.pointer (some ⟨S, 0, none⟩), .int .i64 n, .agg (sc x)] w fun e w' => e = .returned (.int .i64 (wrR b n)) ∧ PutPost w S P (wrE b n x) F w' := by
  have hD := h.alloc (.cells (sc x) 37)
  have HR := Lib.hid (refusal_any hD n)
  have hdv := h.dsk.div
  rw [← refP_wr h.dsk n]
  by_cases h0 : 0 ≤ n ∧ n < (P : Int)
  · obtain ⟨p, rfl⟩ : ∃ p : Nat, n = (p : Int) := ⟨n.toNat, by omega⟩
    have hp : p < P := by omega
    have HA := Lib.hid (put_any hD hp hx hb)
    have he : wrE b (p : Int) x = wr b p x := by unfold wrE; rw [hdv, if_pos (by simp; exact hp)]; simp
    have hr : refP P (p : Int) = 0 := by unfold refP; rw [if_pos h0]
    have HBA := Lib.hid (ba_new w hx)
    rw [he, hr]
    rw [hr] at HR
    clear he hr h hD h0
    go_enter Try.func22, Try.ntmps22
    go_wp2_with fail
    refine HR.out.mono ?_; rintro e w1 ⟨rfl, rfl⟩
    go_wp2_with (first | ((with_reducible apply wp_load_A); (exact HBA.out); (rfl)))
    refine HA.out.mono ?_; rintro e w1 ⟨⟨v, rfl⟩, hp1⟩
    have HB := Lib.hid hp1
    clear hp1
    go_wp2
    go_ret
    exact ⟨rfl, HB.out.1, ((Turned.refl _ w).alloc _).trans HB.out.2 (fun k e => .inl e)⟩
  · have he : wrE b n x = b := by unfold wrE; rw [hdv, if_neg (by omega)]
    have hr : refP P n = 4 := by unfold refP; rw [if_neg h0]
    have HD := Lib.hid hD
    rw [he, hr]
    rw [hr] at HR
    clear he hr h hD h0
    go_enter Try.func22, Try.ntmps22
    go_wp2_with (go_at_call 30; refine (HR.out).mono ?_; rintro e w' ⟨rfl, rfl⟩)
    go_ret
    exact ⟨rfl, HD.out, (Turned.refl _ w).alloc _⟩
end Go.Proofs.Ytbinpapgfddafaa

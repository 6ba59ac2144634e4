/-
  Layer 6: Fill, Drop of package tlb: walks.
-/
import Derived.Test.YtafkjokbidkkhaaLook
import Derived.Test.YtafkjokbidkkhaaStill
namespace Go.Proofs.Ytafkjokbidkkhaa
open Go.RowKit
set_option maxHeartbeats 1000000
set_option linter.unusedVariables false

theorem At.there {w : World} {S : Nat} {t : Tl} (h : At w S t) {i : Nat} (hi : i < 4) : w.there S (1 + i * 4) 4 := Blk.there h _ _ (by rw [pc_size]; omega)
theorem Drop_any {w : World} {S : Nat} {t : Tl} (h : At w S t) (p : Int) : Calls Try.prog 23 #[.pointer (some ⟨S, 0, none⟩), .int .u32 p] w fun e w' =>
    e = .returned (.bool (t.lkB p)) ∧ At w' S (t.drp p) ∧ Turned (fun k => k = S) w w' := by
  have HL := Lib.hid (Look_any h p)
  have H := Lib.hid h
  have hS := h.lt
  clear h
  go_enter Try.func23, Try.ntmps23
  go_wp2_with fail
  refine HL.out.mono ?_
  rintro e w1 ⟨rfl, hb⟩
  have H1 := Lib.hid (show At (w1.alloc (.cells #[.bool (t.lkE p).th, .int .u32 (t.lkE p).pg, .int .u32 (t.lkE p).fr, .bool (t.lkE p).wr] 27)) S t from (Blk.below H.out hb).alloc _)
  have HT := Lib.hid (((Turned.of_below hb (fun k => k = S)).alloc (.cells #[.bool (t.lkE p).th, .int .u32 (t.lkE p).pg, .int .u32 (t.lkE p).fr, .bool (t.lkE p).wr] 27)))
  clear hb HL
  have HLb := fun (b : Bool) (h : t.lkB p = b) => Lib.hid h
  cases hl : t.lkB p with
  | true =>
    have hk := t.lkI_lt p
    have E2 : Hid (t.drp p = t.st (t.lkI p) E0) := by unfold Tl.drp; exact if_pos hl
    have HB := Lib.hid hl
    clear hl HLb
    generalize t.lkI p = k at hk E2 ⊢
    have hk' : (k : Int) < 4 := by omega
    have C0 := Lib.hid (H1.out.there hk)
    have S0 := Lib.hid (H1.out.st hk E0)
    go_wp2_with ((with_reducible apply wp_store_E E0); (exact C0.out); (rfl); (rfl))
    go_ret
    exact ⟨by rw [HB.out]; rfl, by rw [E2.out]; exact S0.out, HT.out.trans (turned_setCells _ _ _ _) (fun x hx => .inl hx)⟩
  | false =>
    have E2 : Hid (t.drp p = t) := by unfold Tl.drp; exact if_neg (by rw [hl]; simp)
    have HB := Lib.hid hl
    clear hl HLb
    go_wp2
    go_ret
    exact ⟨by rw [HB.out]; rfl, by rw [E2.out]; exact H1.out, HT.out⟩
theorem Drop_nil (p : Int) (w : World) : Calls Try.prog 23 #[.pointer none, .int .u32 p] w fun e w' =>
    e = .returned (.bool false) ∧ Below w.heap.size w w' := by
  have HL := Lib.hid (Look_nil p w)
  go_enter Try.func23, Try.ntmps23
  go_wp2_with fail
  refine HL.out.mono ?_
  rintro e w1 ⟨rfl, hb⟩
  have HT := Lib.hid (hb.alloc hb.size (.cells #[.bool false, .int .u32 0, .int .u32 0, .bool false] 27))
  clear hb HL
  go_wp2
  go_ret
  exact ⟨rfl, HT.out⟩
theorem Fill_nil (e : Ent) (w : World) : Calls Try.prog 19 #[.pointer none, .agg #[.bool e.th, .int .u32 e.pg, .int .u32 e.fr, .bool e.wr]] w fun r w' =>
    r = .returned (.int .i64 0) ∧ Below w.heap.size w w' := by
  have HB := Lib.hid ((Below.refl w.heap.size w).alloc (Nat.le_refl _) (.cells #[.bool e.th, .int .u32 e.pg, .int .u32 e.fr, .bool e.wr] 27))
  go_enter Try.func19, Try.ntmps19
  go_wp2_with (go_at_call 27; refine (none_nil _).mono ?_; rintro e w' ⟨rfl, rfl⟩)
  go_ret
  exact ⟨rfl, HB.out⟩
set_option maxRecDepth 100000 in
theorem Fill_any {w : World} {S : Nat} {t : Tl} (h : At w S t) (hok : Ok t) (th : Bool) (p f : Int) (wr : Bool) : Calls Try.prog 19 #[.pointer (some ⟨S, 0, none⟩), .agg #[.bool th, .int .u32 p, .int .u32 f, .bool wr]] w fun r w' =>
    r = .returned (.int .i64 (t.slt p : Int)) ∧ At w' S (t.fil p f wr) ∧ Turned (fun k => k = S) w w' := by
  have h1 : At (w.alloc (.cells #[.bool th, .int .u32 p, .int .u32 f, .bool wr] 27)) S t := Blk.alloc h _
  have hB : Bxs w [(w.heap.size, #[.bool th, .int .u32 p, .int .u32 f, .bool wr], 27)] (w.alloc (.cells #[.bool th, .int .u32 p, .int .u32 f, .bool wr] 27)) := (Bxs.nil w).alloc _ _
  have hS := h.lt
  have HB := Lib.hid hB
  have H1 := Lib.hid h1
  have HL := Lib.hid (Look_any h1 p)
  have HN := Lib.hid (none_at h1)
  clear h h1 hB
  go_enter Try.func19, Try.ntmps19
  go_wp2_with (go_at_call 27; refine HN.out.mono ?_; rintro e w' ⟨rfl, rfl⟩)
  refine HL.out.mono ?_
  rintro e w1 ⟨rfl, hb⟩
  have hw0 : w.heap.size < w1.heap.size := by have := hb.size; simp at this; omega
  have HA := Lib.hid (show At w1 S t from Blk.below H1.out hb)
  have k0 := (HB.out.after hb).get w.heap.size (cs := #[.bool th, .int .u32 p, .int .u32 f, .bool wr]) (ty := 27) (by simp)
  have HT := Lib.hid (((Turned.refl (fun k => k = S) w).alloc (.cells #[.bool th, .int .u32 p, .int .u32 f, .bool wr] 27)).trans (Turned.of_below hb (fun k => k = S)) (fun x hx => .inl hx))
  clear hb HB H1 HL HN
  have q0 := k0.cell 0
  have f0 := k0.frozen 0
  have hsl := hok.slt p
  simp only [List.getElem?_toArray, List.getElem?_cons_zero] at q0
  cases hl : t.lkB p with
  | true =>
    have hk := t.lkI_lt p
    have e1 : t.slt p = t.lkI p := by unfold Tl.slt; rw [if_pos hl]
    have e2 : t.fil p f wr = t.st (t.lkI p) ⟨true, p, f, wr⟩ := by unfold Tl.fil Tl.nxt; rw [if_pos hl, e1]
    have E1 := Lib.hid e1
    have E2 := Lib.hid e2
    clear hl e1 e2 hsl
    generalize t.lkI p = k at hk E1 E2 ⊢
    have hk' : (k : Int) < 4 := by omega
    have HA3 := Lib.hid (show At ((w1.setCell ⟨w.heap.size, 0, none⟩ (.bool true)).alloc (.cells #[.bool (t.lkE p).th, .int .u32 (t.lkE p).pg, .int .u32 (t.lkE p).fr, .bool (t.lkE p).wr] 27)).drew S t from ((Blk.off HA.out (by omega) _).alloc _).drew)
    have HT3 := Lib.hid (((HT.out.setCell (p := ⟨w.heap.size, 0, none⟩) (.inr (Nat.le_refl _)) (.bool true)).alloc (.cells #[.bool (t.lkE p).th, .int .u32 (t.lkE p).pg, .int .u32 (t.lkE p).fr, .bool (t.lkE p).wr] 27)).drew)
    have k3 := Lib.hid (((k0.setCell 0 (.bool true)).alloc (.cells #[.bool (t.lkE p).th, .int .u32 (t.lkE p).pg, .int .u32 (t.lkE p).fr, .bool (t.lkE p).wr] 27)).drew.range 0 (cE ⟨true, p, f, wr⟩) rfl)
    have C0 := Lib.hid (HA3.out.there hk)
    have SA := Lib.hid (HA3.out.st hk ⟨true, p, f, wr⟩)
    clear k0 HA HT
    go_wp2
    refine wp_tail 6 (by kernel_rfl) (by kernel_rfl) ?_
    simp only [List.take_succ_cons, List.take_zero, List.drop_succ_cons, List.drop_zero]
    repeat (first | ((with_reducible apply st_load_E); (exact k3.out); (rfl)) | still_step)
    refine wpStill_nil ?_
    go_wp2_with ((with_reducible apply wp_store_E ⟨true, p, f, wr⟩); (exact C0.out); (rfl); (rfl))
    go_ret
    exact ⟨by rw [E1.out]; rfl, by rw [E2.out]; exact SA.out, HT3.out.trans (turned_setCells _ _ _ _) (fun x hx => .inl hx)⟩
  | false =>
    have hk := hok.nx
    have e1 : t.slt p = t.nx := by unfold Tl.slt; rw [if_neg (by rw [hl]; simp)]
    have e2 : t.fil p f wr = ({ t with nx := (t.nx + 1) % 4 } : Tl).st t.nx ⟨true, p, f, wr⟩ := by unfold Tl.fil Tl.nxt; rw [if_neg (by rw [hl]; simp), e1]
    have E1 := Lib.hid e1
    have E2 := Lib.hid e2
    clear hl e1 e2 hsl
    have hk' : (t.nx : Int) < 4 := by omega
    have HA2 := Lib.hid (show At (w1.alloc (.cells #[.bool (t.lkE p).th, .int .u32 (t.lkE p).pg, .int .u32 (t.lkE p).fr, .bool (t.lkE p).wr] 27)) S t from Blk.alloc HA.out _)
    have cn := HA2.out.next
    have fn := Blk.frozen HA2.out 17
    have HNB := Lib.hid (fun W => (behind_any t.nx hk W).mono (R' := fun e w' => e = .returned (.int .i64 (((t.nx + 1) % 4 : Nat) : Int)) ∧ w' = W) (fun e w' h => ⟨h.1, h.2.symm⟩))
    go_wp2
    refine wp_tail 13 (by kernel_rfl) (by kernel_rfl) ?_
    simp only [List.take_succ_cons, List.take_zero, List.drop_succ_cons, List.drop_zero]
    still_step
    still_step
    still_step
    still_step
    still_step
    still_step
    still_step
    still_step
    still_step
    still_call (HNB.out _)
    repeat still_step
    refine wpStill_nil ?_
    have hcast : (((t.nx + 1) % 4 : Nat) : Int) = ((t.nx : Int) + 1) % 4 := by omega
    have hA3 := HA2.out.nxt ((t.nx + 1) % 4)
    rw [hcast] at hA3
    have HA3 := Lib.hid (show At ((((w1.alloc (.cells #[.bool (t.lkE p).th, .int .u32 (t.lkE p).pg, .int .u32 (t.lkE p).fr, .bool (t.lkE p).wr] 27)).setCell ⟨S, 17, none⟩ (.int .i64 (((t.nx : Int) + 1) % 4))).setCell ⟨w.heap.size, 0, none⟩ (.bool true)).drew.drew) S { t with nx := (t.nx + 1) % 4 } from ((Blk.off hA3 (by omega) _).drew).drew)
    have HT3 := Lib.hid (((((HT.out.alloc (.cells #[.bool (t.lkE p).th, .int .u32 (t.lkE p).pg, .int .u32 (t.lkE p).fr, .bool (t.lkE p).wr] 27)).setCell (p := ⟨S, 17, none⟩) (.inl rfl) (.int .i64 (((t.nx : Int) + 1) % 4))).setCell (p := ⟨w.heap.size, 0, none⟩) (.inr (Nat.le_refl _)) (.bool true)).drew).drew)
    have k3 := Lib.hid (((((k0.alloc (.cells #[.bool (t.lkE p).th, .int .u32 (t.lkE p).pg, .int .u32 (t.lkE p).fr, .bool (t.lkE p).wr] 27)).off (show w.heap.size ≠ S by omega) (.int .i64 (((t.nx : Int) + 1) % 4)) (j := 17)).setCell 0 (.bool true)).drew).drew.range 0 (cE ⟨true, p, f, wr⟩) rfl)
    have C0 := Lib.hid (HA3.out.there hk)
    have SA := Lib.hid (HA3.out.st hk ⟨true, p, f, wr⟩)
    clear k0 HA HA2 HT hA3 hcast
    go_wp2
    refine wp_tail 6 (by kernel_rfl) (by kernel_rfl) ?_
    simp only [List.take_succ_cons, List.take_zero, List.drop_succ_cons, List.drop_zero]
    repeat (first | ((with_reducible apply st_load_E); (exact k3.out); (rfl)) | still_step)
    refine wpStill_nil ?_
    go_wp2_with ((with_reducible apply wp_store_E ⟨true, p, f, wr⟩); (exact C0.out); (rfl); (rfl))
    go_ret
    exact ⟨by rw [E1.out]; rfl, by rw [E2.out]; exact SA.out, HT3.out.trans (turned_setCells _ _ _ _) (fun x hx => .inl hx)⟩
end Go.Proofs.Ytafkjokbidkkhaa

/-
  Layer 10: cause of a step, Status, Trap of package cpu: walks.
-/
import Derived.Test.YthjdfneibogcgaaDoorStep2
namespace Go.Proofs.YthjdfneibogcgaaDoor
open Go.RowKit
set_option maxHeartbeats 8000000
set_option linter.unusedVariables false
set_option linter.unusedSimpArgs false

set_option maxRecDepth 10000 in
theorem cause_aux (s : Sta) (op : Int) (A B : Nat) (m : Int) (hA : A < 8) (hB : B < 8) (w : World) (c ad : Int) (had : 0 ≤ ad) (hc : Hid (c = causeOf op s.su m ad)) (HC : Hid (∀ W, Calls Tryd.prog 49 #[.agg (xc s ⟨op, A, B, m⟩)] W fun e w' => e = .returned (.int .u32 ad) ∧ Below W.heap.size W w')) :
    Calls Tryd.prog 26 #[.agg (xc s ⟨op, A, B, m⟩)] w fun e w' => e = .returned (.int .u32 c) ∧ Below w.heap.size w w' := by
  have HX := Lib.hid (Sx.new w s ⟨op, A, B, m⟩)
  have q := HX.out.r.x
  obtain ⟨su, hsu⟩ : ∃ b, s.su = b := ⟨_, rfl⟩
  rw [hsu] at hc q
  go_enter Tryd.func26, Tryd.ntmps26
  by_cases h : op = 13 ∨ op = 14 ∨ op = 21
  · have hl : c = if ad % 4 = 0 then 0 else 6 := by
      rw [hc.out]; rcases h with rfl | rfl | rfl <;> simp [causeOf]
    clear hc
    rcases h with rfl | rfl | rfl
    all_goals
      go_wp2_with (first | ((with_reducible apply wp_load_R rowX); (exact HX.out.r); (rfl)))
      refine (HC.out _).mono ?_
      rintro e w2 ⟨rfl, b2⟩
      have HE := Lib.hid (HX.out.after b2).b
      clear b2 q
      go_wp2
      all_goals go_ret
      all_goals refine ⟨?_, HE.out⟩
      all_goals rw [hl]
      all_goals simp_all
  · have hl : c = causeOf op su m 0 := by
      rw [hc.out]; unfold causeOf; simp [h]
    clear hc
    have h13 : op ≠ 13 := fun e => h (.inl e)
    have h14 : op ≠ 14 := fun e => h (.inr (.inl e))
    have h21 : op ≠ 21 := fun e => h (.inr (.inr e))
    have HL := Lib.hid hl
    clear hl h
    cases su
    all_goals
      go_wp2
      all_goals go_ret
      all_goals refine ⟨?_, HX.out.b⟩
      all_goals rw [HL.out]
      all_goals simp_all [causeOf]
theorem addr_w32 (s : Sta) (i : Ins) : W32 (addr s i) := by unfold addr W32; omega
theorem cause_any (s : Sta) (op : Int) (A B : Nat) (m : Int) (hA : A < 8) (hB : B < 8) (w : World) : Calls Tryd.prog 26 #[.agg (xc s ⟨op, A, B, m⟩)] w fun e w' => e = .returned (.int .u32 (causeS s ⟨op, A, B, m⟩)) ∧ Below w.heap.size w w' :=
  cause_aux s op A B m hA hB w _ _ (addr_w32 s _).1 rfl (fun W => address_any s op A B m hB W)

theorem Rf.s {w : World} {R : Nat} {s : Sta} (h : Rf 25 16 w R (sc s)) : w.cell? ⟨R, 8, none⟩ = some (.int .u32 s.pc) ∧ w.cell? ⟨R, 9, none⟩ = some (.int .u32 s.epc) ∧ w.cell? ⟨R, 10, none⟩ = some (.int .u32 s.cs) ∧
    w.cell? ⟨R, 11, none⟩ = some (.int .u32 s.vec) ∧ w.cell? ⟨R, 12, none⟩ = some (.int .u32 s.tab) ∧ w.cell? ⟨R, 13, none⟩ = some (.bool s.su) ∧ w.cell? ⟨R, 14, none⟩ = some (.bool s.pv) ∧ w.cell? ⟨R, 15, none⟩ = some (.bool s.en) :=
  ⟨h.cell 8, h.cell 9, h.cell 10, h.cell 11, h.cell 12, h.cell 13, h.cell 14, h.cell 15⟩
theorem Rf.sr {w : World} {R : Nat} {s : Sta} (h : Rf 25 16 w R (sc s)) {k : Nat} (hk : k < 8) : w.cell? ⟨R, k, none⟩ = some (.int .u32 (s.r k)) := (h.cell k).trans (sc_reg s hk)
theorem rs_new (w : World) (s : Sta) : Rf 25 16 (w.alloc (.cells (sc s) 25)) w.heap.size (sc s) := ⟨blk_new _ _ _, rfl, sc_one s⟩
theorem Status_any (s : Sta) (w : World) : Calls Tryd.prog 15 #[.agg (sc s)] w fun e w' => e = .returned (.int .u32 (statusS s)) ∧ Below w.heap.size w w' := by
  have HX := Lib.hid (rs_new w s)
  have q := HX.out.s
  have hst : statusS s = b2 s.su 1 + b2 s.pv 2 + b2 s.en 4 := rfl
  generalize s.su = su at *
  generalize s.pv = pv at *
  generalize s.en = en at *
  rw [hst]
  clear hst
  have HB := Lib.hid (bel1 w (.cells (sc s) 25))
  go_enter Tryd.func15, Tryd.ntmps15
  cases su <;> cases pv <;> cases en <;> go_wp2 <;> go_ret <;> exact ⟨by first | (simp [b2]; done) | (simp [b2]; decide), HB.out⟩
theorem RStatus_any (s : Sta) (w : World) : Calls Tryd.prog 16 #[.agg (sc s)] w fun e w' => e = .returned (.int .u32 (statusS s)) ∧ Below w.heap.size w w' := by
  have HX := Lib.hid (rs_new w s)
  have q := HX.out.s
  have hst : statusS s = b2 s.su 1 + b2 s.pv 2 + b2 s.en 4 := rfl
  generalize s.su = su at *
  generalize s.pv = pv at *
  generalize s.en = en at *
  rw [hst]
  clear hst
  have HB := Lib.hid (bel1 w (.cells (sc s) 25))
  go_enter Tryd.func16, Tryd.ntmps16
  cases su <;> cases pv <;> cases en <;> go_wp2 <;> go_ret <;> exact ⟨by simp [b2], HB.out⟩
end Go.Proofs.YthjdfneibogcgaaDoor

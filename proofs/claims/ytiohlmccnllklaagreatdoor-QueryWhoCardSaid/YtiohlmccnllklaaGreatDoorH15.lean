/-
  Layer 12: what a flow is; is there one; why it refuses: walks. (written by gen_flw.py)
-/
import Derived.Test.YtiohlmccnllklaaGreatDoorH14
import Derived.BigQuiet
set_option linter.unusedVariables false
set_option linter.unusedSimpArgs false
namespace Go.Proofs.YtiohlmccnllklaaGreatDoor
open Go.RowKit
set_option maxHeartbeats 4000000
set_option maxRecDepth 100000
set_option linter.unusedVariables false
set_option linter.unusedSimpArgs false

/-- A FLOW AT BLOCK S: its table at Tb, its places at P. -/
structure FlIs (w : World) (S Tb P : Nat) (f : T.Fl) (m : Nat) (FT : List Nat) (M D : Nat) (C : Nat → Nat) (FM FD : Nat → Prop) : Prop where
  blk : Blk w S #[.pointer (some ⟨Tb, 0, none⟩), .pointer (some ⟨P, 0, none⟩)] 91
  tab : L2.Tab w Tb f.mo f.ss m FT
  pl : PlIs w P M D C f.fr f.se f.ps FM FD
  sT : S ∉ FT
  sP : ¬ plB P C FM FD S
  tP : ∀ k ∈ FT, ¬ plB P C FM FD k
/-- The blocks that are a flow's own. -/
def flB (S P : Nat) (FT : List Nat) (C : Nat → Nat) (FM FD : Nat → Prop) (k : Nat) : Prop := k = S ∨ k ∈ FT ∨ plB P C FM FD k
section
variable {w w' : World} {S Tb P : Nat} {f : T.Fl} {m : Nat} {FT : List Nat} {M D : Nat} {C : Nat → Nat} {FM FD : Nat → Prop}
theorem FlIs.lt (h : FlIs w S Tb P f m FT M D C FM FD) : ∀ k, flB S P FT C FM FD k → k < w.heap.size := by
  rintro k (rfl | hk | hk)
  · exact h.blk.lt
  · exact h.tab.lt k hk
  · exact h.pl.lt k hk
theorem FlIs.keep (h : FlIs w S Tb P f m FT M D C FM FD) (hk : ∀ k, flB S P FT C FM FD k → w'.heap[k]? = w.heap[k]?) : FlIs w' S Tb P f m FT M D C FM FD :=
  { h with blk := h.blk.keep (hk S (.inl rfl)), tab := tab_keep h.tab fun k hm => hk k (.inr (.inl hm)), pl := h.pl.keep fun k hm => hk k (.inr (.inr hm)) }
theorem FlIs.below (h : FlIs w S Tb P f m FT M D C FM FD) (hb : Below w.heap.size w w') : FlIs w' S Tb P f m FT M D C FM FD := h.keep fun k hk => hb.block k (h.lt k hk)
theorem FlIs.s0 (h : FlIs w S Tb P f m FT M D C FM FD) : w.cell? ⟨S, 0, none⟩ = some (.pointer (some ⟨Tb, 0, none⟩)) := h.blk.cell 0
theorem FlIs.s1 (h : FlIs w S Tb P f m FT M D C FM FD) : w.cell? ⟨S, 1, none⟩ = some (.pointer (some ⟨P, 0, none⟩)) := h.blk.cell 1
end
/-! ### is there one -/
theorem none_nil (w : World) : Calls Tryz.prog 48 #[.pointer none] w fun e w' => e = .returned (.bool true) ∧ w = w' := by
  go_enter Tryz.func48, Tryz.ntmps48
  go_wp2
  go_ret
  exact ⟨rfl, rfl⟩
theorem none_zero (S : Nat) (w : World) (h : w.cell? ⟨S, 0, none⟩ = some (.pointer none)) : Calls Tryz.prog 48 #[.pointer (some ⟨S, 0, none⟩)] w fun e w' => e = .returned (.bool true) ∧ w = w' := by
  go_enter Tryz.func48, Tryz.ntmps48
  go_wp2
  go_ret
  exact ⟨rfl, rfl⟩
theorem none_some (S Tb : Nat) (w : World) (h : w.cell? ⟨S, 0, none⟩ = some (.pointer (some ⟨Tb, 0, none⟩))) : Calls Tryz.prog 48 #[.pointer (some ⟨S, 0, none⟩)] w fun e w' => e = .returned (.bool false) ∧ w = w' := by
  go_enter Tryz.func48, Tryz.ntmps48
  go_wp2
  go_ret
  exact ⟨rfl, rfl⟩
/-- What a region knows that asks a flow for a place in a box. -/
structure FlS (S Tb P B : Nat) (p : T.Pl) (M D : Nat) (C : Nat → Nat) (fr se : Int) (ps : List T.Pr) (FM FD : Nat → Prop) (W : World) : Prop where
  s0 : W.cell? ⟨S, 0, none⟩ = some (.pointer (some ⟨Tb, 0, none⟩))
  s1 : W.cell? ⟨S, 1, none⟩ = some (.pointer (some ⟨P, 0, none⟩))
  b0 : W.cell? ⟨B, 0, none⟩ = some (.int .i64 p.1)
  b1 : W.cell? ⟨B, 1, none⟩ = some (.int .i64 p.2)
  pl : PlIs W P M D C fr se ps FM FD
theorem FlS.stb (S Tb P B : Nat) (p : T.Pl) (M D : Nat) (C : Nat → Nat) (fr se : Int) (ps : List T.Pr) (FM FD : Nat → Prop) : Free.Stb (FlS S Tb P B p M D C fr se ps FM FD) := fun W W' h hb => ⟨cell_below h.s0 hb, cell_below h.s1 hb, cell_below h.b0 hb, cell_below h.b1 hb, h.pl.below hb⟩

/-! ### why a mark is refused -/
def refV (fr se : Int) (p : T.Pl) (n s : Int) : Int := if T.may fr se p = false ∨ 65536 ≤ s then 2 else if n < 0 ∨ 65536 < n ∨ (0 < n ∧ T.may fr se (p.1, p.2 + n - 1) = false) then 4 else 0

theorem refM_place {w : World} {S Tb P : Nat} {f : T.Fl} {m : Nat} {FT : List Nat} {M D : Nat} {C : Nat → Nat} {FM FD : Nat → Prop} (h : FlIs w S Tb P f m FT M D C FM FD) (p : T.Pl) (n s : Int) (hm : T.may f.fr f.se p = false) : Calls Tryz.prog 28 #[.pointer (some ⟨S, 0, none⟩), .agg (pla p), .int .i64 n, .int .u32 s] w fun e w' => e = .returned (.int .i64 2) ∧ Below w.heap.size w w' := by
  have HM := Lib.hid hm
  clear hm
  have hb1 := bel1 w (.cells (pla p) 42)
  have hF := h.below hb1
  have hS : FlS S Tb P w.heap.size p M D C f.fr f.se f.ps FM FD (w.alloc (.cells (pla p) 42)).drew := ⟨hF.s0, hF.s1, (blk_new w _ _).cell 0, (blk_new w _ _).cell 1, hF.pl.below (Below.refl _ _).drew⟩
  have HS := Lib.hid hS
  have HB := Lib.hid hb1
  have HNo := Lib.hid (none_some S Tb _ hF.s0)
  unfold pla at HS HB HNo ⊢
  clear h hb1 hF hS
  go_enter Tryz.func28, Tryz.ntmps28
  go_wp2_with (go_at_call 48; refine HNo.out.mono ?_; rintro e w' ⟨rfl, rfl⟩)
  refine Free.any (FlS S Tb P w.heap.size p M D C f.fr f.se f.ps FM FD) (FlS.stb S Tb P w.heap.size p M D C f.fr f.se f.ps FM FD) HS.out (fun st => ?_)
  refine Free.tk 0 (some 13) ?_
  refine Free.tk 1 (some 14) ?_ (hy := by intro W hW; have s0 := hW.s0; have s1 := hW.s1; have b0 := hW.b0; have b1 := hW.b1; go_simp; try with_reducible rfl)
  refine Free.tk 2 (some 15) ?_
  refine Free.tk 3 (some 16) ?_ (hy := by intro W hW; have s0 := hW.s0; have s1 := hW.s1; have b0 := hW.b0; have b1 := hW.b1; go_simp; try with_reducible rfl)
  refine Free.tk 4 (some 17) ?_ (hy := by intro W hW; have s0 := hW.s0; have s1 := hW.s1; have b0 := hW.b0; have b1 := hW.b1; go_simp; try with_reducible rfl)
  refine Free.cl 5 (some 18) st (fun W hW => (has_any hW.pl p).mono (fun e w2 h2 => ⟨h2.1.trans (by rw [HM.out]), h2.2⟩)) ?_ (hy := by intro W; go_simp; rfl)
  refine Free.tk 6 (some 19) ?_
  refine Free.tk 7 (some 20) ?_
  refine Free.sk 8 (some 21) ?_
  refine Free.sk 9 (some 22) ?_
  refine Free.sk 10 (some 23) ?_
  refine Free.tk 11 (some 24) ?_
  refine Free.tk 12 (some 12) ?_
  refine Free.done (fun W hb hW => ?_)
  go_wp2
  go_ret
  exact ⟨rfl, HB.out.drew.trans (hb.mono (by simp))⟩
theorem refM_set {w : World} {S Tb P : Nat} {f : T.Fl} {m : Nat} {FT : List Nat} {M D : Nat} {C : Nat → Nat} {FM FD : Nat → Prop} (h : FlIs w S Tb P f m FT M D C FM FD) (p : T.Pl) (n s : Int) (hs : W32 s) (hm : T.may f.fr f.se p = true) (hbig : 65536 ≤ s) : Calls Tryz.prog 28 #[.pointer (some ⟨S, 0, none⟩), .agg (pla p), .int .i64 n, .int .u32 s] w fun e w' => e = .returned (.int .i64 2) ∧ Below w.heap.size w w' := by
  have HM := Lib.hid hm
  obtain ⟨s0, s1⟩ := hs
  have hq : s / 65536 ≠ 0 := by omega
  clear hm
  have hb1 := bel1 w (.cells (pla p) 42)
  have hF := h.below hb1
  have hS : FlS S Tb P w.heap.size p M D C f.fr f.se f.ps FM FD (w.alloc (.cells (pla p) 42)).drew := ⟨hF.s0, hF.s1, (blk_new w _ _).cell 0, (blk_new w _ _).cell 1, hF.pl.below (Below.refl _ _).drew⟩
  have HS := Lib.hid hS
  have HB := Lib.hid hb1
  have HNo := Lib.hid (none_some S Tb _ hF.s0)
  unfold pla at HS HB HNo ⊢
  clear h hb1 hF hS
  go_enter Tryz.func28, Tryz.ntmps28
  go_wp2_with (go_at_call 48; refine HNo.out.mono ?_; rintro e w' ⟨rfl, rfl⟩)
  refine Free.any (FlS S Tb P w.heap.size p M D C f.fr f.se f.ps FM FD) (FlS.stb S Tb P w.heap.size p M D C f.fr f.se f.ps FM FD) HS.out (fun st => ?_)
  refine Free.tk 0 (some 13) ?_
  refine Free.tk 1 (some 14) ?_ (hy := by intro W hW; have s0 := hW.s0; have s1 := hW.s1; have b0 := hW.b0; have b1 := hW.b1; go_simp; try with_reducible rfl)
  refine Free.tk 2 (some 15) ?_
  refine Free.tk 3 (some 16) ?_ (hy := by intro W hW; have s0 := hW.s0; have s1 := hW.s1; have b0 := hW.b0; have b1 := hW.b1; go_simp; try with_reducible rfl)
  refine Free.tk 4 (some 17) ?_ (hy := by intro W hW; have s0 := hW.s0; have s1 := hW.s1; have b0 := hW.b0; have b1 := hW.b1; go_simp; try with_reducible rfl)
  refine Free.cl 5 (some 18) st (fun W hW => (has_any hW.pl p).mono (fun e w2 h2 => ⟨h2.1.trans (by rw [HM.out]), h2.2⟩)) ?_ (hy := by intro W; go_simp; rfl)
  refine Free.tk 6 (some 19) ?_
  refine Free.tk 7 (some 20) ?_
  refine Free.tk 8 (some 21) ?_
  refine Free.tk 9 (some 22) ?_
  refine Free.tk 10 (some 23) ?_
  refine Free.tk 11 (some 24) ?_
  refine Free.tk 12 (some 12) ?_
  refine Free.done (fun W hb hW => ?_)
  go_wp2
  go_ret
  exact ⟨rfl, HB.out.drew.trans (hb.mono (by simp))⟩
theorem may_bd {fr se : Int} {p : T.Pl} (h : Bd fr se) (hm : T.may fr se p = true) : 0 ≤ p.2 ∧ p.2 < 2147483648 := by
  obtain ⟨h0, h1⟩ := T.may_iff.1 hm
  have := h.f; have := h.s
  refine ⟨h0, Int.lt_of_lt_of_le h1 ?_⟩
  unfold T.most
  repeat' split
  all_goals omega
theorem refM_neg {w : World} {S Tb P : Nat} {f : T.Fl} {m : Nat} {FT : List Nat} {M D : Nat} {C : Nat → Nat} {FM FD : Nat → Prop} (h : FlIs w S Tb P f m FT M D C FM FD) (p : T.Pl) (n s : Int) (hn : I64 n) (hs : W32 s) (hm : T.may f.fr f.se p = true) (hsm : s < 65536) (hc : n < 0) : Calls Tryz.prog 28 #[.pointer (some ⟨S, 0, none⟩), .agg (pla p), .int .i64 n, .int .u32 s] w fun e w' => e = .returned (.int .i64 4) ∧ Below w.heap.size w w' := by
  have HM := Lib.hid hm
  obtain ⟨s0, s1⟩ := hs
  have hq : s / 65536 = 0 := by omega
  obtain ⟨pb0, pb1⟩ := may_bd h.pl.bd hm
  clear hm
  have hb1 := bel1 w (.cells (pla p) 42)
  have hF := h.below hb1
  have hS : FlS S Tb P w.heap.size p M D C f.fr f.se f.ps FM FD (w.alloc (.cells (pla p) 42)).drew := ⟨hF.s0, hF.s1, (blk_new w _ _).cell 0, (blk_new w _ _).cell 1, hF.pl.below (Below.refl _ _).drew⟩
  have HS := Lib.hid hS
  have HB := Lib.hid hb1
  have HNo := Lib.hid (none_some S Tb _ hF.s0)
  unfold pla at HS HB HNo ⊢
  clear h hb1 hF hS
  go_enter Tryz.func28, Tryz.ntmps28
  go_wp2_with (go_at_call 48; refine HNo.out.mono ?_; rintro e w' ⟨rfl, rfl⟩)
  refine Free.any (FlS S Tb P w.heap.size p M D C f.fr f.se f.ps FM FD) (FlS.stb S Tb P w.heap.size p M D C f.fr f.se f.ps FM FD) HS.out (fun st => ?_)
  refine Free.tk 0 (some 13) ?_
  refine Free.tk 1 (some 14) ?_ (hy := by intro W hW; have s0 := hW.s0; have s1 := hW.s1; have b0 := hW.b0; have b1 := hW.b1; go_simp; try with_reducible rfl)
  refine Free.tk 2 (some 15) ?_
  refine Free.tk 3 (some 16) ?_ (hy := by intro W hW; have s0 := hW.s0; have s1 := hW.s1; have b0 := hW.b0; have b1 := hW.b1; go_simp; try with_reducible rfl)
  refine Free.tk 4 (some 17) ?_ (hy := by intro W hW; have s0 := hW.s0; have s1 := hW.s1; have b0 := hW.b0; have b1 := hW.b1; go_simp; try with_reducible rfl)
  refine Free.cl 5 (some 18) st (fun W hW => (has_any hW.pl p).mono (fun e w2 h2 => ⟨h2.1.trans (by rw [HM.out]), h2.2⟩)) ?_ (hy := by intro W; go_simp; rfl)
  refine Free.tk 6 (some 19) ?_
  refine Free.tk 7 (some 20) ?_
  refine Free.tk 8 (some 21) ?_
  refine Free.tk 9 (some 22) ?_
  refine Free.tk 10 (some 23) ?_
  refine Free.tk 11 (some 24) ?_
  refine Free.tk 12 (some 12) ?_
  refine Free.done (fun W hb hW => ?_)
  have hS2 := FlS.stb S Tb P w.heap.size p M D C f.fr f.se f.ps FM FD _ _ hW (Below.refl _ _).drew
  have HS2 := Lib.hid hS2
  have HB2 := Lib.hid (HB.out.drew.trans (hb.mono (by simp)))
  clear hW hb hS2
  go_wp2
  refine Free.any (FlS S Tb P w.heap.size p M D C f.fr f.se f.ps FM FD) (FlS.stb S Tb P w.heap.size p M D C f.fr f.se f.ps FM FD) HS2.out (fun st => ?_)
  refine Free.tk 0 (some 26) ?_
  refine Free.tk 1 (some 27) (v := .bool true) ?_ (hy := by intro W hW; go_simp; try omega)
  refine Free.tk 2 (some 28) ?_
  refine Free.sk 3 (some 29) ?_
  refine Free.sk 4 (some 30) ?_
  refine Free.tk 5 (some 31) ?_
  refine Free.tk 6 (some 32) ?_
  refine Free.sk 7 (some 33) ?_
  refine Free.sk 8 (some 34) ?_
  refine Free.sk 9 (some 35) ?_
  refine Free.sk 10 (some 36) ?_
  refine Free.sk 11 (some 37) ?_
  refine Free.sk 12 (some 38) ?_
  refine Free.sk 13 (some 39) ?_
  refine Free.sk 14 (some 40) ?_
  refine Free.sk 15 (some 41) ?_
  refine Free.sk 16 (some 42) ?_
  refine Free.sk 17 (some 43) ?_
  refine Free.sk 18 (some 44) ?_
  refine Free.sk 19 (some 45) ?_
  refine Free.sk 20 (some 46) ?_
  refine Free.sk 21 (some 47) ?_
  refine Free.sk 22 (some 48) ?_
  refine Free.sk 23 (some 49) ?_
  refine Free.sk 24 (some 50) ?_
  refine Free.tk 25 (some 51) ?_
  refine Free.tk 26 (some 25) ?_
  refine Free.done (fun W hb hW => ?_)
  go_wp2
  go_ret
  exact ⟨rfl, HB2.out.drew.trans (hb.mono (by have := HB2.out.size; simpa using this))⟩
theorem refM_many {w : World} {S Tb P : Nat} {f : T.Fl} {m : Nat} {FT : List Nat} {M D : Nat} {C : Nat → Nat} {FM FD : Nat → Prop} (h : FlIs w S Tb P f m FT M D C FM FD) (p : T.Pl) (n s : Int) (hn : I64 n) (hs : W32 s) (hm : T.may f.fr f.se p = true) (hsm : s < 65536) (hc : 65536 < n) : Calls Tryz.prog 28 #[.pointer (some ⟨S, 0, none⟩), .agg (pla p), .int .i64 n, .int .u32 s] w fun e w' => e = .returned (.int .i64 4) ∧ Below w.heap.size w w' := by
  have HM := Lib.hid hm
  obtain ⟨s0, s1⟩ := hs
  have hq : s / 65536 = 0 := by omega
  obtain ⟨pb0, pb1⟩ := may_bd h.pl.bd hm
  clear hm
  have hb1 := bel1 w (.cells (pla p) 42)
  have hF := h.below hb1
  have hS : FlS S Tb P w.heap.size p M D C f.fr f.se f.ps FM FD (w.alloc (.cells (pla p) 42)).drew := ⟨hF.s0, hF.s1, (blk_new w _ _).cell 0, (blk_new w _ _).cell 1, hF.pl.below (Below.refl _ _).drew⟩
  have HS := Lib.hid hS
  have HB := Lib.hid hb1
  have HNo := Lib.hid (none_some S Tb _ hF.s0)
  unfold pla at HS HB HNo ⊢
  clear h hb1 hF hS
  go_enter Tryz.func28, Tryz.ntmps28
  go_wp2_with (go_at_call 48; refine HNo.out.mono ?_; rintro e w' ⟨rfl, rfl⟩)
  refine Free.any (FlS S Tb P w.heap.size p M D C f.fr f.se f.ps FM FD) (FlS.stb S Tb P w.heap.size p M D C f.fr f.se f.ps FM FD) HS.out (fun st => ?_)
  refine Free.tk 0 (some 13) ?_
  refine Free.tk 1 (some 14) ?_ (hy := by intro W hW; have s0 := hW.s0; have s1 := hW.s1; have b0 := hW.b0; have b1 := hW.b1; go_simp; try with_reducible rfl)
  refine Free.tk 2 (some 15) ?_
  refine Free.tk 3 (some 16) ?_ (hy := by intro W hW; have s0 := hW.s0; have s1 := hW.s1; have b0 := hW.b0; have b1 := hW.b1; go_simp; try with_reducible rfl)
  refine Free.tk 4 (some 17) ?_ (hy := by intro W hW; have s0 := hW.s0; have s1 := hW.s1; have b0 := hW.b0; have b1 := hW.b1; go_simp; try with_reducible rfl)
  refine Free.cl 5 (some 18) st (fun W hW => (has_any hW.pl p).mono (fun e w2 h2 => ⟨h2.1.trans (by rw [HM.out]), h2.2⟩)) ?_ (hy := by intro W; go_simp; rfl)
  refine Free.tk 6 (some 19) ?_
  refine Free.tk 7 (some 20) ?_
  refine Free.tk 8 (some 21) ?_
  refine Free.tk 9 (some 22) ?_
  refine Free.tk 10 (some 23) ?_
  refine Free.tk 11 (some 24) ?_
  refine Free.tk 12 (some 12) ?_
  refine Free.done (fun W hb hW => ?_)
  have hS2 := FlS.stb S Tb P w.heap.size p M D C f.fr f.se f.ps FM FD _ _ hW (Below.refl _ _).drew
  have HS2 := Lib.hid hS2
  have HB2 := Lib.hid (HB.out.drew.trans (hb.mono (by simp)))
  clear hW hb hS2
  go_wp2
  refine Free.any (FlS S Tb P w.heap.size p M D C f.fr f.se f.ps FM FD) (FlS.stb S Tb P w.heap.size p M D C f.fr f.se f.ps FM FD) HS2.out (fun st => ?_)
  refine Free.tk 0 (some 26) ?_
  refine Free.tk 1 (some 27) (v := .bool false) ?_ (hy := by intro W hW; go_simp; try omega)
  refine Free.tk 2 (some 28) ?_
  refine Free.tk 3 (some 29) ?_
  refine Free.tk 4 (some 30) (v := .bool true) ?_ (hy := by intro W hW; go_simp; try omega)
  refine Free.tk 5 (some 31) ?_
  refine Free.tk 6 (some 32) ?_
  refine Free.sk 7 (some 33) ?_
  refine Free.sk 8 (some 34) ?_
  refine Free.sk 9 (some 35) ?_
  refine Free.sk 10 (some 36) ?_
  refine Free.sk 11 (some 37) ?_
  refine Free.sk 12 (some 38) ?_
  refine Free.sk 13 (some 39) ?_
  refine Free.sk 14 (some 40) ?_
  refine Free.sk 15 (some 41) ?_
  refine Free.sk 16 (some 42) ?_
  refine Free.sk 17 (some 43) ?_
  refine Free.sk 18 (some 44) ?_
  refine Free.sk 19 (some 45) ?_
  refine Free.sk 20 (some 46) ?_
  refine Free.sk 21 (some 47) ?_
  refine Free.sk 22 (some 48) ?_
  refine Free.sk 23 (some 49) ?_
  refine Free.sk 24 (some 50) ?_
  refine Free.tk 25 (some 51) ?_
  refine Free.tk 26 (some 25) ?_
  refine Free.done (fun W hb hW => ?_)
  go_wp2
  go_ret
  exact ⟨rfl, HB2.out.drew.trans (hb.mono (by have := HB2.out.size; simpa using this))⟩
theorem refM_zero {w : World} {S Tb P : Nat} {f : T.Fl} {m : Nat} {FT : List Nat} {M D : Nat} {C : Nat → Nat} {FM FD : Nat → Prop} (h : FlIs w S Tb P f m FT M D C FM FD) (p : T.Pl) (n s : Int) (hn : I64 n) (hs : W32 s) (hm : T.may f.fr f.se p = true) (hsm : s < 65536) (hc : n = 0) : Calls Tryz.prog 28 #[.pointer (some ⟨S, 0, none⟩), .agg (pla p), .int .i64 n, .int .u32 s] w fun e w' => e = .returned (.int .i64 0) ∧ Below w.heap.size w w' := by
  have HM := Lib.hid hm
  obtain ⟨s0, s1⟩ := hs
  have hq : s / 65536 = 0 := by omega
  obtain ⟨pb0, pb1⟩ := may_bd h.pl.bd hm
  clear hm
  have hb1 := bel1 w (.cells (pla p) 42)
  have hF := h.below hb1
  have hS : FlS S Tb P w.heap.size p M D C f.fr f.se f.ps FM FD (w.alloc (.cells (pla p) 42)).drew := ⟨hF.s0, hF.s1, (blk_new w _ _).cell 0, (blk_new w _ _).cell 1, hF.pl.below (Below.refl _ _).drew⟩
  have HS := Lib.hid hS
  have HB := Lib.hid hb1
  have HNo := Lib.hid (none_some S Tb _ hF.s0)
  unfold pla at HS HB HNo ⊢
  clear h hb1 hF hS
  go_enter Tryz.func28, Tryz.ntmps28
  go_wp2_with (go_at_call 48; refine HNo.out.mono ?_; rintro e w' ⟨rfl, rfl⟩)
  refine Free.any (FlS S Tb P w.heap.size p M D C f.fr f.se f.ps FM FD) (FlS.stb S Tb P w.heap.size p M D C f.fr f.se f.ps FM FD) HS.out (fun st => ?_)
  refine Free.tk 0 (some 13) ?_
  refine Free.tk 1 (some 14) ?_ (hy := by intro W hW; have s0 := hW.s0; have s1 := hW.s1; have b0 := hW.b0; have b1 := hW.b1; go_simp; try with_reducible rfl)
  refine Free.tk 2 (some 15) ?_
  refine Free.tk 3 (some 16) ?_ (hy := by intro W hW; have s0 := hW.s0; have s1 := hW.s1; have b0 := hW.b0; have b1 := hW.b1; go_simp; try with_reducible rfl)
  refine Free.tk 4 (some 17) ?_ (hy := by intro W hW; have s0 := hW.s0; have s1 := hW.s1; have b0 := hW.b0; have b1 := hW.b1; go_simp; try with_reducible rfl)
  refine Free.cl 5 (some 18) st (fun W hW => (has_any hW.pl p).mono (fun e w2 h2 => ⟨h2.1.trans (by rw [HM.out]), h2.2⟩)) ?_ (hy := by intro W; go_simp; rfl)
  refine Free.tk 6 (some 19) ?_
  refine Free.tk 7 (some 20) ?_
  refine Free.tk 8 (some 21) ?_
  refine Free.tk 9 (some 22) ?_
  refine Free.tk 10 (some 23) ?_
  refine Free.tk 11 (some 24) ?_
  refine Free.tk 12 (some 12) ?_
  refine Free.done (fun W hb hW => ?_)
  have hS2 := FlS.stb S Tb P w.heap.size p M D C f.fr f.se f.ps FM FD _ _ hW (Below.refl _ _).drew
  have HS2 := Lib.hid hS2
  have HB2 := Lib.hid (HB.out.drew.trans (hb.mono (by simp)))
  clear hW hb hS2
  subst hc
  go_wp2
  refine Free.any (FlS S Tb P w.heap.size p M D C f.fr f.se f.ps FM FD) (FlS.stb S Tb P w.heap.size p M D C f.fr f.se f.ps FM FD) HS2.out (fun st => ?_)
  refine Free.tk 0 (some 26) ?_
  refine Free.tk 1 (some 27) ?_
  refine Free.tk 2 (some 28) ?_
  refine Free.tk 3 (some 29) ?_
  refine Free.tk 4 (some 30) ?_
  refine Free.tk 5 (some 31) ?_
  refine Free.tk 6 (some 32) ?_
  refine Free.tk 7 (some 33) ?_
  refine Free.tk 8 (some 34) ?_
  refine Free.tk 9 (some 35) ?_
  refine Free.sk 10 (some 36) ?_
  refine Free.sk 11 (some 37) ?_
  refine Free.sk 12 (some 38) ?_
  refine Free.sk 13 (some 39) ?_
  refine Free.sk 14 (some 40) ?_
  refine Free.sk 15 (some 41) ?_
  refine Free.sk 16 (some 42) ?_
  refine Free.sk 17 (some 43) ?_
  refine Free.sk 18 (some 44) ?_
  refine Free.sk 19 (some 45) ?_
  refine Free.sk 20 (some 46) ?_
  refine Free.sk 21 (some 47) ?_
  refine Free.sk 22 (some 48) ?_
  refine Free.sk 23 (some 49) ?_
  refine Free.tk 24 (some 50) ?_
  refine Free.tk 25 (some 51) ?_
  refine Free.tk 26 (some 25) ?_
  refine Free.done (fun W hb hW => ?_)
  go_wp2
  go_ret
  exact ⟨rfl, HB2.out.drew.trans (hb.mono (by have := HB2.out.size; simpa using this))⟩
theorem refM_beyond {w : World} {S Tb P : Nat} {f : T.Fl} {m : Nat} {FT : List Nat} {M D : Nat} {C : Nat → Nat} {FM FD : Nat → Prop} (h : FlIs w S Tb P f m FT M D C FM FD) (p : T.Pl) (n s : Int) (hs : W32 s) (hm : T.may f.fr f.se p = true) (hsm : s < 65536) (hn0 : 0 < n) (hn1 : n ≤ 65536) (hl : T.may f.fr f.se (p.1, p.2 + n - 1) = false) : Calls Tryz.prog 28 #[.pointer (some ⟨S, 0, none⟩), .agg (pla p), .int .i64 n, .int .u32 s] w fun e w' => e = .returned (.int .i64 4) ∧ Below w.heap.size w w' := by
  have HL := Lib.hid hl
  clear hl
  have HM := Lib.hid hm
  obtain ⟨s0, s1⟩ := hs
  have hq : s / 65536 = 0 := by omega
  obtain ⟨pb0, pb1⟩ := may_bd h.pl.bd hm
  clear hm
  have hb1 := bel1 w (.cells (pla p) 42)
  have hF := h.below hb1
  have hS : FlS S Tb P w.heap.size p M D C f.fr f.se f.ps FM FD (w.alloc (.cells (pla p) 42)).drew := ⟨hF.s0, hF.s1, (blk_new w _ _).cell 0, (blk_new w _ _).cell 1, hF.pl.below (Below.refl _ _).drew⟩
  have HS := Lib.hid hS
  have HB := Lib.hid hb1
  have HNo := Lib.hid (none_some S Tb _ hF.s0)
  unfold pla at HS HB HNo ⊢
  clear h hb1 hF hS
  go_enter Tryz.func28, Tryz.ntmps28
  go_wp2_with (go_at_call 48; refine HNo.out.mono ?_; rintro e w' ⟨rfl, rfl⟩)
  refine Free.any (FlS S Tb P w.heap.size p M D C f.fr f.se f.ps FM FD) (FlS.stb S Tb P w.heap.size p M D C f.fr f.se f.ps FM FD) HS.out (fun st => ?_)
  refine Free.tk 0 (some 13) ?_
  refine Free.tk 1 (some 14) ?_ (hy := by intro W hW; have s0 := hW.s0; have s1 := hW.s1; have b0 := hW.b0; have b1 := hW.b1; go_simp; try with_reducible rfl)
  refine Free.tk 2 (some 15) ?_
  refine Free.tk 3 (some 16) ?_ (hy := by intro W hW; have s0 := hW.s0; have s1 := hW.s1; have b0 := hW.b0; have b1 := hW.b1; go_simp; try with_reducible rfl)
  refine Free.tk 4 (some 17) ?_ (hy := by intro W hW; have s0 := hW.s0; have s1 := hW.s1; have b0 := hW.b0; have b1 := hW.b1; go_simp; try with_reducible rfl)
  refine Free.cl 5 (some 18) st (fun W hW => (has_any hW.pl p).mono (fun e w2 h2 => ⟨h2.1.trans (by rw [HM.out]), h2.2⟩)) ?_ (hy := by intro W; go_simp; rfl)
  refine Free.tk 6 (some 19) ?_
  refine Free.tk 7 (some 20) ?_
  refine Free.tk 8 (some 21) ?_
  refine Free.tk 9 (some 22) ?_
  refine Free.tk 10 (some 23) ?_
  refine Free.tk 11 (some 24) ?_
  refine Free.tk 12 (some 12) ?_
  refine Free.done (fun W hb hW => ?_)
  have hS2 := FlS.stb S Tb P w.heap.size p M D C f.fr f.se f.ps FM FD _ _ hW (Below.refl _ _).drew
  have HS2 := Lib.hid hS2
  have HB2 := Lib.hid (HB.out.drew.trans (hb.mono (by simp)))
  clear hW hb hS2
  go_wp2
  refine Free.any (FlS S Tb P w.heap.size p M D C f.fr f.se f.ps FM FD) (FlS.stb S Tb P w.heap.size p M D C f.fr f.se f.ps FM FD) HS2.out (fun st => ?_)
  refine Free.tk 0 (some 26) ?_
  refine Free.tk 1 (some 27) (v := .bool false) ?_ (hy := by intro W hW; go_simp; try omega)
  refine Free.tk 2 (some 28) ?_
  refine Free.tk 3 (some 29) ?_
  refine Free.tk 4 (some 30) (v := .bool false) ?_ (hy := by intro W hW; go_simp; try omega)
  refine Free.tk 5 (some 31) ?_
  refine Free.tk 6 (some 32) ?_
  refine Free.tk 7 (some 33) ?_
  refine Free.tk 8 (some 34) (v := .bool true) ?_ (hy := by intro W hW; go_simp; try omega)
  refine Free.tk 9 (some 35) ?_
  refine Free.tk 10 (some 36) ?_
  refine Free.tk 11 (some 37) ?_ (hy := by intro W hW; have s0 := hW.s0; have s1 := hW.s1; have b0 := hW.b0; have b1 := hW.b1; go_simp; try with_reducible rfl)
  refine Free.tk 12 (some 38) ?_
  refine Free.tk 13 (some 39) ?_ (hy := by intro W hW; have s0 := hW.s0; have s1 := hW.s1; have b0 := hW.b0; have b1 := hW.b1; go_simp; try with_reducible rfl)
  refine Free.tk 14 (some 40) ?_
  refine Free.tk 15 (some 41) ?_ (hy := by intro W hW; have s0 := hW.s0; have s1 := hW.s1; have b0 := hW.b0; have b1 := hW.b1; go_simp; try with_reducible rfl)
  refine Free.tk 16 (some 42) ?_
  refine Free.tk 17 (some 43) ?_ (hy := by intro W hW; have s0 := hW.s0; have s1 := hW.s1; have b0 := hW.b0; have b1 := hW.b1; go_simp; try with_reducible rfl)
  refine Free.tk 18 (some 44) ?_
  refine Free.tk 19 (some 45) (v := .int .i64 (p.2 + n)) ?_ (hy := by intro W hW; go_simp; rw [IntKind.wrap_i64]; omega)
  refine Free.tk 20 (some 46) (v := .int .i64 (p.2 + n - 1)) ?_ (hy := by intro W hW; go_simp; rw [IntKind.wrap_i64]; omega)
  refine Free.tk 21 (some 47) ?_
  refine Free.cl 22 (some 48) st (fun W hW => (has_any hW.pl (p.1, p.2 + n - 1)).mono (fun e w2 h2 => ⟨h2.1.trans (by rw [HL.out]), h2.2⟩)) ?_ (hy := by intro W; go_simp; rfl)
  refine Free.tk 23 (some 49) ?_
  refine Free.tk 24 (some 50) ?_
  refine Free.tk 25 (some 51) ?_
  refine Free.tk 26 (some 25) ?_
  refine Free.done (fun W hb hW => ?_)
  go_wp2
  go_ret
  exact ⟨rfl, HB2.out.drew.trans (hb.mono (by have := HB2.out.size; simpa using this))⟩
theorem refM_ok {w : World} {S Tb P : Nat} {f : T.Fl} {m : Nat} {FT : List Nat} {M D : Nat} {C : Nat → Nat} {FM FD : Nat → Prop} (h : FlIs w S Tb P f m FT M D C FM FD) (p : T.Pl) (n s : Int) (hs : W32 s) (hm : T.may f.fr f.se p = true) (hsm : s < 65536) (hn0 : 0 < n) (hn1 : n ≤ 65536) (hl : T.may f.fr f.se (p.1, p.2 + n - 1) = true) : Calls Tryz.prog 28 #[.pointer (some ⟨S, 0, none⟩), .agg (pla p), .int .i64 n, .int .u32 s] w fun e w' => e = .returned (.int .i64 0) ∧ Below w.heap.size w w' := by
  have HL := Lib.hid hl
  clear hl
  have HM := Lib.hid hm
  obtain ⟨s0, s1⟩ := hs
  have hq : s / 65536 = 0 := by omega
  obtain ⟨pb0, pb1⟩ := may_bd h.pl.bd hm
  clear hm
  have hb1 := bel1 w (.cells (pla p) 42)
  have hF := h.below hb1
  have hS : FlS S Tb P w.heap.size p M D C f.fr f.se f.ps FM FD (w.alloc (.cells (pla p) 42)).drew := ⟨hF.s0, hF.s1, (blk_new w _ _).cell 0, (blk_new w _ _).cell 1, hF.pl.below (Below.refl _ _).drew⟩
  have HS := Lib.hid hS
  have HB := Lib.hid hb1
  have HNo := Lib.hid (none_some S Tb _ hF.s0)
  unfold pla at HS HB HNo ⊢
  clear h hb1 hF hS
  go_enter Tryz.func28, Tryz.ntmps28
  go_wp2_with (go_at_call 48; refine HNo.out.mono ?_; rintro e w' ⟨rfl, rfl⟩)
  refine Free.any (FlS S Tb P w.heap.size p M D C f.fr f.se f.ps FM FD) (FlS.stb S Tb P w.heap.size p M D C f.fr f.se f.ps FM FD) HS.out (fun st => ?_)
  refine Free.tk 0 (some 13) ?_
  refine Free.tk 1 (some 14) ?_ (hy := by intro W hW; have s0 := hW.s0; have s1 := hW.s1; have b0 := hW.b0; have b1 := hW.b1; go_simp; try with_reducible rfl)
  refine Free.tk 2 (some 15) ?_
  refine Free.tk 3 (some 16) ?_ (hy := by intro W hW; have s0 := hW.s0; have s1 := hW.s1; have b0 := hW.b0; have b1 := hW.b1; go_simp; try with_reducible rfl)
  refine Free.tk 4 (some 17) ?_ (hy := by intro W hW; have s0 := hW.s0; have s1 := hW.s1; have b0 := hW.b0; have b1 := hW.b1; go_simp; try with_reducible rfl)
  refine Free.cl 5 (some 18) st (fun W hW => (has_any hW.pl p).mono (fun e w2 h2 => ⟨h2.1.trans (by rw [HM.out]), h2.2⟩)) ?_ (hy := by intro W; go_simp; rfl)
  refine Free.tk 6 (some 19) ?_
  refine Free.tk 7 (some 20) ?_
  refine Free.tk 8 (some 21) ?_
  refine Free.tk 9 (some 22) ?_
  refine Free.tk 10 (some 23) ?_
  refine Free.tk 11 (some 24) ?_
  refine Free.tk 12 (some 12) ?_
  refine Free.done (fun W hb hW => ?_)
  have hS2 := FlS.stb S Tb P w.heap.size p M D C f.fr f.se f.ps FM FD _ _ hW (Below.refl _ _).drew
  have HS2 := Lib.hid hS2
  have HB2 := Lib.hid (HB.out.drew.trans (hb.mono (by simp)))
  clear hW hb hS2
  go_wp2
  refine Free.any (FlS S Tb P w.heap.size p M D C f.fr f.se f.ps FM FD) (FlS.stb S Tb P w.heap.size p M D C f.fr f.se f.ps FM FD) HS2.out (fun st => ?_)
  refine Free.tk 0 (some 26) ?_
  refine Free.tk 1 (some 27) (v := .bool false) ?_ (hy := by intro W hW; go_simp; try omega)
  refine Free.tk 2 (some 28) ?_
  refine Free.tk 3 (some 29) ?_
  refine Free.tk 4 (some 30) (v := .bool false) ?_ (hy := by intro W hW; go_simp; try omega)
  refine Free.tk 5 (some 31) ?_
  refine Free.tk 6 (some 32) ?_
  refine Free.tk 7 (some 33) ?_
  refine Free.tk 8 (some 34) (v := .bool true) ?_ (hy := by intro W hW; go_simp; try omega)
  refine Free.tk 9 (some 35) ?_
  refine Free.tk 10 (some 36) ?_
  refine Free.tk 11 (some 37) ?_ (hy := by intro W hW; have s0 := hW.s0; have s1 := hW.s1; have b0 := hW.b0; have b1 := hW.b1; go_simp; try with_reducible rfl)
  refine Free.tk 12 (some 38) ?_
  refine Free.tk 13 (some 39) ?_ (hy := by intro W hW; have s0 := hW.s0; have s1 := hW.s1; have b0 := hW.b0; have b1 := hW.b1; go_simp; try with_reducible rfl)
  refine Free.tk 14 (some 40) ?_
  refine Free.tk 15 (some 41) ?_ (hy := by intro W hW; have s0 := hW.s0; have s1 := hW.s1; have b0 := hW.b0; have b1 := hW.b1; go_simp; try with_reducible rfl)
  refine Free.tk 16 (some 42) ?_
  refine Free.tk 17 (some 43) ?_ (hy := by intro W hW; have s0 := hW.s0; have s1 := hW.s1; have b0 := hW.b0; have b1 := hW.b1; go_simp; try with_reducible rfl)
  refine Free.tk 18 (some 44) ?_
  refine Free.tk 19 (some 45) (v := .int .i64 (p.2 + n)) ?_ (hy := by intro W hW; go_simp; rw [IntKind.wrap_i64]; omega)
  refine Free.tk 20 (some 46) (v := .int .i64 (p.2 + n - 1)) ?_ (hy := by intro W hW; go_simp; rw [IntKind.wrap_i64]; omega)
  refine Free.tk 21 (some 47) ?_
  refine Free.cl 22 (some 48) st (fun W hW => (has_any hW.pl (p.1, p.2 + n - 1)).mono (fun e w2 h2 => ⟨h2.1.trans (by rw [HL.out]), h2.2⟩)) ?_ (hy := by intro W; go_simp; rfl)
  refine Free.tk 23 (some 49) ?_
  refine Free.tk 24 (some 50) ?_
  refine Free.tk 25 (some 51) ?_
  refine Free.tk 26 (some 25) ?_
  refine Free.done (fun W hb hW => ?_)
  go_wp2
  go_ret
  exact ⟨rfl, HB2.out.drew.trans (hb.mono (by have := HB2.out.size; simpa using this))⟩
theorem refM_any {w : World} {S Tb P : Nat} {f : T.Fl} {m : Nat} {FT : List Nat} {M D : Nat} {C : Nat → Nat} {FM FD : Nat → Prop} (h : FlIs w S Tb P f m FT M D C FM FD) (p : T.Pl) (n s : Int) (hn : I64 n) (hs : W32 s) : Calls Tryz.prog 28 #[.pointer (some ⟨S, 0, none⟩), .agg (pla p), .int .i64 n, .int .u32 s] w fun e w' => e = .returned (.int .i64 (refV f.fr f.se p n s)) ∧ Below w.heap.size w w' := by
  unfold refV
  cases hm : T.may f.fr f.se p with
  | false => rw [if_pos (.inl rfl)]; exact refM_place h p n s hm
  | true =>
    by_cases hb : 65536 ≤ s
    · rw [if_pos (.inr hb)]; exact refM_set h p n s hs hm hb
    · rw [if_neg (by simp; omega)]
      by_cases h0 : n < 0
      · rw [if_pos (.inl h0)]; exact refM_neg h p n s hn hs hm (by omega) h0
      · by_cases h1 : 65536 < n
        · rw [if_pos (.inr (.inl h1))]; exact refM_many h p n s hn hs hm (by omega) h1
        · by_cases h2 : n = 0
          · rw [if_neg (by omega)]; exact refM_zero h p n s hn hs hm (by omega) h2
          · cases hl : T.may f.fr f.se (p.1, p.2 + n - 1) with
            | false => rw [if_pos (.inr (.inr ⟨by omega, rfl⟩))]; exact refM_beyond h p n s hs hm (by omega) (by omega) (by omega) hl
            | true => rw [if_neg (by rintro (e | e | ⟨_, e⟩); exact h0 e; exact h1 e; cases e)]; exact refM_ok h p n s hs hm (by omega) (by omega) (by omega) hl
end Go.Proofs.YtiohlmccnllklaaGreatDoor

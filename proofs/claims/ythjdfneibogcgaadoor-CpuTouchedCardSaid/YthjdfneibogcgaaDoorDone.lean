/-
  Layer 10: done of a step, Done of package cpu: walks. Written by gen_done.py.
-/
import Derived.Test.YthjdfneibogcgaaDoorMade
import Derived.Test.YthjdfneibogcgaaDoorMade2
import Derived.Test.YthjdfneibogcgaaDoorStep3
import Derived.Test.YthjdfneibogcgaaDoorStep6
import Derived.Test.YthjdfneibogcgaaDoorAt
namespace Go.Proofs.YthjdfneibogcgaaDoor
open Go.RowKit
set_option maxHeartbeats 8000000
set_option linter.unusedVariables false
set_option linter.unusedSimpArgs false

theorem S3.setU {w W : World} {s : Sta} {i : Ins} {c1 c2 c : Array Value} (h : S3 w s i c1 c2 W) (hc : Ok1 16 c) : S3 w s i c1 c (W.setRow (w.heap.size + 1 + 1) c) :=
  ⟨h.r.setOther (by omega) c, h.t.setOther (by omega) c, h.u.set hc, below_setRow h.b (by omega) c⟩
theorem done_27 (s : Sta) (hs : s.Ok) (A B : Nat) (m told : Int) (hA : A < 8) (hB : B < 8) (w : World) : Calls Tryd.prog 27 #[.agg (xc s ⟨27, A, B, m⟩), .int .u32 told] w fun e w' => e = .returned (.agg (sc { setS s m (s.r A) with pc := toS s ⟨27, A, B, m⟩ })) ∧ Below w.heap.size w w' := by
  have HA := Lib.hid ((rx_new w s ⟨27, A, B, m⟩).alloc (.cells #[Value.int .u32 0, Value.int .u32 0, Value.int .u32 0, Value.int .u32 0, Value.int .u32 0, Value.int .u32 0, Value.int .u32 0, Value.int .u32 0, Value.int .u32 0, Value.int .u32 0, Value.int .u32 0, Value.int .u32 0, Value.int .u32 0, Value.bool false, Value.bool false, Value.bool false] 25)).x0
  have HA2 := Lib.hid (((rx_new w s ⟨27, A, B, m⟩).alloc (.cells #[Value.int .u32 0, Value.int .u32 0, Value.int .u32 0, Value.int .u32 0, Value.int .u32 0, Value.int .u32 0, Value.int .u32 0, Value.int .u32 0, Value.int .u32 0, Value.int .u32 0, Value.int .u32 0, Value.int .u32 0, Value.int .u32 0, Value.bool false, Value.bool false, Value.bool false] 25)).alloc (.cells #[Value.int .u32 0, Value.int .u32 0, Value.int .u32 0, Value.int .u32 0, Value.int .u32 0, Value.int .u32 0, Value.int .u32 0, Value.int .u32 0, Value.int .u32 0, Value.int .u32 0, Value.int .u32 0, Value.int .u32 0, Value.int .u32 0, Value.bool false, Value.bool false, Value.bool false] 25)).x0
  have HZ := Lib.hid (rs_newZ ((w.alloc (.cells (xc s ⟨27, A, B, m⟩) 58)).alloc (.cells #[Value.int .u32 0, Value.int .u32 0, Value.int .u32 0, Value.int .u32 0, Value.int .u32 0, Value.int .u32 0, Value.int .u32 0, Value.int .u32 0, Value.int .u32 0, Value.int .u32 0, Value.int .u32 0, Value.int .u32 0, Value.int .u32 0, Value.bool false, Value.bool false, Value.bool false] 25)) (w.heap.size + 1 + 1) (by simp))
  obtain ⟨W, HW⟩ : ∃ W, Hid (W = (((w.alloc (.cells (xc s ⟨27, A, B, m⟩) 58)).alloc (.cells #[Value.int .u32 0, Value.int .u32 0, Value.int .u32 0, Value.int .u32 0, Value.int .u32 0, Value.int .u32 0, Value.int .u32 0, Value.int .u32 0, Value.int .u32 0, Value.int .u32 0, Value.int .u32 0, Value.int .u32 0, Value.int .u32 0, Value.bool false, Value.bool false, Value.bool false] 25)).alloc (.cells #[Value.int .u32 0, Value.int .u32 0, Value.int .u32 0, Value.int .u32 0, Value.int .u32 0, Value.int .u32 0, Value.int .u32 0, Value.int .u32 0, Value.int .u32 0, Value.int .u32 0, Value.int .u32 0, Value.int .u32 0, Value.int .u32 0, Value.bool false, Value.bool false, Value.bool false] 25)).setRow (w.heap.size + 1 + 1) (sc s)) := ⟨_, rfl⟩
  have hS := S3.new w s ⟨27, A, B, m⟩
  rw [← HW.out] at hS
  have q := hS.r.x
  have HS := Lib.hid hS
  clear hS
  go_enter Tryd.func27, Tryd.ntmps27
  go_wp2_with (first | (rw [← HW.out]) | ((with_reducible apply wp_load_M rowS); (exact HA.out); (rfl)) | ((with_reducible apply wp_store_R (sc s) rowS); (exact ⟨HZ.out, sc_ok _⟩); (rfl); (rfl)) | ((with_reducible apply wp_load_R rowX); (exact HS.out.r); (rfl)))
  refine (set_any s hs A B m hA _).mono ?_
  rintro e w1 ⟨rfl, b1⟩
  have HT0 := Lib.hid (HS.out.after b1)
  have HT := Lib.hid (HT0.out.setU (sc_ok (setS s m (s.r A))))
  clear b1 q
  go_wp2_with (first | ((with_reducible apply wp_store_R (sc (setS s m (s.r A))) rowS); (exact ⟨HT0.out.u, sc_ok _⟩); (rfl); (rfl)) | ((with_reducible apply wp_load_R rowX); (exact HT.out.r); (rfl)))
  refine (to_any s hs 27 A B m hA hB _).mono ?_
  rintro e w2 ⟨rfl, b2⟩
  have hT2 := HT.out.after b2
  have hf := hT2.u.blk.frozen
  have hc8 := (hT2.u.cell 8).trans (show (sc (setS s m (s.r A)))[8]? = some (.int .u32 (setS s m (s.r A)).pc) from rfl)
  have HU := Lib.hid (hT2.setu (v := .int .u32 (toS s ⟨27, A, B, m⟩)) rfl 8)
  rw [show (sc (setS s m (s.r A))).setIfInBounds 8 (.int .u32 (toS s ⟨27, A, B, m⟩)) = sc { (setS s m (s.r A)) with pc := toS s ⟨27, A, B, m⟩ } from rfl] at HU
  have HF := Lib.hid (HU.out.sett (sc_ok { (setS s m (s.r A)) with pc := toS s ⟨27, A, B, m⟩ }))
  clear b2 hT2
  go_wp2_with (first | ((with_reducible apply wp_load_R rowS); (exact HU.out.u); (rfl)) | ((with_reducible apply wp_store_R (sc { (setS s m (s.r A)) with pc := toS s ⟨27, A, B, m⟩ }) rowS); (exact ⟨HU.out.t, sc_ok _⟩); (rfl); (rfl)))
  exact bodyPost_ret (res_R rowS (fn := Tryd.f27) rfl _ HF.out.t rfl) rfl ⟨rfl, HF.out.b⟩
theorem done_25 (s : Sta) (hs : s.Ok) (A B : Nat) (m told : Int) (hA : A < 8) (hB : B < 8) (w : World) : Calls Tryd.prog 27 #[.agg (xc s ⟨25, A, B, m⟩), .int .u32 told] w fun e w' => e = .returned (.agg (sc { { s with su := s.pv, en := true } with pc := toS s ⟨25, A, B, m⟩ })) ∧ Below w.heap.size w w' := by
  have HA := Lib.hid ((rx_new w s ⟨25, A, B, m⟩).alloc (.cells #[Value.int .u32 0, Value.int .u32 0, Value.int .u32 0, Value.int .u32 0, Value.int .u32 0, Value.int .u32 0, Value.int .u32 0, Value.int .u32 0, Value.int .u32 0, Value.int .u32 0, Value.int .u32 0, Value.int .u32 0, Value.int .u32 0, Value.bool false, Value.bool false, Value.bool false] 25)).x0
  have HA2 := Lib.hid (((rx_new w s ⟨25, A, B, m⟩).alloc (.cells #[Value.int .u32 0, Value.int .u32 0, Value.int .u32 0, Value.int .u32 0, Value.int .u32 0, Value.int .u32 0, Value.int .u32 0, Value.int .u32 0, Value.int .u32 0, Value.int .u32 0, Value.int .u32 0, Value.int .u32 0, Value.int .u32 0, Value.bool false, Value.bool false, Value.bool false] 25)).alloc (.cells #[Value.int .u32 0, Value.int .u32 0, Value.int .u32 0, Value.int .u32 0, Value.int .u32 0, Value.int .u32 0, Value.int .u32 0, Value.int .u32 0, Value.int .u32 0, Value.int .u32 0, Value.int .u32 0, Value.int .u32 0, Value.int .u32 0, Value.bool false, Value.bool false, Value.bool false] 25)).x0
  have HZ := Lib.hid (rs_newZ ((w.alloc (.cells (xc s ⟨25, A, B, m⟩) 58)).alloc (.cells #[Value.int .u32 0, Value.int .u32 0, Value.int .u32 0, Value.int .u32 0, Value.int .u32 0, Value.int .u32 0, Value.int .u32 0, Value.int .u32 0, Value.int .u32 0, Value.int .u32 0, Value.int .u32 0, Value.int .u32 0, Value.int .u32 0, Value.bool false, Value.bool false, Value.bool false] 25)) (w.heap.size + 1 + 1) (by simp))
  obtain ⟨W, HW⟩ : ∃ W, Hid (W = (((w.alloc (.cells (xc s ⟨25, A, B, m⟩) 58)).alloc (.cells #[Value.int .u32 0, Value.int .u32 0, Value.int .u32 0, Value.int .u32 0, Value.int .u32 0, Value.int .u32 0, Value.int .u32 0, Value.int .u32 0, Value.int .u32 0, Value.int .u32 0, Value.int .u32 0, Value.int .u32 0, Value.int .u32 0, Value.bool false, Value.bool false, Value.bool false] 25)).alloc (.cells #[Value.int .u32 0, Value.int .u32 0, Value.int .u32 0, Value.int .u32 0, Value.int .u32 0, Value.int .u32 0, Value.int .u32 0, Value.int .u32 0, Value.int .u32 0, Value.int .u32 0, Value.int .u32 0, Value.int .u32 0, Value.int .u32 0, Value.bool false, Value.bool false, Value.bool false] 25)).setRow (w.heap.size + 1 + 1) (sc s)) := ⟨_, rfl⟩
  have hS := S3.new w s ⟨25, A, B, m⟩
  rw [← HW.out] at hS
  have q := hS.r.x
  have HS := Lib.hid hS
  clear hS
  go_enter Tryd.func27, Tryd.ntmps27
  have hf := HS.out.u.blk.frozen
  have h13 := (HS.out.u.cell 13).trans (show (sc s)[13]? = some (.bool s.su) from rfl)
  have h15 := (HS.out.u.cell 15).trans (show (sc s)[15]? = some (.bool s.en) from rfl)
  have HT := Lib.hid ((HS.out.setu (v := .bool s.pv) rfl 13).setu (v := .bool true) rfl 15)
  rw [show ((sc s).setIfInBounds 13 (.bool s.pv)).setIfInBounds 15 (.bool true) = sc { s with su := s.pv, en := true } from rfl] at HT
  go_wp2_with (first | (rw [← HW.out]) | ((with_reducible apply wp_load_M rowS); (exact HA.out); (rfl)) | ((with_reducible apply wp_store_R (sc s) rowS); (exact ⟨HZ.out, sc_ok _⟩); (rfl); (rfl)) | ((with_reducible apply wp_load_R rowX); (exact HT.out.r); (rfl)))
  refine (to_any s hs 25 A B m hA hB _).mono ?_
  rintro e w2 ⟨rfl, b2⟩
  have hT2 := HT.out.after b2
  have hf := hT2.u.blk.frozen
  have hc8 := (hT2.u.cell 8).trans (show (sc { s with su := s.pv, en := true })[8]? = some (.int .u32 { s with su := s.pv, en := true }.pc) from rfl)
  have HU := Lib.hid (hT2.setu (v := .int .u32 (toS s ⟨25, A, B, m⟩)) rfl 8)
  rw [show (sc { s with su := s.pv, en := true }).setIfInBounds 8 (.int .u32 (toS s ⟨25, A, B, m⟩)) = sc { { s with su := s.pv, en := true } with pc := toS s ⟨25, A, B, m⟩ } from rfl] at HU
  have HF := Lib.hid (HU.out.sett (sc_ok { { s with su := s.pv, en := true } with pc := toS s ⟨25, A, B, m⟩ }))
  clear b2 hT2 q h13 h15
  go_wp2_with (first | ((with_reducible apply wp_load_R rowS); (exact HU.out.u); (rfl)) | ((with_reducible apply wp_store_R (sc { { s with su := s.pv, en := true } with pc := toS s ⟨25, A, B, m⟩ }) rowS); (exact ⟨HU.out.t, sc_ok _⟩); (rfl); (rfl)))
  exact bodyPost_ret (res_R rowS (fn := Tryd.f27) rfl _ HF.out.t rfl) rfl ⟨rfl, HF.out.b⟩
theorem done_made (s : Sta) (hs : s.Ok) (op : Int) (h27 : op ≠ 27) (h25 : op ≠ 25) (v : Int) (A B : Nat) (m told : Int) (hA : A < 8) (hB : B < 8) (HM : Hid (∀ W, Calls Tryd.prog 51 #[.agg (xc s ⟨op, A, B, m⟩), .int .u32 told] W fun e w' => e = .returned (.tuple #[.int .u32 v, .bool true]) ∧ Below W.heap.size W w')) (w : World) : Calls Tryd.prog 27 #[.agg (xc s ⟨op, A, B, m⟩), .int .u32 told] w fun e w' => e = .returned (.agg (sc { (upd s A v) with pc := toS s ⟨op, A, B, m⟩ })) ∧ Below w.heap.size w w' := by
  have HA := Lib.hid ((rx_new w s ⟨op, A, B, m⟩).alloc (.cells #[Value.int .u32 0, Value.int .u32 0, Value.int .u32 0, Value.int .u32 0, Value.int .u32 0, Value.int .u32 0, Value.int .u32 0, Value.int .u32 0, Value.int .u32 0, Value.int .u32 0, Value.int .u32 0, Value.int .u32 0, Value.int .u32 0, Value.bool false, Value.bool false, Value.bool false] 25)).x0
  have HA2 := Lib.hid (((rx_new w s ⟨op, A, B, m⟩).alloc (.cells #[Value.int .u32 0, Value.int .u32 0, Value.int .u32 0, Value.int .u32 0, Value.int .u32 0, Value.int .u32 0, Value.int .u32 0, Value.int .u32 0, Value.int .u32 0, Value.int .u32 0, Value.int .u32 0, Value.int .u32 0, Value.int .u32 0, Value.bool false, Value.bool false, Value.bool false] 25)).alloc (.cells #[Value.int .u32 0, Value.int .u32 0, Value.int .u32 0, Value.int .u32 0, Value.int .u32 0, Value.int .u32 0, Value.int .u32 0, Value.int .u32 0, Value.int .u32 0, Value.int .u32 0, Value.int .u32 0, Value.int .u32 0, Value.int .u32 0, Value.bool false, Value.bool false, Value.bool false] 25)).x0
  have HZ := Lib.hid (rs_newZ ((w.alloc (.cells (xc s ⟨op, A, B, m⟩) 58)).alloc (.cells #[Value.int .u32 0, Value.int .u32 0, Value.int .u32 0, Value.int .u32 0, Value.int .u32 0, Value.int .u32 0, Value.int .u32 0, Value.int .u32 0, Value.int .u32 0, Value.int .u32 0, Value.int .u32 0, Value.int .u32 0, Value.int .u32 0, Value.bool false, Value.bool false, Value.bool false] 25)) (w.heap.size + 1 + 1) (by simp))
  obtain ⟨W, HW⟩ : ∃ W, Hid (W = (((w.alloc (.cells (xc s ⟨op, A, B, m⟩) 58)).alloc (.cells #[Value.int .u32 0, Value.int .u32 0, Value.int .u32 0, Value.int .u32 0, Value.int .u32 0, Value.int .u32 0, Value.int .u32 0, Value.int .u32 0, Value.int .u32 0, Value.int .u32 0, Value.int .u32 0, Value.int .u32 0, Value.int .u32 0, Value.bool false, Value.bool false, Value.bool false] 25)).alloc (.cells #[Value.int .u32 0, Value.int .u32 0, Value.int .u32 0, Value.int .u32 0, Value.int .u32 0, Value.int .u32 0, Value.int .u32 0, Value.int .u32 0, Value.int .u32 0, Value.int .u32 0, Value.int .u32 0, Value.int .u32 0, Value.int .u32 0, Value.bool false, Value.bool false, Value.bool false] 25)).setRow (w.heap.size + 1 + 1) (sc s)) := ⟨_, rfl⟩
  have hS := S3.new w s ⟨op, A, B, m⟩
  rw [← HW.out] at hS
  have q := hS.r.x
  have HS := Lib.hid hS
  clear hS
  go_enter Tryd.func27, Tryd.ntmps27
  go_wp2_with (first | (rw [← HW.out]) | ((with_reducible apply wp_load_M rowS); (exact HA.out); (rfl)) | ((with_reducible apply wp_store_R (sc s) rowS); (exact ⟨HZ.out, sc_ok _⟩); (rfl); (rfl)) | ((with_reducible apply wp_load_R rowX); (exact HS.out.r); (rfl)))
  refine (HM.out _).mono ?_
  rintro e w1 ⟨rfl, b1⟩
  have hT := HS.out.after b1
  have hf := hT.u.blk.frozen
  have hc := (hT.u.cell A).trans (sc_reg s hA)
  have hq := hT.r.x
  have HT := Lib.hid (hT.setu (v := .int .u32 v) rfl A)
  rw [sc_upd s v hA] at HT
  have hA' : (A : Int) < 8 := by omega
  clear b1 hT q
  go_wp2_with ((with_reducible apply wp_load_R rowX); (exact HT.out.r); (rfl))
  refine (to_any s hs op A B m hA hB _).mono ?_
  rintro e w2 ⟨rfl, b2⟩
  have hT2 := HT.out.after b2
  have hf := hT2.u.blk.frozen
  have hc8 := (hT2.u.cell 8).trans (show (sc (upd s A v))[8]? = some (.int .u32 (upd s A v).pc) from rfl)
  have HU := Lib.hid (hT2.setu (v := .int .u32 (toS s ⟨op, A, B, m⟩)) rfl 8)
  rw [show (sc (upd s A v)).setIfInBounds 8 (.int .u32 (toS s ⟨op, A, B, m⟩)) = sc { (upd s A v) with pc := toS s ⟨op, A, B, m⟩ } from rfl] at HU
  have HF := Lib.hid (HU.out.sett (sc_ok { (upd s A v) with pc := toS s ⟨op, A, B, m⟩ }))
  clear b2 hT2 hc hq
  go_wp2_with (first | ((with_reducible apply wp_load_R rowS); (exact HU.out.u); (rfl)) | ((with_reducible apply wp_store_R (sc { (upd s A v) with pc := toS s ⟨op, A, B, m⟩ }) rowS); (exact ⟨HU.out.t, sc_ok _⟩); (rfl); (rfl)))
  exact bodyPost_ret (res_R rowS (fn := Tryd.f27) rfl _ HF.out.t rfl) rfl ⟨rfl, HF.out.b⟩
theorem done_none (s : Sta) (hs : s.Ok) (op : Int) (h27 : op ≠ 27) (h25 : op ≠ 25) (v : Int) (A B : Nat) (m told : Int) (hA : A < 8) (hB : B < 8) (HM : Hid (∀ W, Calls Tryd.prog 51 #[.agg (xc s ⟨op, A, B, m⟩), .int .u32 told] W fun e w' => e = .returned (.tuple #[.int .u32 v, .bool false]) ∧ Below W.heap.size W w')) (w : World) : Calls Tryd.prog 27 #[.agg (xc s ⟨op, A, B, m⟩), .int .u32 told] w fun e w' => e = .returned (.agg (sc { s with pc := toS s ⟨op, A, B, m⟩ })) ∧ Below w.heap.size w w' := by
  have HA := Lib.hid ((rx_new w s ⟨op, A, B, m⟩).alloc (.cells #[Value.int .u32 0, Value.int .u32 0, Value.int .u32 0, Value.int .u32 0, Value.int .u32 0, Value.int .u32 0, Value.int .u32 0, Value.int .u32 0, Value.int .u32 0, Value.int .u32 0, Value.int .u32 0, Value.int .u32 0, Value.int .u32 0, Value.bool false, Value.bool false, Value.bool false] 25)).x0
  have HA2 := Lib.hid (((rx_new w s ⟨op, A, B, m⟩).alloc (.cells #[Value.int .u32 0, Value.int .u32 0, Value.int .u32 0, Value.int .u32 0, Value.int .u32 0, Value.int .u32 0, Value.int .u32 0, Value.int .u32 0, Value.int .u32 0, Value.int .u32 0, Value.int .u32 0, Value.int .u32 0, Value.int .u32 0, Value.bool false, Value.bool false, Value.bool false] 25)).alloc (.cells #[Value.int .u32 0, Value.int .u32 0, Value.int .u32 0, Value.int .u32 0, Value.int .u32 0, Value.int .u32 0, Value.int .u32 0, Value.int .u32 0, Value.int .u32 0, Value.int .u32 0, Value.int .u32 0, Value.int .u32 0, Value.int .u32 0, Value.bool false, Value.bool false, Value.bool false] 25)).x0
  have HZ := Lib.hid (rs_newZ ((w.alloc (.cells (xc s ⟨op, A, B, m⟩) 58)).alloc (.cells #[Value.int .u32 0, Value.int .u32 0, Value.int .u32 0, Value.int .u32 0, Value.int .u32 0, Value.int .u32 0, Value.int .u32 0, Value.int .u32 0, Value.int .u32 0, Value.int .u32 0, Value.int .u32 0, Value.int .u32 0, Value.int .u32 0, Value.bool false, Value.bool false, Value.bool false] 25)) (w.heap.size + 1 + 1) (by simp))
  obtain ⟨W, HW⟩ : ∃ W, Hid (W = (((w.alloc (.cells (xc s ⟨op, A, B, m⟩) 58)).alloc (.cells #[Value.int .u32 0, Value.int .u32 0, Value.int .u32 0, Value.int .u32 0, Value.int .u32 0, Value.int .u32 0, Value.int .u32 0, Value.int .u32 0, Value.int .u32 0, Value.int .u32 0, Value.int .u32 0, Value.int .u32 0, Value.int .u32 0, Value.bool false, Value.bool false, Value.bool false] 25)).alloc (.cells #[Value.int .u32 0, Value.int .u32 0, Value.int .u32 0, Value.int .u32 0, Value.int .u32 0, Value.int .u32 0, Value.int .u32 0, Value.int .u32 0, Value.int .u32 0, Value.int .u32 0, Value.int .u32 0, Value.int .u32 0, Value.int .u32 0, Value.bool false, Value.bool false, Value.bool false] 25)).setRow (w.heap.size + 1 + 1) (sc s)) := ⟨_, rfl⟩
  have hS := S3.new w s ⟨op, A, B, m⟩
  rw [← HW.out] at hS
  have q := hS.r.x
  have HS := Lib.hid hS
  clear hS
  go_enter Tryd.func27, Tryd.ntmps27
  go_wp2_with (first | (rw [← HW.out]) | ((with_reducible apply wp_load_M rowS); (exact HA.out); (rfl)) | ((with_reducible apply wp_store_R (sc s) rowS); (exact ⟨HZ.out, sc_ok _⟩); (rfl); (rfl)) | ((with_reducible apply wp_load_R rowX); (exact HS.out.r); (rfl)))
  refine (HM.out _).mono ?_
  rintro e w1 ⟨rfl, b1⟩
  have HT := Lib.hid (HS.out.after b1)
  clear b1 q
  go_wp2_with ((with_reducible apply wp_load_R rowX); (exact HT.out.r); (rfl))
  refine (to_any s hs op A B m hA hB _).mono ?_
  rintro e w2 ⟨rfl, b2⟩
  have hT2 := HT.out.after b2
  have hf := hT2.u.blk.frozen
  have hc8 := (hT2.u.cell 8).trans (show (sc s)[8]? = some (.int .u32 s.pc) from rfl)
  have HU := Lib.hid (hT2.setu (v := .int .u32 (toS s ⟨op, A, B, m⟩)) rfl 8)
  rw [show (sc s).setIfInBounds 8 (.int .u32 (toS s ⟨op, A, B, m⟩)) = sc { s with pc := toS s ⟨op, A, B, m⟩ } from rfl] at HU
  have HF := Lib.hid (HU.out.sett (sc_ok { s with pc := toS s ⟨op, A, B, m⟩ }))
  clear b2 hT2
  go_wp2_with (first | ((with_reducible apply wp_load_R rowS); (exact HU.out.u); (rfl)) | ((with_reducible apply wp_store_R (sc { s with pc := toS s ⟨op, A, B, m⟩ }) rowS); (exact ⟨HU.out.t, sc_ok _⟩); (rfl); (rfl)))
  exact bodyPost_ret (res_R rowS (fn := Tryd.f27) rfl _ HF.out.t rfl) rfl ⟨rfl, HF.out.b⟩
theorem look_none : ∀ k : Fin 29, hasMade (k.val : Int) = false → lookV rL (k.val : Int) = #[.nilFunc, .bool false] ∧ lookV gL (k.val : Int) = #[.nilFunc, .bool false] := by
  intro k
  match k with
  | ⟨k, hk⟩ =>
    have : k < 29 := hk
    dsimp only
    iterate 29 (rcases k with _ | k; (first | (intro h; exact ⟨rfl, rfl⟩) | (intro h; exact absurd h (by decide))))
    omega
theorem done_any (s : Sta) (hs : s.Ok) (op : Int) (A B : Nat) (m told : Int) (hA : A < 8) (hB : B < 8) (ht : W32 told) (h0 : 0 ≤ op) (h1 : op < 29) (hc : causeS s ⟨op, A, B, m⟩ = 0) (w : World) : Calls Tryd.prog 27 #[.agg (xc s ⟨op, A, B, m⟩), .int .u32 told] w fun e w' => e = .returned (.agg (sc (doneS s ⟨op, A, B, m⟩ told))) ∧ Below w.heap.size w w' := by
  unfold doneS
  rw [if_pos hc]
  unfold behindS
  dsimp only
  rw [Int.toNat_natCast]
  split
  · rename_i h; subst h; exact done_27 s hs A B m told hA hB w
  split
  · rename_i h; subst h; exact done_25 s hs A B m told hA hB w
  rename_i h27 h25
  split
  · rename_i hm
    simp only [hasMade, decide_eq_true_eq] at hm
    unfold madeS
    dsimp only
    rw [Int.toNat_natCast, Int.toNat_natCast]
    have h26 : op = 26 → 0 ≤ m ∧ m < 6 := by
      rintro rfl
      unfold causeS causeOf at hc
      dsimp only at hc
      simp only [show ((26 : Int) = 0) = False by simp, show ((26 : Int) = 24) = False by simp, if_false, true_or, if_true] at hc
      split at hc
      · split at hc
        · cases hc
        · omega
      · cases hc
    obtain rfl | rfl | rfl | rfl | rfl | rfl | rfl | rfl | rfl | rfl | rfl | rfl | rfl | rfl | rfl | rfl | rfl : op = 2 ∨ op = 3 ∨ op = 4 ∨ op = 5 ∨ op = 6 ∨ op = 7 ∨ op = 8 ∨ op = 9 ∨ op = 10 ∨ op = 11 ∨ op = 12 ∨ op = 13 ∨ op = 15 ∨ op = 20 ∨ op = 21 ∨ op = 22 ∨ op = 26 := by omega
    · exact done_made s hs 2 (by decide) (by decide) _ A B m told hA hB (Lib.hid fun W => made_2 s hs A B m told hA hB ht W) w
    · exact done_made s hs 3 (by decide) (by decide) _ A B m told hA hB (Lib.hid fun W => made_3 s hs A B m told hA hB ht W) w
    · exact done_made s hs 4 (by decide) (by decide) _ A B m told hA hB (Lib.hid fun W => made_4 s hs A B m told hA hB ht W) w
    · exact done_made s hs 5 (by decide) (by decide) _ A B m told hA hB (Lib.hid fun W => made_5 s hs A B m told hA hB ht W) w
    · exact done_made s hs 6 (by decide) (by decide) _ A B m told hA hB (Lib.hid fun W => made_6 s hs A B m told hA hB ht W) w
    · exact done_made s hs 7 (by decide) (by decide) _ A B m told hA hB (Lib.hid fun W => made_7 s hs A B m told hA hB ht W) w
    · exact done_made s hs 8 (by decide) (by decide) _ A B m told hA hB (Lib.hid fun W => made_8 s hs A B m told hA hB ht W) w
    · exact done_made s hs 9 (by decide) (by decide) _ A B m told hA hB (Lib.hid fun W => made_9 s hs A B m told hA hB ht W) w
    · exact done_made s hs 10 (by decide) (by decide) _ A B m told hA hB (Lib.hid fun W => made_10 s hs A B m told hA hB ht W) w
    · exact done_made s hs 11 (by decide) (by decide) _ A B m told hA hB (Lib.hid fun W => made_11 s hs A B m told hA hB ht W) w
    · exact done_made s hs 12 (by decide) (by decide) _ A B m told hA hB (Lib.hid fun W => made_12 s hs A B m told hA hB ht W) w
    · exact done_made s hs 13 (by decide) (by decide) _ A B m told hA hB (Lib.hid fun W => made_13 s hs A B m told hA hB ht W) w
    · exact done_made s hs 15 (by decide) (by decide) _ A B m told hA hB (Lib.hid fun W => made_15 s hs A B m told hA hB ht W) w
    · exact done_made s hs 20 (by decide) (by decide) _ A B m told hA hB (Lib.hid fun W => made_20 s hs A B m told hA hB ht W) w
    · exact done_made s hs 21 (by decide) (by decide) _ A B m told hA hB (Lib.hid fun W => made_21 s hs A B m told hA hB ht W) w
    · exact done_made s hs 22 (by decide) (by decide) _ A B m told hA hB (Lib.hid fun W => made_22 s hs A B m told hA hB ht W) w
    · exact done_made s hs 26 (by decide) (by decide) _ A B m told hA hB (Lib.hid fun W => made_26 s hs A B m told hA hB ht (h26 rfl).1 (h26 rfl).2 W) w
  · rename_i hm
    have hm' : hasMade op = false := by simpa using hm
    obtain ⟨k, rfl⟩ := Int.eq_ofNat_of_zero_le h0
    have hl := look_none ⟨k, by omega⟩ hm'
    exact done_none s hs _ h27 h25 0 A B m told hA hB (Lib.hid fun W => made_none s hs _ A B m told hA hB ht (by simp [Lit.wf, IntKind.min, IntKind.max, IntKind.signed, IntKind.bits]; omega) hl.1 hl.2 W) w

theorem Done_ok (s : Sta) (hs : s.Ok) (op : Int) (A B : Nat) (m x told : Int) (hA : A < 8) (hB : B < 8) (h0 : 0 ≤ op) (h1 : op < 29) (ht : W32 told) (hcs : causeS s ⟨op, A, B, m⟩ = 0) (w : World) (HC : Hid (∀ W, Below w.heap.size w W → Calls Tryd.prog 25 #[.agg (sc s), .int .u32 x] W fun e w' => e = .returned (.agg (xc s ⟨op, A, B, m⟩)) ∧ Below W.heap.size W w')) : Calls Tryd.prog 13 #[.agg (sc s), .int .u32 x, .int .u32 told] w fun e w' => e = .returned (.agg (sc (doneS s ⟨op, A, B, m⟩ told))) ∧ Below w.heap.size w w' := by
  obtain ⟨W, HW⟩ : ∃ W, Hid (W = (w.alloc (.cells (sc s) 25)).alloc (.cells #[Value.int .u32 0, Value.int .u32 0, Value.int .u32 0, Value.int .u32 0, Value.int .u32 0, Value.int .u32 0, Value.int .u32 0, Value.int .u32 0, Value.int .u32 0, Value.int .u32 0, Value.int .u32 0, Value.int .u32 0, Value.int .u32 0, Value.bool false, Value.bool false, Value.bool false] 25)) := ⟨_, rfl⟩
  have hb : Below w.heap.size w W := by rw [HW.out]; exact (bel1 w _).alloc (by simp) _
  have RA : Hid (Rf 25 16 W w.heap.size (sc s)) := Lib.hid (by rw [HW.out]; exact (rs_new w s).alloc _)
  have RB : Hid (Rf 25 16 W (w.heap.size + 1) (sc S0)) := Lib.hid (by rw [HW.out]; exact rs_newZ _ _ (by simp))
  have HCW := Lib.hid (HC.out W hb)
  have HBe := Lib.hid hb
  clear hb HC
  have hca := fun W => cause_any s op A B m hA hB W
  rw [hcs] at hca
  have HCA := Lib.hid hca
  have HCS := Lib.hid hcs
  clear hcs hca
  go_enter Tryd.func13, Tryd.ntmps13
  go_wp2_with (first | (rw [← HW.out]) | ((with_reducible apply wp_load_R rowS); (exact RA.out); (rfl)))
  refine HCW.out.mono ?_
  rintro e w1 ⟨rfl, b1⟩
  have RA1 := Lib.hid ((RA.out.below b1).alloc (.cells (xc s ⟨op, A, B, m⟩) 58))
  have RB1 := Lib.hid ((RB.out.below b1).alloc (.cells (xc s ⟨op, A, B, m⟩) 58))
  have RX1 := Lib.hid ((x_ok s ⟨op, A, B, m⟩).new 58 w1)
  have HB1 := Lib.hid ((HBe.out.trans (b1.mono HBe.out.size)).alloc (HBe.out.trans (b1.mono HBe.out.size)).size (.cells (xc s ⟨op, A, B, m⟩) 58))
  clear b1 HBe
  go_wp2_with (first | ((with_reducible apply wp_store_Rn (xc s ⟨op, A, B, m⟩) rowX); (exact ⟨rfl, x_ok _ _⟩); (rfl); (rfl)) | ((with_reducible apply wp_load_R rowX); (exact RX1.out); (rfl)))
  refine (HCA.out _).mono ?_
  rintro e w2 ⟨rfl, b2⟩
  have RA2 := Lib.hid (RA1.out.below b2)
  have RB2 := Lib.hid (RB1.out.below b2)
  have RX2 := Lib.hid (RX1.out.below b2)
  have HB2 := Lib.hid (HB1.out.trans (b2.mono HB1.out.size))
  clear b2
  go_wp2_with ((with_reducible apply wp_load_R rowX); (exact RX2.out); (rfl))
  refine (done_any s hs op A B m told hA hB ht h0 h1 HCS.out _).mono ?_
  rintro e w3 ⟨rfl, b3⟩
  have RB3 := Lib.hid (RB2.out.below b3)
  have HB3 := Lib.hid (HB2.out.trans (b3.mono HB2.out.size))
  clear b3
  have HF := Lib.hid (RB3.out.set (sc_ok (doneS s ⟨op, A, B, m⟩ told)))
  have HG := Lib.hid (below_setRow HB3.out (by omega) (sc (doneS s ⟨op, A, B, m⟩ told)) (g := w.heap.size + 1))
  go_wp2_with ((with_reducible apply wp_store_R (sc (doneS s ⟨op, A, B, m⟩ told)) rowS); (exact ⟨RB3.out, sc_ok _⟩); (rfl); (rfl))
  exact bodyPost_ret (res_R rowS (fn := Tryd.f13) rfl _ HF.out rfl) rfl ⟨rfl, HG.out⟩
theorem Done_trap (s : Sta) (hs : s.Ok) (op : Int) (A B : Nat) (m x told : Int) (hA : A < 8) (hB : B < 8) (h0 : 0 ≤ op) (h1 : op < 29) (ht : W32 told) (c : Int) (hcs : causeS s ⟨op, A, B, m⟩ = c) (hc : c ≠ 0) (w : World) (HC : Hid (∀ W, Below w.heap.size w W → Calls Tryd.prog 25 #[.agg (sc s), .int .u32 x] W fun e w' => e = .returned (.agg (xc s ⟨op, A, B, m⟩)) ∧ Below W.heap.size W w')) : Calls Tryd.prog 13 #[.agg (sc s), .int .u32 x, .int .u32 told] w fun e w' => e = .returned (.agg (sc (trapS s c))) ∧ Below w.heap.size w w' := by
  obtain ⟨W, HW⟩ : ∃ W, Hid (W = (w.alloc (.cells (sc s) 25)).alloc (.cells #[Value.int .u32 0, Value.int .u32 0, Value.int .u32 0, Value.int .u32 0, Value.int .u32 0, Value.int .u32 0, Value.int .u32 0, Value.int .u32 0, Value.int .u32 0, Value.int .u32 0, Value.int .u32 0, Value.int .u32 0, Value.int .u32 0, Value.bool false, Value.bool false, Value.bool false] 25)) := ⟨_, rfl⟩
  have hb : Below w.heap.size w W := by rw [HW.out]; exact (bel1 w _).alloc (by simp) _
  have RA : Hid (Rf 25 16 W w.heap.size (sc s)) := Lib.hid (by rw [HW.out]; exact (rs_new w s).alloc _)
  have RB : Hid (Rf 25 16 W (w.heap.size + 1) (sc S0)) := Lib.hid (by rw [HW.out]; exact rs_newZ _ _ (by simp))
  have HCW := Lib.hid (HC.out W hb)
  have HBe := Lib.hid hb
  clear hb HC
  have hca := fun W => cause_any s op A B m hA hB W
  rw [hcs] at hca
  have HCA := Lib.hid hca
  clear hcs hca
  go_enter Tryd.func13, Tryd.ntmps13
  go_wp2_with (first | (rw [← HW.out]) | ((with_reducible apply wp_load_R rowS); (exact RA.out); (rfl)))
  refine HCW.out.mono ?_
  rintro e w1 ⟨rfl, b1⟩
  have RA1 := Lib.hid ((RA.out.below b1).alloc (.cells (xc s ⟨op, A, B, m⟩) 58))
  have RB1 := Lib.hid ((RB.out.below b1).alloc (.cells (xc s ⟨op, A, B, m⟩) 58))
  have RX1 := Lib.hid ((x_ok s ⟨op, A, B, m⟩).new 58 w1)
  have HB1 := Lib.hid ((HBe.out.trans (b1.mono HBe.out.size)).alloc (HBe.out.trans (b1.mono HBe.out.size)).size (.cells (xc s ⟨op, A, B, m⟩) 58))
  clear b1 HBe
  go_wp2_with (first | ((with_reducible apply wp_store_Rn (xc s ⟨op, A, B, m⟩) rowX); (exact ⟨rfl, x_ok _ _⟩); (rfl); (rfl)) | ((with_reducible apply wp_load_R rowX); (exact RX1.out); (rfl)))
  refine (HCA.out _).mono ?_
  rintro e w2 ⟨rfl, b2⟩
  have RA2 := Lib.hid (RA1.out.below b2)
  have RB2 := Lib.hid (RB1.out.below b2)
  have RX2 := Lib.hid (RX1.out.below b2)
  have HB2 := Lib.hid (HB1.out.trans (b2.mono HB1.out.size))
  clear b2
  go_wp2_with ((with_reducible apply wp_load_R rowS); (exact RA2.out); (rfl))
  refine (Trap_any s c _).mono ?_
  rintro e w3 ⟨rfl, b3⟩
  have RB3 := Lib.hid (RB2.out.below b3)
  have HB3 := Lib.hid (HB2.out.trans (b3.mono HB2.out.size))
  clear b3
  have HF := Lib.hid (RB3.out.set (sc_ok (trapS s c)))
  have HG := Lib.hid (below_setRow HB3.out (by omega) (sc (trapS s c)) (g := w.heap.size + 1))
  go_wp2_with ((with_reducible apply wp_store_R (sc (trapS s c)) rowS); (exact ⟨RB3.out, sc_ok _⟩); (rfl); (rfl))
  exact bodyPost_ret (res_R rowS (fn := Tryd.f13) rfl _ HF.out rfl) rfl ⟨rfl, HG.out⟩
theorem Done_any (s : Sta) (hs : s.Ok) (x told : Int) (hx : W32 x) (ht : W32 told) (w : World) (h : Env w) : Calls Tryd.prog 13 #[.agg (sc s), .int .u32 x, .int .u32 told] w fun e w' => e = .returned (.agg (sc (doneS s (decV x) told))) ∧ Below w.heap.size w w' := by
  obtain ⟨op, A, B, m, hd, h1, h2, h3, h4, h5, h6⟩ := decV_nat x
  have hc := fun W (hW : Below w.heap.size w W) => at_any s x hx W (h.below hW)
  rw [hd] at hc ⊢
  by_cases hcs : causeS s ⟨op, A, B, m⟩ = 0
  · exact Done_ok s hs op A B m x told h3 h4 h1 h2 ht hcs w (Lib.hid hc)
  · have := Done_trap s hs op A B m x told h3 h4 h1 h2 ht _ rfl hcs w (Lib.hid hc)
    rw [show doneS s ⟨op, A, B, m⟩ told = trapS s (causeS s ⟨op, A, B, m⟩) from if_neg hcs]
    exact this
end Go.Proofs.YthjdfneibogcgaaDoor

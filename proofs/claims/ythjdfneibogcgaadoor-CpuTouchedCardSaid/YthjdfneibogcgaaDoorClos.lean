/-
  Layer 10: the functions of cpu's two maps, made of a step: walks. Written by gen_made.py.
-/
import Derived.Test.YthjdfneibogcgaaDoorMap
import Derived.Test.YthjdfneibogcgaaDoorBits
import Derived.Test.YthjdfneibogcgaaDoorStep7
namespace Go.Proofs.YthjdfneibogcgaaDoor
open Go.RowKit
set_option maxHeartbeats 8000000
set_option linter.unusedVariables false
set_option linter.unusedSimpArgs false

theorem k1_any (a b : Int) (w : World) : Calls Tryd.prog 79 #[.int .u32 a, .int .u32 b] w fun e w' => e = .returned (.int .u32 (bitOf 7 a b)) ∧ Below w.heap.size w w' := by
  have e : bits .and .u32 a b = bitOf 7 a b := rfl
  go_enter Tryd.func79, Tryd.ntmps79
  go_wp2
  go_ret
  exact ⟨by rw [← e]; rfl, Below.refl _ _⟩
theorem k2_any (a b : Int) (w : World) : Calls Tryd.prog 80 #[.int .u32 a, .int .u32 b] w fun e w' => e = .returned (.int .u32 (bitOf 8 a b)) ∧ Below w.heap.size w w' := by
  have e : bits .or .u32 a b = bitOf 8 a b := rfl
  go_enter Tryd.func80, Tryd.ntmps80
  go_wp2
  go_ret
  exact ⟨by rw [← e]; rfl, Below.refl _ _⟩
theorem k3_any (a b : Int) (w : World) : Calls Tryd.prog 81 #[.int .u32 a, .int .u32 b] w fun e w' => e = .returned (.int .u32 (bitOf 9 a b)) ∧ Below w.heap.size w w' := by
  have e : bits .xor .u32 a b = bitOf 9 a b := rfl
  go_enter Tryd.func81, Tryd.ntmps81
  go_wp2
  go_ret
  exact ⟨by rw [← e]; rfl, Below.refl _ _⟩
theorem k4_any (a b : Int) (ha : W32 a) (hb : W32 b) (w : World) : Calls Tryd.prog 84 #[.int .u32 a, .int .u32 b] w fun e w' => e = .returned (.int .u32 (if sgn a < sgn b then 1 else 0)) ∧ Below w.heap.size w w' := by
  by_cases h : sgn a < sgn b
  all_goals
    have HC := Lib.hid (Less_any a b ha hb w)
    have hd : decide (sgn a < sgn b) = decide (sgn a < sgn b) := rfl
    first | rw [if_pos h] | rw [if_neg h]
    first | rw [decide_eq_true h] at HC | rw [decide_eq_false h] at HC
    clear hd h
    go_enter Tryd.func84, Tryd.ntmps84
    go_wp2_with fail
    refine HC.out.mono ?_
    rintro e w1 ⟨rfl, rfl⟩
    go_wp2
    go_ret
    exact ⟨rfl, Below.refl _ _⟩
theorem g1_any (s : Sta) (op : Int) (A B : Nat) (m told : Int) (w : World) : Calls Tryd.prog 86 #[.agg (xc s ⟨op, A, B, m⟩), .int .u32 told] w fun e w' => e = .returned (.int .u32 (immW m * 65536 % 4294967296)) ∧ Below w.heap.size w w' := by
  have HR := Lib.hid (rx_new w s ⟨op, A, B, m⟩)
  have HB := Lib.hid (bel1 w (.cells (xc s ⟨op, A, B, m⟩) 58))
  go_enter Tryd.func86, Tryd.ntmps86
  go_wp2_with ((with_reducible apply wp_load_R rowX); (exact HR.out); (rfl))
  refine (imm_any s op A B m _).mono ?_
  rintro e w1 ⟨rfl, b1⟩
  have HB1 := Lib.hid (HB.out.trans (b1.mono HB.out.size))
  clear b1
  go_wp2_with fail
  refine (Shl_any _ 16 ⟨by decide, by decide⟩ _).mono ?_
  rintro e w2 ⟨rfl, b2⟩
  have HB2 := Lib.hid (HB1.out.trans (b2.mono HB1.out.size))
  clear b2
  go_wp2
  go_ret
  exact ⟨rfl, HB2.out⟩
theorem g2_any (s : Sta) (op : Int) (A B : Nat) (m told : Int) (hB : B < 8) (w : World) : Calls Tryd.prog 87 #[.agg (xc s ⟨op, A, B, m⟩), .int .u32 told] w fun e w' => e = .returned (.int .u32 ((s.r B + immW m) % 4294967296)) ∧ Below w.heap.size w w' := by
  have hK0 := (Sx.new w s ⟨op, A, B, m⟩).drew
  go_enter Tryd.func87, Tryd.ntmps87
  go_wp2
  refine wp_region_held_drew (S := Sx w w.heap.size s ⟨op, A, B, m⟩) (by kernel_rfl) hK0 (fun _ => ?_)
  have hS := hK0
  refine take_d (i := 0) (d := some 5) (v := .agg (xc s ⟨op, A, B, m⟩)) rfl rfl (by kernel_rfl) (by kernel_rfl) (by kernel_rfl) (fun _ _ _ h => h) (y_R rowX (by kernel_rfl) rfl rfl (fun W hW => hW.r)) hS ?_
  try simp only [Act.put, List.setIfInBounds_toArray, List.set_cons_zero, List.set_cons_succ]
  refine take_d (i := 2) (d := some 7) (v := .agg (xc s ⟨op, A, B, m⟩)) rfl rfl (by kernel_rfl) (by kernel_rfl) (by kernel_rfl) (fun _ _ _ h => h) (y_R rowX (by kernel_rfl) rfl rfl (fun W hW => hW.r)) hS ?_
  try simp only [Act.put, List.setIfInBounds_toArray, List.set_cons_zero, List.set_cons_succ]
  refine wpAnyH_all (rs := [1]) (by kernel_rfl) (by simp) (fun i hi => ?_)
  simp only [List.mem_cons, List.not_mem_nil, or_false] at hi
  subst hi
  refine .inl ?_
  go_simp
  refine (sb_any s op A B m hB _).mono ?_
  rintro e wc ⟨rfl, hb⟩
  have hS := hS.after hb
  clear hb
  refine ⟨hS, ?_⟩
  try simp only [Act.put, List.setIfInBounds_toArray, List.set_cons_zero, List.set_cons_succ]
  refine wpAnyH_all (rs := [3]) (by kernel_rfl) (by simp) (fun i hi => ?_)
  simp only [List.mem_cons, List.not_mem_nil, or_false] at hi
  subst hi
  refine .inl ?_
  go_simp
  refine (imm_any s op A B m _).mono ?_
  rintro e wc ⟨rfl, hb⟩
  have hS := hS.after hb
  clear hb
  refine ⟨hS, ?_⟩
  try simp only [Act.put, List.setIfInBounds_toArray, List.set_cons_zero, List.set_cons_succ]
  refine wpAnyH_all (rs := [4]) (by kernel_rfl) (by simp) (fun i hi => ?_)
  simp only [List.mem_cons, List.not_mem_nil, or_false] at hi
  subst hi
  refine .inl ?_
  go_simp
  refine (Add_any _ _ _).mono ?_
  rintro e wc ⟨rfl, rfl⟩
  refine ⟨hS, ?_⟩
  try simp only [Act.put, List.setIfInBounds_toArray, List.set_cons_zero, List.set_cons_succ]
  refine take_d (i := 5) (d := some 4) (v := ?_) rfl rfl (by kernel_rfl) (by kernel_rfl) (by kernel_rfl) (fun _ _ _ h => h) (.inl ⟨by rfl, ?_⟩) hS ?_
  rotate_left
  · intro W hW
    go_simp
    try with_reducible rfl
  try simp only [Act.put, List.setIfInBounds_toArray, List.set_cons_zero, List.set_cons_succ]
  refine wpAnyH_done (by kernel_rfl) ?_ _
  have HE := Lib.hid hS.b
  clear hS hK0
  go_wp2
  go_ret
  exact ⟨rfl, HE.out⟩
theorem g3_any (s : Sta) (op : Int) (A B : Nat) (m told : Int) (w : World) : Calls Tryd.prog 88 #[.agg (xc s ⟨op, A, B, m⟩), .int .u32 told] w fun e w' => e = .returned (.int .u32 told) ∧ Below w.heap.size w w' := by
  have HR := Lib.hid (rx_new w s ⟨op, A, B, m⟩)
  have HB := Lib.hid (bel1 w (.cells (xc s ⟨op, A, B, m⟩) 58))
  go_enter Tryd.func88, Tryd.ntmps88
  go_wp2
  go_ret
  exact ⟨rfl, HB.out⟩
theorem g5_any (s : Sta) (op : Int) (A B : Nat) (m told : Int) (w : World) : Calls Tryd.prog 90 #[.agg (xc s ⟨op, A, B, m⟩), .int .u32 told] w fun e w' => e = .returned (.int .u32 told) ∧ Below w.heap.size w w' := by
  have HR := Lib.hid (rx_new w s ⟨op, A, B, m⟩)
  have HB := Lib.hid (bel1 w (.cells (xc s ⟨op, A, B, m⟩) 58))
  go_enter Tryd.func90, Tryd.ntmps90
  go_wp2
  go_ret
  exact ⟨rfl, HB.out⟩
theorem g4_any (s : Sta) (op : Int) (A B : Nat) (m told : Int) (ht : W32 told) (w : World) : Calls Tryd.prog 89 #[.agg (xc s ⟨op, A, B, m⟩), .int .u32 told] w fun e w' => e = .returned (.int .u32 (told % 256)) ∧ Below w.heap.size w w' := by
  have HR := Lib.hid (rx_new w s ⟨op, A, B, m⟩)
  have HB := Lib.hid (bel1 w (.cells (xc s ⟨op, A, B, m⟩) 58))
  go_enter Tryd.func89, Tryd.ntmps89
  go_wp2_with fail
  refine (lowest_any told ht _).mono ?_
  rintro e w1 ⟨rfl, b1⟩
  have HB1 := Lib.hid (HB.out.trans (b1.mono HB.out.size))
  clear b1
  go_wp2
  go_ret
  exact ⟨rfl, HB1.out⟩
theorem g6_any (s : Sta) (op : Int) (A B : Nat) (m told : Int) (w : World) : Calls Tryd.prog 91 #[.agg (xc s ⟨op, A, B, m⟩), .int .u32 told] w fun e w' => e = .returned (.int .u32 ((s.pc + 4) % 4294967296)) ∧ Below w.heap.size w w' := by
  have HR := Lib.hid (rx_new w s ⟨op, A, B, m⟩)
  have HB := Lib.hid (bel1 w (.cells (xc s ⟨op, A, B, m⟩) 58))
  go_enter Tryd.func91, Tryd.ntmps91
  go_wp2_with ((with_reducible apply wp_load_R rowX); (exact HR.out); (rfl))
  refine (next_any s _ _).mono ?_
  rintro e w1 ⟨rfl, b1⟩
  have HB1 := Lib.hid (HB.out.trans (b1.mono HB.out.size))
  clear b1
  go_wp2
  go_ret
  exact ⟨rfl, HB1.out⟩
theorem g7_any (s : Sta) (op : Int) (A B : Nat) (m told : Int) (w : World) : Calls Tryd.prog 92 #[.agg (xc s ⟨op, A, B, m⟩), .int .u32 told] w fun e w' => e = .returned (.int .u32 ((s.pc + 4) % 4294967296)) ∧ Below w.heap.size w w' := by
  have HR := Lib.hid (rx_new w s ⟨op, A, B, m⟩)
  have HB := Lib.hid (bel1 w (.cells (xc s ⟨op, A, B, m⟩) 58))
  go_enter Tryd.func92, Tryd.ntmps92
  go_wp2_with ((with_reducible apply wp_load_R rowX); (exact HR.out); (rfl))
  refine (next_any s _ _).mono ?_
  rintro e w1 ⟨rfl, b1⟩
  have HB1 := Lib.hid (HB.out.trans (b1.mono HB.out.size))
  clear b1
  go_wp2
  go_ret
  exact ⟨rfl, HB1.out⟩
theorem g8_any (s : Sta) (op : Int) (A B : Nat) (m told : Int) (h0 : 0 ≤ m) (h1 : m < 6) (w : World) : Calls Tryd.prog 93 #[.agg (xc s ⟨op, A, B, m⟩), .int .u32 told] w fun e w' => e = .returned (.int .u32 (getS s m)) ∧ Below w.heap.size w w' := by
  have HR := Lib.hid (rx_new w s ⟨op, A, B, m⟩)
  have HB := Lib.hid (bel1 w (.cells (xc s ⟨op, A, B, m⟩) 58))
  go_enter Tryd.func93, Tryd.ntmps93
  go_wp2_with ((with_reducible apply wp_load_R rowX); (exact HR.out); (rfl))
  refine (get_any s op A B m h0 h1 _).mono ?_
  rintro e w1 ⟨rfl, b1⟩
  have HB1 := Lib.hid (HB.out.trans (b1.mono HB.out.size))
  clear b1
  go_wp2
  go_ret
  exact ⟨rfl, HB1.out⟩

/-- A look into the map of two words' functions, of all's. -/
theorem look_R {w : World} {b : Nat} (h : w.ownsMap Tryd.prog 54 fR b 9 (DL rL)) {k : Int} (hk : (Lit.int .i64 k).wf = true) {X Y : Value} (hl : lookV rL k = #[X, Y]) : (Instr.lookup 96 (.map (some b)) (.int .i64 k) true).run Tryd.prog w = .ok (.tuple #[X, Y]) w := by
  rw [← hl]; exact look_f h Tryd.underlying96 (by kernel_rfl) hk
theorem look_G {w : World} {b : Nat} (h : w.ownsMap Tryd.prog 54 fR b 8 (DL gL)) {k : Int} (hk : (Lit.int .i64 k).wf = true) {X Y : Value} (hl : lookV gL k = #[X, Y]) : (Instr.lookup 100 (.map (some b)) (.int .i64 k) true).run Tryd.prog w = .ok (.tuple #[X, Y]) w := by
  rw [← hl]; exact look_f h Tryd.underlying100 (by kernel_rfl) hk
theorem reckoned_ex (w : World) : Calls Tryd.prog 68 #[] w fun e w' => ∃ b, e = .returned (.map (some b)) ∧ w'.ownsMap Tryd.prog 54 fR b 9 (DL rL) ∧ Below w.heap.size w w' := (reckoned_any w).mono fun e w' h => ⟨_, h⟩
theorem given_ex (w : World) : Calls Tryd.prog 69 #[] w fun e w' => ∃ b, e = .returned (.map (some b)) ∧ w'.ownsMap Tryd.prog 54 fR b 8 (DL gL) ∧ Below w.heap.size w w' := (given_any w).mono fun e w' h => ⟨_, h⟩
end Go.Proofs.YthjdfneibogcgaaDoor

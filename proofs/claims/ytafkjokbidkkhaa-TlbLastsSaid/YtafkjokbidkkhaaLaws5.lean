/-
  Layer 6: the walk of TlbLasts. Written by gen_lasts.py out of XLaws5.part.
-/
import Derived.Test.YtafkjokbidkkhaaLaws1
import Derived.Test.YtafkjokbidkkhaaUni
import Derived.RegionTactic
namespace Go.Proofs.Ytafkjokbidkkhaa
open Go.RowKit
set_option maxHeartbeats 1000000
set_option linter.unusedVariables false
set_option linter.unusedSimpArgs false

/-- A TLB of the call's own, no two slots of one page. -/
structure Og (w : World) (S : Nat) (t : Tl) (W : World) : Prop where
  own : Own w S t W
  ok : Ok t
  uni : Uni t
theorem Og.fill {w W : World} {S : Nat} {t : Tl} (h : Og w S t W) (th : Bool) (p f : Int) (wr : Bool) : Calls Try.prog 19 #[.pointer (some ⟨S, 0, none⟩), .agg #[.bool th, .int .u32 p, .int .u32 f, .bool wr]] W fun r w' =>
    r = .returned (.int .i64 (t.slt p : Int)) ∧ Og w S (t.fil p f wr) w' := (h.own.fill h.ok th p f wr).mono fun r w' hq => ⟨hq.1, hq.2, h.ok.fil _ _ _, h.uni.fil h.ok _ _ _⟩
theorem Og.drop {w W : World} {S : Nat} {t : Tl} (h : Og w S t W) (p : Int) : Calls Try.prog 23 #[.pointer (some ⟨S, 0, none⟩), .int .u32 p] W fun e w' =>
    e = .returned (.bool (t.lkB p)) ∧ Og w S (t.drp p) w' := (h.own.drop p).mono fun r w' hq => ⟨hq.1, hq.2, h.ok.drp _, h.uni.drp _⟩
theorem Og.flush {w W : World} {S : Nat} {t : Tl} (h : Og w S t W) : Calls Try.prog 20 #[.pointer (some ⟨S, 0, none⟩)] W fun e w' => e = .returned (.tuple #[]) ∧ Og w S T0 w' :=
  h.own.flush.mono fun r w' hq => ⟨hq.1, hq.2, ok_T0, uni_T0⟩
theorem Og.after {w W W' : World} {S : Nat} {t : Tl} (h : Og w S t W) (hb : Below W.heap.size W W') : Og w S t W' := ⟨h.own.after hb, h.ok, h.uni⟩
theorem o_alloc_E {op : Oper} {a : Act} {w : World} {K : Act → World → Prop} {Q : Exit → Act → World → Prop} (ho : op.op = .alloc 27)
    (h : K (a.put op.dst (.pointer (some ⟨w.heap.size, 0, none⟩))) (w.alloc (.cells (cE E0).toArray 27))) : op.wp Try.prog a w K Q := by
  unfold Oper.wp execOp
  simp only [ho]
  go_simp
  exact h
theorem o_store_E {op : Oper} {a : Act} {w : World} {K : Act → World → Prop} {Q : Exit → Act → World → Prop} {x y : Operand} {b : Nat} {e' : Ent} (e : Ent) (hr : Blk w b (cE e').toArray 27) (ho : op.op = .store 27 x y) (hx : a.eval x = .pointer (some ⟨b, 0, none⟩)) (hy : a.eval y = .agg (cE e).toArray)
    (h : K (a.put op.dst undef) (w.setRow b (cE e).toArray)) : op.wp Try.prog a w K Q := by
  unfold Oper.wp execOp
  simp only [ho, hx, hy, Instr.storeAt, Instr.sureAddr, Sem.run_bind, Sem.run_pure, Result.andThen_ok, run_storeVar_row w b 27 27 (cE e').toArray (cE e).toArray hr infoE rfl (all_oneCell_toArray (one_cE e))]
  exact h
/-- Two new blocks, an entry in each. -/
theorem two_blocks (w : World) : Blk ((w.alloc (.cells (cE E0).toArray 27)).alloc (.cells (cE E0).toArray 27)) w.heap.size (cE E0).toArray 27 ∧ Blk ((w.alloc (.cells (cE E0).toArray 27)).alloc (.cells (cE E0).toArray 27)) (w.heap.size + 1) (cE E0).toArray 27 ∧ Below w.heap.size w ((w.alloc (.cells (cE E0).toArray 27)).alloc (.cells (cE E0).toArray 27)) := by
  refine ⟨(blk_new _ _ _).alloc _, ?_, ((Below.refl _ _).alloc (Nat.le_refl _) _).alloc (by simp) _⟩
  have := blk_new (w.alloc (.cells (cE E0).toArray 27)) (cE E0).toArray 27
  rwa [World.size_alloc] at this
theorem range_setRow {w : World} {b o : Nat} {l : List Value} (h : w.rangeAt b o l) {g : Nat} (hg : b ≠ g) (cs : Array Value) : (w.setRow g cs).rangeAt b o l := fun j v hj => (cell_setRow_other w g cs _ hg).trans (h j v hj)
theorem neqEq (e : Ent) (w : World) : (binOp .neq 27 (.agg #[.bool e.th, .int .u32 e.pg, .int .u32 e.fr, .bool e.wr]) (.agg #[.bool e.th, .int .u32 e.pg, .int .u32 e.fr, .bool e.wr])).run Try.prog w = .ok (.bool false) w := neqE e w
set_option maxRecDepth 100000 in
theorem TlbLasts_walk (v0 : Value) (xs : List Act5) (p f : Int) (v3 : Value) (more : List Int) (w : World) (h0 : ActsIn w v0 xs) (h3 : NumsIn .u32 w v3 more) : Calls Try.prog 8 #[v0, .int .u32 p, .int .u32 f, v3] w fun e w' => e = .returned (.bool true) ∧ Below w.heap.size w w' := by
  obtain ⟨o, c, rfl, hc, hm⟩ := h0.form
  obtain ⟨o3, c3, rfl, hc3, hm3, hcell⟩ := h3.form
  unfold maxLen at hm hm3
  have HC := Lib.hid hcell
  have HI := Lib.hid h0
  clear h0 h3 hcell
  by_cases h1 : (60 : Int) < xs.length
  · go_enter Try.func8, Try.ntmps8
    go_wp2_with (go_at_call 9; refine (works_any _).mono ?_; rintro e w' ⟨rfl, hb⟩)
    go_ret
    exact ⟨rfl, hb⟩
  · by_cases h2 : (60 : Int) < more.length
    · go_enter Try.func8, Try.ntmps8
      go_wp2_with (go_at_call 9; refine (works_any _).mono ?_; rintro e w' ⟨rfl, hb⟩)
      go_ret
      exact ⟨rfl, hb⟩
    · have H0 : Hid (Og w w.heap.size T0 (w.alloc (.cells (pc T0) 62))) := ⟨Own.new w, ok_T0, uni_T0⟩
      go_enter Try.func8, Try.ntmps8
      go_wp2_with fail
      refine (New_any _).mono ?_
      rintro e w1 ⟨rfl, rfl⟩
      go_wp2_with fail
      generalize w.alloc (.cells (pc T0) 62) = W0 at H0 ⊢
      go_loopw [10] (fun q wr => ∃ (k : Nat) (t : Tl), k ≤ xs.length ∧ q = .int .i64 (k : Int) ∧ Hid (Og w w.heap.size t wr)) (fun q _ => xs.length + 1 - (intOf q).toNat)
      case atStart => exact ⟨0, T0, by omega, rfl, H0.out⟩
      case round =>
        obtain ⟨k, t, hk, rfl, HP⟩ := hrel
        by_cases hlt : k < xs.length
        · have hi : (k : Int) < (xs.length : Int) := by omega
          obtain ⟨a, c', s, he, hs, h5⟩ := (HI.out.below' HP.out.own.below).at5 hlt
          simp at he
          obtain ⟨rfl, rfl⟩ := he
          have H5 := Lib.hid (fun W (hb : Below w.heap.size w W) => (HI.out.below' hb).at5 hlt)
          obtain ⟨a0, a1, a2, a3, a4⟩ := h5
          obtain ⟨sk, sp, sf, sw, sth⟩ := s
          simp only at a0 a1 a2 a3 a4
          have hKd : ∀ W, Below w.heap.size w W → W.cell? ⟨(a.add (k * 5)).block, (a.add (k * 5)).off + 1, none⟩ = some (.int .u32 sp) ∧ W.cell? ⟨(a.add (k * 5)).block, (a.add (k * 5)).off + 2, none⟩ = some (.int .u32 sf) ∧ W.cell? ⟨(a.add (k * 5)).block, (a.add (k * 5)).off + 3, none⟩ = some (.bool sw) := by
            intro W hb
            obtain ⟨a', c', s', he', hs', q0, q1, q2, q3, q4⟩ := (HI.out.below' hb).at5 hlt
            simp at he'
            obtain ⟨rfl, rfl⟩ := he'
            rw [hs] at hs'
            cases hs'
            exact ⟨q1, q2, q3⟩
          have HKD := Lib.hid hKd
          clear hKd H5 hs
          by_cases e0 : sk = 0
          · subst e0
            have hK0 : (fun W => W.cell? ⟨(a.add (k * 5)).block, (a.add (k * 5)).off + 1, none⟩ = some (.int .u32 sp) ∧ W.cell? ⟨(a.add (k * 5)).block, (a.add (k * 5)).off + 2, none⟩ = some (.int .u32 sf) ∧ W.cell? ⟨(a.add (k * 5)).block, (a.add (k * 5)).off + 3, none⟩ = some (.bool sw)) wr.drew := ⟨a1, a2, a3⟩
            go_wp2
            refine wp_region_held_drew (S := (fun W => W.cell? ⟨(a.add (k * 5)).block, (a.add (k * 5)).off + 1, none⟩ = some (.int .u32 sp) ∧ W.cell? ⟨(a.add (k * 5)).block, (a.add (k * 5)).off + 2, none⟩ = some (.int .u32 sf) ∧ W.cell? ⟨(a.add (k * 5)).block, (a.add (k * 5)).off + 3, none⟩ = some (.bool sw))) (by kernel_rfl) hK0 (fun _ => ?_)
            have hS := hK0
            refine take_d (i := 0) (d := some 46) (v := .pointer (some ⟨w.heap.size, 0, none⟩)) rfl rfl (by kernel_rfl) (by kernel_rfl) (by kernel_rfl) (fun _ _ _ h => h) (.inl ⟨by rfl, fun W hW => by go_simp⟩) hS ?_
            try simp only [Act.put, List.setIfInBounds_toArray, List.set_cons_zero, List.set_cons_succ]
            refine take_d (i := 1) (d := some 47) (v := .slice (some a) xs.length c) rfl rfl (by kernel_rfl) (by kernel_rfl) (by kernel_rfl) (fun _ _ _ h => h) (.inl ⟨by rfl, fun W hW => by go_simp⟩) hS ?_
            try simp only [Act.put, List.setIfInBounds_toArray, List.set_cons_zero, List.set_cons_succ]
            refine take_d (i := 2) (d := some 48) (v := .int .i64 (k : Int)) rfl rfl (by kernel_rfl) (by kernel_rfl) (by kernel_rfl) (fun _ _ _ h => h) (.inl ⟨by rfl, fun W hW => by go_simp⟩) hS ?_
            try simp only [Act.put, List.setIfInBounds_toArray, List.set_cons_zero, List.set_cons_succ]
            refine take_d (i := 3) (d := some 49) (v := .pointer (some (a.add (k * 5)))) rfl rfl (by kernel_rfl) (by kernel_rfl) (by kernel_rfl) (fun _ _ _ h => h) (.inl ⟨by rfl, fun W hW => by have q := hi; go_simp⟩) hS ?_
            try simp only [Act.put, List.setIfInBounds_toArray, List.set_cons_zero, List.set_cons_succ]
            refine take_d (i := 4) (d := some 50) (v := .pointer (some ⟨(a.add (k * 5)).block, (a.add (k * 5)).off + 1, none⟩)) rfl rfl (by kernel_rfl) (by kernel_rfl) (by kernel_rfl) (fun _ _ _ h => h) (.inl ⟨by rfl, fun W hW => by go_simp⟩) hS ?_
            try simp only [Act.put, List.setIfInBounds_toArray, List.set_cons_zero, List.set_cons_succ]
            refine take_d (i := 5) (d := some 51) (v := .int .u32 sp) rfl rfl (by kernel_rfl) (by kernel_rfl) (by kernel_rfl) (fun _ _ _ h => h) (.inl ⟨by rfl, fun W hW => by have q := hW.1; go_simp⟩) hS ?_
            try simp only [Act.put, List.setIfInBounds_toArray, List.set_cons_zero, List.set_cons_succ]
            refine take_d (i := 6) (d := some 52) (v := .slice (some a) xs.length c) rfl rfl (by kernel_rfl) (by kernel_rfl) (by kernel_rfl) (fun _ _ _ h => h) (.inl ⟨by rfl, fun W hW => by go_simp⟩) hS ?_
            try simp only [Act.put, List.setIfInBounds_toArray, List.set_cons_zero, List.set_cons_succ]
            refine take_d (i := 7) (d := some 53) (v := .int .i64 (k : Int)) rfl rfl (by kernel_rfl) (by kernel_rfl) (by kernel_rfl) (fun _ _ _ h => h) (.inl ⟨by rfl, fun W hW => by go_simp⟩) hS ?_
            try simp only [Act.put, List.setIfInBounds_toArray, List.set_cons_zero, List.set_cons_succ]
            refine take_d (i := 8) (d := some 54) (v := .pointer (some (a.add (k * 5)))) rfl rfl (by kernel_rfl) (by kernel_rfl) (by kernel_rfl) (fun _ _ _ h => h) (.inl ⟨by rfl, fun W hW => by have q := hi; go_simp⟩) hS ?_
            try simp only [Act.put, List.setIfInBounds_toArray, List.set_cons_zero, List.set_cons_succ]
            refine take_d (i := 9) (d := some 55) (v := .pointer (some ⟨(a.add (k * 5)).block, (a.add (k * 5)).off + 2, none⟩)) rfl rfl (by kernel_rfl) (by kernel_rfl) (by kernel_rfl) (fun _ _ _ h => h) (.inl ⟨by rfl, fun W hW => by go_simp⟩) hS ?_
            try simp only [Act.put, List.setIfInBounds_toArray, List.set_cons_zero, List.set_cons_succ]
            refine take_d (i := 10) (d := some 56) (v := .int .u32 sf) rfl rfl (by kernel_rfl) (by kernel_rfl) (by kernel_rfl) (fun _ _ _ h => h) (.inl ⟨by rfl, fun W hW => by have q := hW.2.1; go_simp⟩) hS ?_
            try simp only [Act.put, List.setIfInBounds_toArray, List.set_cons_zero, List.set_cons_succ]
            refine take_d (i := 11) (d := some 57) (v := .slice (some a) xs.length c) rfl rfl (by kernel_rfl) (by kernel_rfl) (by kernel_rfl) (fun _ _ _ h => h) (.inl ⟨by rfl, fun W hW => by go_simp⟩) hS ?_
            try simp only [Act.put, List.setIfInBounds_toArray, List.set_cons_zero, List.set_cons_succ]
            refine take_d (i := 12) (d := some 58) (v := .int .i64 (k : Int)) rfl rfl (by kernel_rfl) (by kernel_rfl) (by kernel_rfl) (fun _ _ _ h => h) (.inl ⟨by rfl, fun W hW => by go_simp⟩) hS ?_
            try simp only [Act.put, List.setIfInBounds_toArray, List.set_cons_zero, List.set_cons_succ]
            refine take_d (i := 13) (d := some 59) (v := .pointer (some (a.add (k * 5)))) rfl rfl (by kernel_rfl) (by kernel_rfl) (by kernel_rfl) (fun _ _ _ h => h) (.inl ⟨by rfl, fun W hW => by have q := hi; go_simp⟩) hS ?_
            try simp only [Act.put, List.setIfInBounds_toArray, List.set_cons_zero, List.set_cons_succ]
            refine take_d (i := 14) (d := some 60) (v := .pointer (some ⟨(a.add (k * 5)).block, (a.add (k * 5)).off + 3, none⟩)) rfl rfl (by kernel_rfl) (by kernel_rfl) (by kernel_rfl) (fun _ _ _ h => h) (.inl ⟨by rfl, fun W hW => by go_simp⟩) hS ?_
            try simp only [Act.put, List.setIfInBounds_toArray, List.set_cons_zero, List.set_cons_succ]
            refine take_d (i := 15) (d := some 61) (v := .bool sw) rfl rfl (by kernel_rfl) (by kernel_rfl) (by kernel_rfl) (fun _ _ _ h => h) (.inl ⟨by rfl, fun W hW => by have q := hW.2.2; go_simp⟩) hS ?_
            try simp only [Act.put, List.setIfInBounds_toArray, List.set_cons_zero, List.set_cons_succ]
            refine take_d (i := 16) (d := some 62) (v := .agg #[.bool false, .int .u32 sp, .int .u32 sf, .bool sw]) rfl rfl (by kernel_rfl) (by kernel_rfl) (by kernel_rfl) (fun _ _ _ h => h) (.inl ⟨by rfl, fun W hW => by go_simp⟩) hS ?_
            try simp only [Act.put, List.setIfInBounds_toArray, List.set_cons_zero, List.set_cons_succ]
            refine wpAnyH_all (rs := [17]) (by kernel_rfl) (by simp) (fun i hi => ?_)
            simp only [List.mem_cons, List.not_mem_nil, or_false] at hi
            subst hi
            refine .inl ?_
            go_simp
            refine ((HP.out.after (Below.refl _ _).drew).fill false sp sf sw).mono ?_
            rintro e wc ⟨rfl, hP⟩
            have hS : (fun W => W.cell? ⟨(a.add (k * 5)).block, (a.add (k * 5)).off + 1, none⟩ = some (.int .u32 sp) ∧ W.cell? ⟨(a.add (k * 5)).block, (a.add (k * 5)).off + 2, none⟩ = some (.int .u32 sf) ∧ W.cell? ⟨(a.add (k * 5)).block, (a.add (k * 5)).off + 3, none⟩ = some (.bool sw)) wc := HKD.out _ hP.own.below
            refine ⟨hS, ?_⟩
            try simp only [Act.put, List.setIfInBounds_toArray, List.set_cons_zero, List.set_cons_succ]
            refine wpAnyH_done (by kernel_rfl) ?_ _
            have HP2 := Lib.hid hP
            clear hP hS hK0 HP
            go_wp2
            go_roundw
            case rel => exact ⟨k + 1, _, by omega, by go_num, HP2.out⟩
            case measure => simp [intOf]; omega
          · by_cases e1 : sk = 1
            · subst e1
              go_wp2_with fail
              refine (HP.out.drop sp).mono ?_
              rintro e w2 ⟨rfl, hO⟩
              have HP2 := Lib.hid hO
              clear hO HP
              go_wp2
              go_roundw
              case rel => exact ⟨k + 1, _, by omega, by go_num, HP2.out⟩
              case measure => simp [intOf]; omega
            · go_wp2_with fail
              refine HP.out.flush.mono ?_
              rintro e w2 ⟨rfl, hO⟩
              have HP2 := Lib.hid hO
              clear hO HP
              go_wp2
              go_roundw
              case rel => exact ⟨k + 1, _, by omega, by go_num, HP2.out⟩
              case measure => simp [intOf]; omega
        · obtain rfl : k = xs.length := by omega
          have hlt' : ¬ ((xs.length : Nat) : Int) < (xs.length : Int) := by omega
          go_wp2_with fail
          refine (HP.out.drop p).mono ?_
          rintro e w2 ⟨rfl, hO⟩
          have HP2 := Lib.hid hO
          have HL0 := Lib.hid (las_start HP.out.ok HP.out.uni p f)
          clear hO HP
          go_wp2_with fail
          refine (HP2.out.fill false p f true).mono ?_
          rintro e w3 ⟨rfl, hO⟩
          have HO3 := Lib.hid hO.own
          clear hO HP2 H0
          generalize (t.drp p).fil p f true = t3 at HL0 HO3
          go_wp2
          go_loopw [11] (fun q wr => ∃ (k : Nat) (t : Tl), k ≤ more.length ∧ k ≤ 3 ∧ q = .int .i64 (k : Int) ∧ Hid (Own w w.heap.size t wr) ∧ Hid (Las p f k t)) (fun q _ => 4 - (intOf q).toNat)
          case atStart => exact ⟨0, t3, by omega, by omega, rfl, HO3.out, HL0.out⟩
          case round =>
            clear HO3 HL0
            obtain ⟨k, t, hk, hk3, rfl, HO, HL⟩ := hrel
            by_cases hlt2 : k < more.length
            · have hi : (k : Int) < (more.length : Int) := by omega
              by_cases hl3 : k < 3
              · have hi3 : (k : Int) < 3 := by omega
                obtain ⟨a, rfl, hca⟩ := HC.out k hlt2
                have hcw := keep_cell HO.out.below hca
                clear hca
                generalize at0 more k = q at hcw
                by_cases hq : q = p
                · go_wp2
                  go_roundw
                  case rel => exact ⟨k + 1, t, by omega, by omega, by go_num, HO.out, HL.out.more⟩
                  case measure => simp [intOf]; omega
                · have HLS := Lib.hid (las_step HL.out hl3 q 1 false hq)
                  go_wp2_with fail
                  refine (HO.out.fill HL.out.ok false q 1 false).mono ?_
                  rintro e w5 ⟨rfl, hO⟩
                  have HO5 := Lib.hid hO
                  clear hO HO HL
                  go_wp2
                  go_roundw
                  case rel => exact ⟨k + 1, _, by omega, by omega, by go_num, HO5.out, HLS.out⟩
                  case measure => simp [intOf]; omega
              · have hi3 : ¬ (k : Int) < 3 := by omega
                go_wp2_with fail
                refine (Look_any HO.out.at_ p).mono ?_
                rintro e w5 ⟨rfl, hb⟩
                obtain ⟨hlB, hlE⟩ := las_look HL.out
                rw [hlB, hlE]
                have hO6 := (HO.out.after hb).after ((Below.refl _ _).alloc (Nat.le_refl _) (.cells #[.bool true, .int .u32 p, .int .u32 f, .bool true] 27))
                have HG6 := Lib.hid (show Og w w.heap.size t (w5.alloc (.cells #[.bool true, .int .u32 p, .int .u32 f, .bool true] 27)) from ⟨hO6, HL.out.ok, HL.out.uni⟩)
                have hne := neqE ⟨true, p, f, true⟩
                simp only at hne
                clear hb hlB hlE hO6 HO HL
                generalize t.lkI p = li
                go_wp2
                clear hne
                generalize w5.alloc (.cells #[.bool true, .int .u32 p, .int .u32 f, .bool true] 27) = w6 at HG6 ⊢
                go_loopw [15] (fun q wr => ∃ (m : Nat) (t : Tl), 3 ≤ m ∧ (m ≤ 3 ∨ m ≤ more.length) ∧ q = .int .i64 (m : Int) ∧ Hid (Og w w.heap.size t wr)) (fun q _ => more.length + 4 - (intOf q).toNat)
                case atStart => exact ⟨3, t, by omega, by omega, rfl, HG6.out⟩
                case round =>
                  clear HG6
                  obtain ⟨m, t4, hm3', hm4, rfl, HG⟩ := hrel
                  by_cases hlm : m < more.length
                  · have him : (m : Int) < (more.length : Int) := by omega
                    obtain ⟨a, hoa, hca⟩ := HC.out m hlm
                    subst hoa
                    have hcw := keep_cell HG.out.own.below hca
                    clear hca
                    generalize at0 more m = q at hcw
                    go_wp2_with fail
                    refine (HG.out.fill false q 1 false).mono ?_
                    rintro e w7 ⟨rfl, hO⟩
                    have HG7 := Lib.hid hO
                    clear hO HG
                    go_wp2
                    go_roundw
                    case rel => exact ⟨m + 1, _, by omega, by omega, by go_num, HG7.out⟩
                    case measure => simp [intOf]; omega
                  · have him : ¬ (m : Int) < (more.length : Int) := by omega
                    go_wp2_with fail
                    refine (All_any HG.out.own.at_).mono ?_
                    rintro e w8 ⟨g, cc, rfl, hr, hgl, hcc, hb⟩
                    have HR := Lib.hid hr
                    have HB := Lib.hid (HG.out.own.after hb).below
                    have HU := Lib.hid HG.out.uni
                    clear hr hb HG
                    go_wp2
                    go_loopw [17] (fun q wr => ∃ i : Nat, i ≤ 4 ∧ q = .int .i64 (i : Int) ∧ Hid (Row4 wr g t4) ∧ Hid (Below w.heap.size w wr)) (fun q _ => 5 - (intOf q).toNat)
                    case atStart => exact ⟨0, by omega, rfl, HR.out, HB.out⟩
                    case round =>
                      clear HR HB
                      obtain ⟨i, hi4, rfl, HR, HB⟩ := hrel
                      by_cases hil : i < 4
                      · have hii : (i : Int) < 4 := by omega
                        go_wp2
                        go_loopw [18] (fun q wr => ∃ j : Nat, j ≤ i ∧ q = .int .i64 (j : Int) ∧ Hid (Row4 wr g t4) ∧ Hid (Below w.heap.size w wr)) (fun q _ => i + 1 - (intOf q).toNat)
                        case atStart => exact ⟨0, by omega, rfl, HR.out, HB.out⟩
                        case round =>
                          clear HR HB
                          obtain ⟨j, hji, rfl, HR, HB⟩ := hrel
                          by_cases hjl : j < i
                          · have hjj : (j : Int) < (i : Int) := by omega
                            have hj4 : (j : Int) < 4 := by omega
                            have hu : (t4.g i).th = true → (t4.g j).th = true → (t4.g i).pg = (t4.g j).pg → False := fun h1 h2 h3 => by have := HU.out i j hil (by omega) h1 h2 h3; omega
                            obtain ⟨x0, x1, x2, x3⟩ := HR.out.cells hil
                            obtain ⟨y0, y1, y2, y3⟩ := HR.out.cells (show j < 4 by omega)
                            have hrw : wr.drew.rangeAt g (i * 4) (cE (t4.g i)) ∧ wr.drew.rangeAt g (j * 4) (cE (t4.g j)) := ⟨(HR.out.below (Below.refl _ _).drew).ent hil, (HR.out.below (Below.refl _ _).drew).ent (by omega)⟩
                            generalize t4.g i = ei at hu x0 x1 x2 x3 hrw
                            generalize t4.g j = ej at hu y0 y1 y2 y3 hrw
                            obtain ⟨i0, i1, i2, i3⟩ := ei
                            obtain ⟨j0, j1, j2, j3⟩ := ej
                            simp only at hu x0 x1 x2 x3 y0 y1 y2 y3
                            have hr34 : ∀ W, Below wr.heap.size wr W → Row4 W g t4 ∧ Below w.heap.size w W := fun W hb => ⟨HR.out.below hb, HB.out.trans (hb.mono HB.out.size)⟩
                            have HR34 := Lib.hid hr34
                            have hgl4 := HR.out.lt
                            have hK0 : (fun W => W.rangeAt g (i * 4) (cE ⟨i0, i1, i2, i3⟩) ∧ W.rangeAt g (j * 4) (cE ⟨j0, j1, j2, j3⟩)) wr.drew := hrw
                            have hT := two_blocks wr.drew
                            have HBD := Lib.hid ((Below.refl wr.heap.size wr).drew)
                            clear hr34 HR HB x0 x1 x2 x3 y0 y1 y2 y3 hrw
                            go_wp2
                            refine wp_region_held_drew (S := (fun W => W.rangeAt g (i * 4) (cE ⟨i0, i1, i2, i3⟩) ∧ W.rangeAt g (j * 4) (cE ⟨j0, j1, j2, j3⟩))) (by kernel_rfl) hK0 (fun _ => ?_)
                            have hS := hK0
                            refine take_d (i := 0) (d := some 146) (v := .slice (some ⟨g, 0, none⟩) 4 cc) rfl rfl (by kernel_rfl) (by kernel_rfl) (by kernel_rfl) (fun _ _ _ h => h) (.inl ⟨by rfl, fun W hW => by go_simp⟩) hS ?_
                            try simp only [Act.put, List.setIfInBounds_toArray, List.set_cons_zero, List.set_cons_succ]
                            refine take_d (i := 1) (d := some 147) (v := .int .i64 (i : Int)) rfl rfl (by kernel_rfl) (by kernel_rfl) (by kernel_rfl) (fun _ _ _ h => h) (.inl ⟨by rfl, fun W hW => by go_simp⟩) hS ?_
                            try simp only [Act.put, List.setIfInBounds_toArray, List.set_cons_zero, List.set_cons_succ]
                            refine take_d (i := 2) (d := some 148) (v := .pointer (some ⟨g, i * 4, none⟩)) rfl rfl (by kernel_rfl) (by kernel_rfl) (by kernel_rfl) (fun _ _ _ h => h) (.inl ⟨by rfl, fun W hW => by have q := hii; go_simp⟩) hS ?_
                            try simp only [Act.put, List.setIfInBounds_toArray, List.set_cons_zero, List.set_cons_succ]
                            refine take_d (i := 3) (d := some 149) (v := .agg #[.bool i0, .int .u32 i1, .int .u32 i2, .bool i3]) rfl rfl (by kernel_rfl) (by kernel_rfl) (by kernel_rfl) (fun _ _ _ h => h) (y_E (e := ⟨i0, i1, i2, i3⟩) (by kernel_rfl) rfl rfl (fun W hW => hW.1)) hS ?_
                            try simp only [Act.put, List.setIfInBounds_toArray, List.set_cons_zero, List.set_cons_succ]
                            refine take_d (i := 4) (d := some 150) (v := .slice (some ⟨g, 0, none⟩) 4 cc) rfl rfl (by kernel_rfl) (by kernel_rfl) (by kernel_rfl) (fun _ _ _ h => h) (.inl ⟨by rfl, fun W hW => by go_simp⟩) hS ?_
                            try simp only [Act.put, List.setIfInBounds_toArray, List.set_cons_zero, List.set_cons_succ]
                            refine take_d (i := 5) (d := some 151) (v := .int .i64 (j : Int)) rfl rfl (by kernel_rfl) (by kernel_rfl) (by kernel_rfl) (fun _ _ _ h => h) (.inl ⟨by rfl, fun W hW => by go_simp⟩) hS ?_
                            try simp only [Act.put, List.setIfInBounds_toArray, List.set_cons_zero, List.set_cons_succ]
                            refine take_d (i := 6) (d := some 152) (v := .pointer (some ⟨g, j * 4, none⟩)) rfl rfl (by kernel_rfl) (by kernel_rfl) (by kernel_rfl) (fun _ _ _ h => h) (.inl ⟨by rfl, fun W hW => by have q := hj4; go_simp⟩) hS ?_
                            try simp only [Act.put, List.setIfInBounds_toArray, List.set_cons_zero, List.set_cons_succ]
                            refine take_d (i := 7) (d := some 153) (v := .agg #[.bool j0, .int .u32 j1, .int .u32 j2, .bool j3]) rfl rfl (by kernel_rfl) (by kernel_rfl) (by kernel_rfl) (fun _ _ _ h => h) (y_E (e := ⟨j0, j1, j2, j3⟩) (by kernel_rfl) rfl rfl (fun W hW => hW.2)) hS ?_
                            try simp only [Act.put, List.setIfInBounds_toArray, List.set_cons_zero, List.set_cons_succ]
                            refine wpAnyH_all (rs := [8, 9]) (by kernel_rfl) (by simp) (fun i hi => ?_)
                            simp only [List.mem_cons, List.not_mem_nil, or_false] at hi
                            rcases hi with rfl | rfl
                            · refine .inl ?_
                              refine o_alloc_E rfl ?_
                              have hS : (fun W => W.rangeAt g (i * 4) (cE ⟨i0, i1, i2, i3⟩) ∧ W.rangeAt g (j * 4) (cE ⟨j0, j1, j2, j3⟩)) (wr.drew.alloc (.cells (cE E0).toArray 27)) := ⟨World.rangeAt_alloc hS.1 _, World.rangeAt_alloc hS.2 _⟩
                              refine ⟨hS, ?_⟩
                              try simp only [Act.put, List.setIfInBounds_toArray, List.set_cons_zero, List.set_cons_succ]
                              refine wpAnyH_all (rs := [9]) (by kernel_rfl) (by simp) (fun i hi => ?_)
                              simp only [List.mem_cons, List.not_mem_nil, or_false] at hi
                              subst hi
                              refine .inl ?_
                              refine o_alloc_E rfl ?_
                              have hS : (fun W => W.rangeAt g (i * 4) (cE ⟨i0, i1, i2, i3⟩) ∧ W.rangeAt g (j * 4) (cE ⟨j0, j1, j2, j3⟩)) ((wr.drew.alloc (.cells (cE E0).toArray 27)).alloc (.cells (cE E0).toArray 27)) := ⟨World.rangeAt_alloc hS.1 _, World.rangeAt_alloc hS.2 _⟩
                              refine ⟨hS, ?_⟩
                              simp only [World.size_alloc]
                              try simp only [Act.put, List.setIfInBounds_toArray, List.set_cons_zero, List.set_cons_succ]
                              refine wpAnyH_all (rs := [10]) (by kernel_rfl) (by simp) (fun i hi => ?_)
                              simp only [List.mem_cons, List.not_mem_nil, or_false] at hi
                              subst hi
                              refine .inl ?_
                              refine o_store_E ⟨i0, i1, i2, i3⟩ (b := wr.drew.heap.size) hT.1 rfl rfl rfl ?_
                              have hS : (fun W => W.rangeAt g (i * 4) (cE ⟨i0, i1, i2, i3⟩) ∧ W.rangeAt g (j * 4) (cE ⟨j0, j1, j2, j3⟩)) (((wr.drew.alloc (.cells (cE E0).toArray 27)).alloc (.cells (cE E0).toArray 27)).setRow wr.drew.heap.size (cE ⟨i0, i1, i2, i3⟩).toArray) := ⟨range_setRow hS.1 (by have := hgl4; show g ≠ _; simp only [heap_drew]; omega) _, range_setRow hS.2 (by have := hgl4; show g ≠ _; simp only [heap_drew]; omega) _⟩
                              refine ⟨hS, ?_⟩
                              try simp only [Act.put, List.setIfInBounds_toArray, List.set_cons_zero, List.set_cons_succ]
                              refine wpAnyH_all (rs := [11]) (by kernel_rfl) (by simp) (fun i hi => ?_)
                              simp only [List.mem_cons, List.not_mem_nil, or_false] at hi
                              subst hi
                              refine .inl ?_
                              refine o_store_E ⟨j0, j1, j2, j3⟩ (b := (wr.drew.heap.size + 1)) (hT.2.1.setOther (by omega) _) rfl rfl rfl ?_
                              have hS : (fun W => W.rangeAt g (i * 4) (cE ⟨i0, i1, i2, i3⟩) ∧ W.rangeAt g (j * 4) (cE ⟨j0, j1, j2, j3⟩)) ((((wr.drew.alloc (.cells (cE E0).toArray 27)).alloc (.cells (cE E0).toArray 27)).setRow wr.drew.heap.size (cE ⟨i0, i1, i2, i3⟩).toArray).setRow (wr.drew.heap.size + 1) (cE ⟨j0, j1, j2, j3⟩).toArray) := ⟨range_setRow hS.1 (by have := hgl4; show g ≠ _; simp only [heap_drew]; omega) _, range_setRow hS.2 (by have := hgl4; show g ≠ _; simp only [heap_drew]; omega) _⟩
                              refine ⟨hS, ?_⟩
                              try simp only [Act.put, List.setIfInBounds_toArray, List.set_cons_zero, List.set_cons_succ]
                              refine wpAnyH_done (by kernel_rfl) ?_ _
                              have hbi : Blk ((((wr.drew.alloc (.cells (cE E0).toArray 27)).alloc (.cells (cE E0).toArray 27)).setRow wr.drew.heap.size (cE ⟨i0, i1, i2, i3⟩).toArray).setRow (wr.drew.heap.size + 1) (cE ⟨j0, j1, j2, j3⟩).toArray) wr.drew.heap.size (cE ⟨i0, i1, i2, i3⟩).toArray 27 := (hT.1.set _).setOther (by omega) _
                              have hbj : Blk ((((wr.drew.alloc (.cells (cE E0).toArray 27)).alloc (.cells (cE E0).toArray 27)).setRow wr.drew.heap.size (cE ⟨i0, i1, i2, i3⟩).toArray).setRow (wr.drew.heap.size + 1) (cE ⟨j0, j1, j2, j3⟩).toArray) (wr.drew.heap.size + 1) (cE ⟨j0, j1, j2, j3⟩).toArray 27 := (Blk.setOther hT.2.1 (by omega) _).set _
                              have hbl := below_setRow (below_setRow (HBD.out.trans (hT.2.2.mono (Nat.le_refl _))) (show wr.heap.size ≤ wr.drew.heap.size by simp only [heap_drew]; omega) (cE ⟨i0, i1, i2, i3⟩).toArray) (show wr.heap.size ≤ (wr.drew.heap.size + 1) by simp only [heap_drew]; omega) (cE ⟨j0, j1, j2, j3⟩).toArray
                              generalize ((((wr.drew.alloc (.cells (cE E0).toArray 27)).alloc (.cells (cE E0).toArray 27)).setRow wr.drew.heap.size (cE ⟨i0, i1, i2, i3⟩).toArray).setRow (wr.drew.heap.size + 1) (cE ⟨j0, j1, j2, j3⟩).toArray) = W9 at hbi hbj hbl ⊢
                              have HRB := Lib.hid (HR34.out W9 hbl)
                              have z0 := hbi.cell 0
                              have z1 := hbi.cell 1
                              have z2 := hbj.cell 0
                              have z3 := hbj.cell 1
                              simp only [cE, List.getElem?_toArray, List.getElem?_cons_zero, List.getElem?_cons_succ, heap_drew] at z0 z1 z2 z3
                              clear hbi hbj hbl hS hK0 hT HR34 HBD
                              cases i0 with
                              | false =>
                                go_wp2
                                go_roundw
                                case rel => exact ⟨j + 1, by omega, by go_num, HRB.out.1, HRB.out.2⟩
                                case measure => simp [intOf]; omega
                              | true =>
                                cases j0 with
                                | false =>
                                  go_wp2
                                  go_roundw
                                  case rel => exact ⟨j + 1, by omega, by go_num, HRB.out.1, HRB.out.2⟩
                                  case measure => simp [intOf]; omega
                                | true =>
                                  have hne : ¬ i1 = j1 := fun e => hu rfl rfl e
                                  clear hu
                                  go_wp2
                                  go_roundw
                                  case rel => exact ⟨j + 1, by omega, by go_num, HRB.out.1, HRB.out.2⟩
                                  case measure => simp [intOf]; omega
                            · refine .inl ?_
                              refine o_alloc_E rfl ?_
                              have hS : (fun W => W.rangeAt g (i * 4) (cE ⟨i0, i1, i2, i3⟩) ∧ W.rangeAt g (j * 4) (cE ⟨j0, j1, j2, j3⟩)) (wr.drew.alloc (.cells (cE E0).toArray 27)) := ⟨World.rangeAt_alloc hS.1 _, World.rangeAt_alloc hS.2 _⟩
                              refine ⟨hS, ?_⟩
                              try simp only [Act.put, List.setIfInBounds_toArray, List.set_cons_zero, List.set_cons_succ]
                              refine wpAnyH_all (rs := [8]) (by kernel_rfl) (by simp) (fun i hi => ?_)
                              simp only [List.mem_cons, List.not_mem_nil, or_false] at hi
                              subst hi
                              refine .inl ?_
                              refine o_alloc_E rfl ?_
                              have hS : (fun W => W.rangeAt g (i * 4) (cE ⟨i0, i1, i2, i3⟩) ∧ W.rangeAt g (j * 4) (cE ⟨j0, j1, j2, j3⟩)) ((wr.drew.alloc (.cells (cE E0).toArray 27)).alloc (.cells (cE E0).toArray 27)) := ⟨World.rangeAt_alloc hS.1 _, World.rangeAt_alloc hS.2 _⟩
                              refine ⟨hS, ?_⟩
                              simp only [World.size_alloc]
                              try simp only [Act.put, List.setIfInBounds_toArray, List.set_cons_zero, List.set_cons_succ]
                              refine wpAnyH_all (rs := [10]) (by kernel_rfl) (by simp) (fun i hi => ?_)
                              simp only [List.mem_cons, List.not_mem_nil, or_false] at hi
                              subst hi
                              refine .inl ?_
                              refine o_store_E ⟨i0, i1, i2, i3⟩ (b := (wr.drew.heap.size + 1)) hT.2.1 rfl rfl rfl ?_
                              have hS : (fun W => W.rangeAt g (i * 4) (cE ⟨i0, i1, i2, i3⟩) ∧ W.rangeAt g (j * 4) (cE ⟨j0, j1, j2, j3⟩)) (((wr.drew.alloc (.cells (cE E0).toArray 27)).alloc (.cells (cE E0).toArray 27)).setRow (wr.drew.heap.size + 1) (cE ⟨i0, i1, i2, i3⟩).toArray) := ⟨range_setRow hS.1 (by have := hgl4; show g ≠ _; simp only [heap_drew]; omega) _, range_setRow hS.2 (by have := hgl4; show g ≠ _; simp only [heap_drew]; omega) _⟩
                              refine ⟨hS, ?_⟩
                              try simp only [Act.put, List.setIfInBounds_toArray, List.set_cons_zero, List.set_cons_succ]
                              refine wpAnyH_all (rs := [11]) (by kernel_rfl) (by simp) (fun i hi => ?_)
                              simp only [List.mem_cons, List.not_mem_nil, or_false] at hi
                              subst hi
                              refine .inl ?_
                              refine o_store_E ⟨j0, j1, j2, j3⟩ (b := wr.drew.heap.size) (hT.1.setOther (by omega) _) rfl rfl rfl ?_
                              have hS : (fun W => W.rangeAt g (i * 4) (cE ⟨i0, i1, i2, i3⟩) ∧ W.rangeAt g (j * 4) (cE ⟨j0, j1, j2, j3⟩)) ((((wr.drew.alloc (.cells (cE E0).toArray 27)).alloc (.cells (cE E0).toArray 27)).setRow (wr.drew.heap.size + 1) (cE ⟨i0, i1, i2, i3⟩).toArray).setRow wr.drew.heap.size (cE ⟨j0, j1, j2, j3⟩).toArray) := ⟨range_setRow hS.1 (by have := hgl4; show g ≠ _; simp only [heap_drew]; omega) _, range_setRow hS.2 (by have := hgl4; show g ≠ _; simp only [heap_drew]; omega) _⟩
                              refine ⟨hS, ?_⟩
                              try simp only [Act.put, List.setIfInBounds_toArray, List.set_cons_zero, List.set_cons_succ]
                              refine wpAnyH_done (by kernel_rfl) ?_ _
                              have hbi : Blk ((((wr.drew.alloc (.cells (cE E0).toArray 27)).alloc (.cells (cE E0).toArray 27)).setRow (wr.drew.heap.size + 1) (cE ⟨i0, i1, i2, i3⟩).toArray).setRow wr.drew.heap.size (cE ⟨j0, j1, j2, j3⟩).toArray) (wr.drew.heap.size + 1) (cE ⟨i0, i1, i2, i3⟩).toArray 27 := (hT.2.1.set _).setOther (by omega) _
                              have hbj : Blk ((((wr.drew.alloc (.cells (cE E0).toArray 27)).alloc (.cells (cE E0).toArray 27)).setRow (wr.drew.heap.size + 1) (cE ⟨i0, i1, i2, i3⟩).toArray).setRow wr.drew.heap.size (cE ⟨j0, j1, j2, j3⟩).toArray) wr.drew.heap.size (cE ⟨j0, j1, j2, j3⟩).toArray 27 := (Blk.setOther hT.1 (by omega) _).set _
                              have hbl := below_setRow (below_setRow (HBD.out.trans (hT.2.2.mono (Nat.le_refl _))) (show wr.heap.size ≤ (wr.drew.heap.size + 1) by simp only [heap_drew]; omega) (cE ⟨i0, i1, i2, i3⟩).toArray) (show wr.heap.size ≤ wr.drew.heap.size by simp only [heap_drew]; omega) (cE ⟨j0, j1, j2, j3⟩).toArray
                              generalize ((((wr.drew.alloc (.cells (cE E0).toArray 27)).alloc (.cells (cE E0).toArray 27)).setRow (wr.drew.heap.size + 1) (cE ⟨i0, i1, i2, i3⟩).toArray).setRow wr.drew.heap.size (cE ⟨j0, j1, j2, j3⟩).toArray) = W9 at hbi hbj hbl ⊢
                              have HRB := Lib.hid (HR34.out W9 hbl)
                              have z0 := hbi.cell 0
                              have z1 := hbi.cell 1
                              have z2 := hbj.cell 0
                              have z3 := hbj.cell 1
                              simp only [cE, List.getElem?_toArray, List.getElem?_cons_zero, List.getElem?_cons_succ, heap_drew] at z0 z1 z2 z3
                              clear hbi hbj hbl hS hK0 hT HR34 HBD
                              cases i0 with
                              | false =>
                                go_wp2
                                go_roundw
                                case rel => exact ⟨j + 1, by omega, by go_num, HRB.out.1, HRB.out.2⟩
                                case measure => simp [intOf]; omega
                              | true =>
                                cases j0 with
                                | false =>
                                  go_wp2
                                  go_roundw
                                  case rel => exact ⟨j + 1, by omega, by go_num, HRB.out.1, HRB.out.2⟩
                                  case measure => simp [intOf]; omega
                                | true =>
                                  have hne : ¬ i1 = j1 := fun e => hu rfl rfl e
                                  clear hu
                                  go_wp2
                                  go_roundw
                                  case rel => exact ⟨j + 1, by omega, by go_num, HRB.out.1, HRB.out.2⟩
                                  case measure => simp [intOf]; omega
                          · obtain rfl : j = i := by omega
                            go_wp2
                            go_roundw
                            case rel => exact ⟨j + 1, by omega, by go_num, HR.out, HB.out⟩
                            case measure => simp [intOf]; omega
                      · obtain rfl : i = 4 := by omega
                        go_wp2_with fail
                        refine (works_any _).mono ?_
                        rintro e w9 ⟨rfl, hb⟩
                        have HB9 := Lib.hid (HB.out.trans (hb.mono HB.out.size))
                        clear hb HB
                        go_wp2
                        go_ret
                        exact ⟨rfl, HB9.out⟩
            · have hi : ¬ (k : Int) < (more.length : Int) := by omega
              go_wp2_with fail
              refine (Look_any HO.out.at_ p).mono ?_
              rintro e w5 ⟨rfl, hb⟩
              obtain ⟨hlB, hlE⟩ := las_look HL.out
              rw [hlB, hlE]
              have hO6 := (HO.out.after hb).after ((Below.refl _ _).alloc (Nat.le_refl _) (.cells #[.bool true, .int .u32 p, .int .u32 f, .bool true] 27))
              have HG6 := Lib.hid (show Og w w.heap.size t (w5.alloc (.cells #[.bool true, .int .u32 p, .int .u32 f, .bool true] 27)) from ⟨hO6, HL.out.ok, HL.out.uni⟩)
              have hne := neqE ⟨true, p, f, true⟩
              simp only at hne
              clear hb hlB hlE hO6 HO HL
              generalize t.lkI p = li
              go_wp2
              clear hne
              generalize w5.alloc (.cells #[.bool true, .int .u32 p, .int .u32 f, .bool true] 27) = w6 at HG6 ⊢
              go_loopw [15] (fun q wr => ∃ (m : Nat) (t : Tl), 3 ≤ m ∧ (m ≤ 3 ∨ m ≤ more.length) ∧ q = .int .i64 (m : Int) ∧ Hid (Og w w.heap.size t wr)) (fun q _ => more.length + 4 - (intOf q).toNat)
              case atStart => exact ⟨3, t, by omega, by omega, rfl, HG6.out⟩
              case round =>
                clear HG6
                obtain ⟨m, t4, hm3', hm4, rfl, HG⟩ := hrel
                by_cases hlm : m < more.length
                · exact absurd hlm (by omega)
                · have him : ¬ (m : Int) < (more.length : Int) := by omega
                  go_wp2_with fail
                  refine (All_any HG.out.own.at_).mono ?_
                  rintro e w8 ⟨g, cc, rfl, hr, hgl, hcc, hb⟩
                  have HR := Lib.hid hr
                  have HB := Lib.hid (HG.out.own.after hb).below
                  have HU := Lib.hid HG.out.uni
                  clear hr hb HG
                  go_wp2
                  go_loopw [17] (fun q wr => ∃ i : Nat, i ≤ 4 ∧ q = .int .i64 (i : Int) ∧ Hid (Row4 wr g t4) ∧ Hid (Below w.heap.size w wr)) (fun q _ => 5 - (intOf q).toNat)
                  case atStart => exact ⟨0, by omega, rfl, HR.out, HB.out⟩
                  case round =>
                    clear HR HB
                    obtain ⟨i, hi4, rfl, HR, HB⟩ := hrel
                    by_cases hil : i < 4
                    · have hii : (i : Int) < 4 := by omega
                      go_wp2
                      go_loopw [18] (fun q wr => ∃ j : Nat, j ≤ i ∧ q = .int .i64 (j : Int) ∧ Hid (Row4 wr g t4) ∧ Hid (Below w.heap.size w wr)) (fun q _ => i + 1 - (intOf q).toNat)
                      case atStart => exact ⟨0, by omega, rfl, HR.out, HB.out⟩
                      case round =>
                        clear HR HB
                        obtain ⟨j, hji, rfl, HR, HB⟩ := hrel
                        by_cases hjl : j < i
                        · have hjj : (j : Int) < (i : Int) := by omega
                          have hj4 : (j : Int) < 4 := by omega
                          have hu : (t4.g i).th = true → (t4.g j).th = true → (t4.g i).pg = (t4.g j).pg → False := fun h1 h2 h3 => by have := HU.out i j hil (by omega) h1 h2 h3; omega
                          obtain ⟨x0, x1, x2, x3⟩ := HR.out.cells hil
                          obtain ⟨y0, y1, y2, y3⟩ := HR.out.cells (show j < 4 by omega)
                          have hrw : wr.drew.rangeAt g (i * 4) (cE (t4.g i)) ∧ wr.drew.rangeAt g (j * 4) (cE (t4.g j)) := ⟨(HR.out.below (Below.refl _ _).drew).ent hil, (HR.out.below (Below.refl _ _).drew).ent (by omega)⟩
                          generalize t4.g i = ei at hu x0 x1 x2 x3 hrw
                          generalize t4.g j = ej at hu y0 y1 y2 y3 hrw
                          obtain ⟨i0, i1, i2, i3⟩ := ei
                          obtain ⟨j0, j1, j2, j3⟩ := ej
                          simp only at hu x0 x1 x2 x3 y0 y1 y2 y3
                          have hr34 : ∀ W, Below wr.heap.size wr W → Row4 W g t4 ∧ Below w.heap.size w W := fun W hb => ⟨HR.out.below hb, HB.out.trans (hb.mono HB.out.size)⟩
                          have HR34 := Lib.hid hr34
                          have hgl4 := HR.out.lt
                          have hK0 : (fun W => W.rangeAt g (i * 4) (cE ⟨i0, i1, i2, i3⟩) ∧ W.rangeAt g (j * 4) (cE ⟨j0, j1, j2, j3⟩)) wr.drew := hrw
                          have hT := two_blocks wr.drew
                          have HBD := Lib.hid ((Below.refl wr.heap.size wr).drew)
                          clear hr34 HR HB x0 x1 x2 x3 y0 y1 y2 y3 hrw
                          go_wp2
                          refine wp_region_held_drew (S := (fun W => W.rangeAt g (i * 4) (cE ⟨i0, i1, i2, i3⟩) ∧ W.rangeAt g (j * 4) (cE ⟨j0, j1, j2, j3⟩))) (by kernel_rfl) hK0 (fun _ => ?_)
                          have hS := hK0
                          refine take_d (i := 0) (d := some 146) (v := .slice (some ⟨g, 0, none⟩) 4 cc) rfl rfl (by kernel_rfl) (by kernel_rfl) (by kernel_rfl) (fun _ _ _ h => h) (.inl ⟨by rfl, fun W hW => by go_simp⟩) hS ?_
                          try simp only [Act.put, List.setIfInBounds_toArray, List.set_cons_zero, List.set_cons_succ]
                          refine take_d (i := 1) (d := some 147) (v := .int .i64 (i : Int)) rfl rfl (by kernel_rfl) (by kernel_rfl) (by kernel_rfl) (fun _ _ _ h => h) (.inl ⟨by rfl, fun W hW => by go_simp⟩) hS ?_
                          try simp only [Act.put, List.setIfInBounds_toArray, List.set_cons_zero, List.set_cons_succ]
                          refine take_d (i := 2) (d := some 148) (v := .pointer (some ⟨g, i * 4, none⟩)) rfl rfl (by kernel_rfl) (by kernel_rfl) (by kernel_rfl) (fun _ _ _ h => h) (.inl ⟨by rfl, fun W hW => by have q := hii; go_simp⟩) hS ?_
                          try simp only [Act.put, List.setIfInBounds_toArray, List.set_cons_zero, List.set_cons_succ]
                          refine take_d (i := 3) (d := some 149) (v := .agg #[.bool i0, .int .u32 i1, .int .u32 i2, .bool i3]) rfl rfl (by kernel_rfl) (by kernel_rfl) (by kernel_rfl) (fun _ _ _ h => h) (y_E (e := ⟨i0, i1, i2, i3⟩) (by kernel_rfl) rfl rfl (fun W hW => hW.1)) hS ?_
                          try simp only [Act.put, List.setIfInBounds_toArray, List.set_cons_zero, List.set_cons_succ]
                          refine take_d (i := 4) (d := some 150) (v := .slice (some ⟨g, 0, none⟩) 4 cc) rfl rfl (by kernel_rfl) (by kernel_rfl) (by kernel_rfl) (fun _ _ _ h => h) (.inl ⟨by rfl, fun W hW => by go_simp⟩) hS ?_
                          try simp only [Act.put, List.setIfInBounds_toArray, List.set_cons_zero, List.set_cons_succ]
                          refine take_d (i := 5) (d := some 151) (v := .int .i64 (j : Int)) rfl rfl (by kernel_rfl) (by kernel_rfl) (by kernel_rfl) (fun _ _ _ h => h) (.inl ⟨by rfl, fun W hW => by go_simp⟩) hS ?_
                          try simp only [Act.put, List.setIfInBounds_toArray, List.set_cons_zero, List.set_cons_succ]
                          refine take_d (i := 6) (d := some 152) (v := .pointer (some ⟨g, j * 4, none⟩)) rfl rfl (by kernel_rfl) (by kernel_rfl) (by kernel_rfl) (fun _ _ _ h => h) (.inl ⟨by rfl, fun W hW => by have q := hj4; go_simp⟩) hS ?_
                          try simp only [Act.put, List.setIfInBounds_toArray, List.set_cons_zero, List.set_cons_succ]
                          refine take_d (i := 7) (d := some 153) (v := .agg #[.bool j0, .int .u32 j1, .int .u32 j2, .bool j3]) rfl rfl (by kernel_rfl) (by kernel_rfl) (by kernel_rfl) (fun _ _ _ h => h) (y_E (e := ⟨j0, j1, j2, j3⟩) (by kernel_rfl) rfl rfl (fun W hW => hW.2)) hS ?_
                          try simp only [Act.put, List.setIfInBounds_toArray, List.set_cons_zero, List.set_cons_succ]
                          refine wpAnyH_all (rs := [8, 9]) (by kernel_rfl) (by simp) (fun i hi => ?_)
                          simp only [List.mem_cons, List.not_mem_nil, or_false] at hi
                          rcases hi with rfl | rfl
                          · refine .inl ?_
                            refine o_alloc_E rfl ?_
                            have hS : (fun W => W.rangeAt g (i * 4) (cE ⟨i0, i1, i2, i3⟩) ∧ W.rangeAt g (j * 4) (cE ⟨j0, j1, j2, j3⟩)) (wr.drew.alloc (.cells (cE E0).toArray 27)) := ⟨World.rangeAt_alloc hS.1 _, World.rangeAt_alloc hS.2 _⟩
                            refine ⟨hS, ?_⟩
                            try simp only [Act.put, List.setIfInBounds_toArray, List.set_cons_zero, List.set_cons_succ]
                            refine wpAnyH_all (rs := [9]) (by kernel_rfl) (by simp) (fun i hi => ?_)
                            simp only [List.mem_cons, List.not_mem_nil, or_false] at hi
                            subst hi
                            refine .inl ?_
                            refine o_alloc_E rfl ?_
                            have hS : (fun W => W.rangeAt g (i * 4) (cE ⟨i0, i1, i2, i3⟩) ∧ W.rangeAt g (j * 4) (cE ⟨j0, j1, j2, j3⟩)) ((wr.drew.alloc (.cells (cE E0).toArray 27)).alloc (.cells (cE E0).toArray 27)) := ⟨World.rangeAt_alloc hS.1 _, World.rangeAt_alloc hS.2 _⟩
                            refine ⟨hS, ?_⟩
                            simp only [World.size_alloc]
                            try simp only [Act.put, List.setIfInBounds_toArray, List.set_cons_zero, List.set_cons_succ]
                            refine wpAnyH_all (rs := [10]) (by kernel_rfl) (by simp) (fun i hi => ?_)
                            simp only [List.mem_cons, List.not_mem_nil, or_false] at hi
                            subst hi
                            refine .inl ?_
                            refine o_store_E ⟨i0, i1, i2, i3⟩ (b := wr.drew.heap.size) hT.1 rfl rfl rfl ?_
                            have hS : (fun W => W.rangeAt g (i * 4) (cE ⟨i0, i1, i2, i3⟩) ∧ W.rangeAt g (j * 4) (cE ⟨j0, j1, j2, j3⟩)) (((wr.drew.alloc (.cells (cE E0).toArray 27)).alloc (.cells (cE E0).toArray 27)).setRow wr.drew.heap.size (cE ⟨i0, i1, i2, i3⟩).toArray) := ⟨range_setRow hS.1 (by have := hgl4; show g ≠ _; simp only [heap_drew]; omega) _, range_setRow hS.2 (by have := hgl4; show g ≠ _; simp only [heap_drew]; omega) _⟩
                            refine ⟨hS, ?_⟩
                            try simp only [Act.put, List.setIfInBounds_toArray, List.set_cons_zero, List.set_cons_succ]
                            refine wpAnyH_all (rs := [11]) (by kernel_rfl) (by simp) (fun i hi => ?_)
                            simp only [List.mem_cons, List.not_mem_nil, or_false] at hi
                            subst hi
                            refine .inl ?_
                            refine o_store_E ⟨j0, j1, j2, j3⟩ (b := (wr.drew.heap.size + 1)) (hT.2.1.setOther (by omega) _) rfl rfl rfl ?_
                            have hS : (fun W => W.rangeAt g (i * 4) (cE ⟨i0, i1, i2, i3⟩) ∧ W.rangeAt g (j * 4) (cE ⟨j0, j1, j2, j3⟩)) ((((wr.drew.alloc (.cells (cE E0).toArray 27)).alloc (.cells (cE E0).toArray 27)).setRow wr.drew.heap.size (cE ⟨i0, i1, i2, i3⟩).toArray).setRow (wr.drew.heap.size + 1) (cE ⟨j0, j1, j2, j3⟩).toArray) := ⟨range_setRow hS.1 (by have := hgl4; show g ≠ _; simp only [heap_drew]; omega) _, range_setRow hS.2 (by have := hgl4; show g ≠ _; simp only [heap_drew]; omega) _⟩
                            refine ⟨hS, ?_⟩
                            try simp only [Act.put, List.setIfInBounds_toArray, List.set_cons_zero, List.set_cons_succ]
                            refine wpAnyH_done (by kernel_rfl) ?_ _
                            have hbi : Blk ((((wr.drew.alloc (.cells (cE E0).toArray 27)).alloc (.cells (cE E0).toArray 27)).setRow wr.drew.heap.size (cE ⟨i0, i1, i2, i3⟩).toArray).setRow (wr.drew.heap.size + 1) (cE ⟨j0, j1, j2, j3⟩).toArray) wr.drew.heap.size (cE ⟨i0, i1, i2, i3⟩).toArray 27 := (hT.1.set _).setOther (by omega) _
                            have hbj : Blk ((((wr.drew.alloc (.cells (cE E0).toArray 27)).alloc (.cells (cE E0).toArray 27)).setRow wr.drew.heap.size (cE ⟨i0, i1, i2, i3⟩).toArray).setRow (wr.drew.heap.size + 1) (cE ⟨j0, j1, j2, j3⟩).toArray) (wr.drew.heap.size + 1) (cE ⟨j0, j1, j2, j3⟩).toArray 27 := (Blk.setOther hT.2.1 (by omega) _).set _
                            have hbl := below_setRow (below_setRow (HBD.out.trans (hT.2.2.mono (Nat.le_refl _))) (show wr.heap.size ≤ wr.drew.heap.size by simp only [heap_drew]; omega) (cE ⟨i0, i1, i2, i3⟩).toArray) (show wr.heap.size ≤ (wr.drew.heap.size + 1) by simp only [heap_drew]; omega) (cE ⟨j0, j1, j2, j3⟩).toArray
                            generalize ((((wr.drew.alloc (.cells (cE E0).toArray 27)).alloc (.cells (cE E0).toArray 27)).setRow wr.drew.heap.size (cE ⟨i0, i1, i2, i3⟩).toArray).setRow (wr.drew.heap.size + 1) (cE ⟨j0, j1, j2, j3⟩).toArray) = W9 at hbi hbj hbl ⊢
                            have HRB := Lib.hid (HR34.out W9 hbl)
                            have z0 := hbi.cell 0
                            have z1 := hbi.cell 1
                            have z2 := hbj.cell 0
                            have z3 := hbj.cell 1
                            simp only [cE, List.getElem?_toArray, List.getElem?_cons_zero, List.getElem?_cons_succ, heap_drew] at z0 z1 z2 z3
                            clear hbi hbj hbl hS hK0 hT HR34 HBD
                            cases i0 with
                            | false =>
                              go_wp2
                              go_roundw
                              case rel => exact ⟨j + 1, by omega, by go_num, HRB.out.1, HRB.out.2⟩
                              case measure => simp [intOf]; omega
                            | true =>
                              cases j0 with
                              | false =>
                                go_wp2
                                go_roundw
                                case rel => exact ⟨j + 1, by omega, by go_num, HRB.out.1, HRB.out.2⟩
                                case measure => simp [intOf]; omega
                              | true =>
                                have hne : ¬ i1 = j1 := fun e => hu rfl rfl e
                                clear hu
                                go_wp2
                                go_roundw
                                case rel => exact ⟨j + 1, by omega, by go_num, HRB.out.1, HRB.out.2⟩
                                case measure => simp [intOf]; omega
                          · refine .inl ?_
                            refine o_alloc_E rfl ?_
                            have hS : (fun W => W.rangeAt g (i * 4) (cE ⟨i0, i1, i2, i3⟩) ∧ W.rangeAt g (j * 4) (cE ⟨j0, j1, j2, j3⟩)) (wr.drew.alloc (.cells (cE E0).toArray 27)) := ⟨World.rangeAt_alloc hS.1 _, World.rangeAt_alloc hS.2 _⟩
                            refine ⟨hS, ?_⟩
                            try simp only [Act.put, List.setIfInBounds_toArray, List.set_cons_zero, List.set_cons_succ]
                            refine wpAnyH_all (rs := [8]) (by kernel_rfl) (by simp) (fun i hi => ?_)
                            simp only [List.mem_cons, List.not_mem_nil, or_false] at hi
                            subst hi
                            refine .inl ?_
                            refine o_alloc_E rfl ?_
                            have hS : (fun W => W.rangeAt g (i * 4) (cE ⟨i0, i1, i2, i3⟩) ∧ W.rangeAt g (j * 4) (cE ⟨j0, j1, j2, j3⟩)) ((wr.drew.alloc (.cells (cE E0).toArray 27)).alloc (.cells (cE E0).toArray 27)) := ⟨World.rangeAt_alloc hS.1 _, World.rangeAt_alloc hS.2 _⟩
                            refine ⟨hS, ?_⟩
                            simp only [World.size_alloc]
                            try simp only [Act.put, List.setIfInBounds_toArray, List.set_cons_zero, List.set_cons_succ]
                            refine wpAnyH_all (rs := [10]) (by kernel_rfl) (by simp) (fun i hi => ?_)
                            simp only [List.mem_cons, List.not_mem_nil, or_false] at hi
                            subst hi
                            refine .inl ?_
                            refine o_store_E ⟨i0, i1, i2, i3⟩ (b := (wr.drew.heap.size + 1)) hT.2.1 rfl rfl rfl ?_
                            have hS : (fun W => W.rangeAt g (i * 4) (cE ⟨i0, i1, i2, i3⟩) ∧ W.rangeAt g (j * 4) (cE ⟨j0, j1, j2, j3⟩)) (((wr.drew.alloc (.cells (cE E0).toArray 27)).alloc (.cells (cE E0).toArray 27)).setRow (wr.drew.heap.size + 1) (cE ⟨i0, i1, i2, i3⟩).toArray) := ⟨range_setRow hS.1 (by have := hgl4; show g ≠ _; simp only [heap_drew]; omega) _, range_setRow hS.2 (by have := hgl4; show g ≠ _; simp only [heap_drew]; omega) _⟩
                            refine ⟨hS, ?_⟩
                            try simp only [Act.put, List.setIfInBounds_toArray, List.set_cons_zero, List.set_cons_succ]
                            refine wpAnyH_all (rs := [11]) (by kernel_rfl) (by simp) (fun i hi => ?_)
                            simp only [List.mem_cons, List.not_mem_nil, or_false] at hi
                            subst hi
                            refine .inl ?_
                            refine o_store_E ⟨j0, j1, j2, j3⟩ (b := wr.drew.heap.size) (hT.1.setOther (by omega) _) rfl rfl rfl ?_
                            have hS : (fun W => W.rangeAt g (i * 4) (cE ⟨i0, i1, i2, i3⟩) ∧ W.rangeAt g (j * 4) (cE ⟨j0, j1, j2, j3⟩)) ((((wr.drew.alloc (.cells (cE E0).toArray 27)).alloc (.cells (cE E0).toArray 27)).setRow (wr.drew.heap.size + 1) (cE ⟨i0, i1, i2, i3⟩).toArray).setRow wr.drew.heap.size (cE ⟨j0, j1, j2, j3⟩).toArray) := ⟨range_setRow hS.1 (by have := hgl4; show g ≠ _; simp only [heap_drew]; omega) _, range_setRow hS.2 (by have := hgl4; show g ≠ _; simp only [heap_drew]; omega) _⟩
                            refine ⟨hS, ?_⟩
                            try simp only [Act.put, List.setIfInBounds_toArray, List.set_cons_zero, List.set_cons_succ]
                            refine wpAnyH_done (by kernel_rfl) ?_ _
                            have hbi : Blk ((((wr.drew.alloc (.cells (cE E0).toArray 27)).alloc (.cells (cE E0).toArray 27)).setRow (wr.drew.heap.size + 1) (cE ⟨i0, i1, i2, i3⟩).toArray).setRow wr.drew.heap.size (cE ⟨j0, j1, j2, j3⟩).toArray) (wr.drew.heap.size + 1) (cE ⟨i0, i1, i2, i3⟩).toArray 27 := (hT.2.1.set _).setOther (by omega) _
                            have hbj : Blk ((((wr.drew.alloc (.cells (cE E0).toArray 27)).alloc (.cells (cE E0).toArray 27)).setRow (wr.drew.heap.size + 1) (cE ⟨i0, i1, i2, i3⟩).toArray).setRow wr.drew.heap.size (cE ⟨j0, j1, j2, j3⟩).toArray) wr.drew.heap.size (cE ⟨j0, j1, j2, j3⟩).toArray 27 := (Blk.setOther hT.1 (by omega) _).set _
                            have hbl := below_setRow (below_setRow (HBD.out.trans (hT.2.2.mono (Nat.le_refl _))) (show wr.heap.size ≤ (wr.drew.heap.size + 1) by simp only [heap_drew]; omega) (cE ⟨i0, i1, i2, i3⟩).toArray) (show wr.heap.size ≤ wr.drew.heap.size by simp only [heap_drew]; omega) (cE ⟨j0, j1, j2, j3⟩).toArray
                            generalize ((((wr.drew.alloc (.cells (cE E0).toArray 27)).alloc (.cells (cE E0).toArray 27)).setRow (wr.drew.heap.size + 1) (cE ⟨i0, i1, i2, i3⟩).toArray).setRow wr.drew.heap.size (cE ⟨j0, j1, j2, j3⟩).toArray) = W9 at hbi hbj hbl ⊢
                            have HRB := Lib.hid (HR34.out W9 hbl)
                            have z0 := hbi.cell 0
                            have z1 := hbi.cell 1
                            have z2 := hbj.cell 0
                            have z3 := hbj.cell 1
                            simp only [cE, List.getElem?_toArray, List.getElem?_cons_zero, List.getElem?_cons_succ, heap_drew] at z0 z1 z2 z3
                            clear hbi hbj hbl hS hK0 hT HR34 HBD
                            cases i0 with
                            | false =>
                              go_wp2
                              go_roundw
                              case rel => exact ⟨j + 1, by omega, by go_num, HRB.out.1, HRB.out.2⟩
                              case measure => simp [intOf]; omega
                            | true =>
                              cases j0 with
                              | false =>
                                go_wp2
                                go_roundw
                                case rel => exact ⟨j + 1, by omega, by go_num, HRB.out.1, HRB.out.2⟩
                                case measure => simp [intOf]; omega
                              | true =>
                                have hne : ¬ i1 = j1 := fun e => hu rfl rfl e
                                clear hu
                                go_wp2
                                go_roundw
                                case rel => exact ⟨j + 1, by omega, by go_num, HRB.out.1, HRB.out.2⟩
                                case measure => simp [intOf]; omega
                        · obtain rfl : j = i := by omega
                          go_wp2
                          go_roundw
                          case rel => exact ⟨j + 1, by omega, by go_num, HR.out, HB.out⟩
                          case measure => simp [intOf]; omega
                    · obtain rfl : i = 4 := by omega
                      go_wp2_with fail
                      refine (works_any _).mono ?_
                      rintro e w9 ⟨rfl, hb⟩
                      have HB9 := Lib.hid (HB.out.trans (hb.mono HB.out.size))
                      clear hb HB
                      go_wp2
                      go_ret
                      exact ⟨rfl, HB9.out⟩
end Go.Proofs.Ytafkjokbidkkhaa

/-
  Layer 4: the statement IsaEncode, as a contract: a walk.
-/
import Derived.Test.YtcbbinmecnameaaDoorRText
import Derived.Test.YtcbbinmecnameaaDoorWorks
import Derived.Test.YtcbbinmecnameaaDoorArgs
import Derived.Deep.RegionHeld3
set_option linter.unusedVariables false
namespace Go.Proofs.YtcbbinmecnameaaDoor
open Go.RowKit
set_option maxHeartbeats 2000000

theorem at_add {w : World} {a : Addr} {i j : Nat} {v : Value} (hj : j ≠ 0) (h : w.cell? (a.add (i + j)) = some v) : w.cell? ⟨(a.add i).block, (a.add i).off + j, none⟩ = some v := by
  rw [← Go.Deep.add_add] at h
  rw [← h]
  congr 1
  unfold Addr.add
  simp [hj]
/-- An instruction lies at a place. -/
structure At4 (w : World) (p : Addr) (i : Ins) : Prop where
  c0 : w.cell? p = some (.int .i64 i.op)
  c1 : w.cell? ⟨p.block, p.off + 1, none⟩ = some (.int .i64 i.a)
  c2 : w.cell? ⟨p.block, p.off + 2, none⟩ = some (.int .i64 i.b)
  c3 : w.cell? ⟨p.block, p.off + 3, none⟩ = some (.int .i64 i.imm)
theorem At4.lt {w : World} {p : Addr} {i : Ins} (h : At4 w p i) : p.block < w.heap.size := World.block_lt_of_cell? _ _ h.c0
theorem At4.keep {w w' : World} {p : Addr} {i : Ins} {B : Nat} (h : At4 w p i) (hb : Below B w w') (hl : p.block < B) : At4 w' p i :=
  ⟨(hb.cell hl).trans h.c0, (hb.cell (p := ⟨p.block, p.off + 1, none⟩) hl).trans h.c1, (hb.cell (p := ⟨p.block, p.off + 2, none⟩) hl).trans h.c2, (hb.cell (p := ⟨p.block, p.off + 3, none⟩) hl).trans h.c3⟩
theorem At4.below {w w' : World} {p : Addr} {i : Ins} (h : At4 w p i) (hb : Below w.heap.size w w') : At4 w' p i := h.keep hb h.lt
/-- What a loop over a slice of instructions asks. -/
def InsL (w : World) (v : Value) : Prop := ∃ o c n, v = .slice o n c ∧ n ≤ maxLen ∧ ∀ (i : Nat), i < n → ∃ a x, o = some a ∧ At4 w (a.add (i * 4)) x
theorem inss_loop {w : World} {v : Value} {xs : List Ins} (h : InsIn w v xs) : InsL w v := by
  rcases h with ⟨rfl, rfl⟩ | ⟨a, c, rfl, _, hm, hc, hw⟩
  · exact ⟨none, 0, 0, rfl, Nat.zero_le _, fun i hi => absurd hi (Nat.not_lt_zero i)⟩
  · refine ⟨some a, c, xs.length, rfl, hm, fun i hi => ⟨a, xs[i], rfl, ?_⟩⟩
    obtain ⟨h0, h1, h2, h3⟩ := hc i _ (List.getElem?_eq_getElem hi)
    exact ⟨h0, at_add (by decide) h1, at_add (by decide) h2, at_add (by decide) h3⟩

/-- An operation of a drawn region is taken first, its slot named. -/
theorem take_d {P : Program} {md : Region.Mode} {ops : Array Oper} {Q : Exit → Act → World → Prop} {S : World → Prop} {i : Nat} {oi : Oper} {d : Option Tmp} {v : Value} {fuel : Nat} {listed : Array Bool} {a : Act} {w : World} (hi : ops[i]? = some oi) (hd : oi.dst = d)
    (hs : Region.noSelect ops = true) (hf : Region.free md ops listed i = true) (hr : (Region.ready md ops listed).contains i = true)
    (hQ : ∀ c a w, Q (.panic c) (a.put oi.dst v) w → Q (.panic c) a w) (hy : YieldsIf P ops S oi v a) (hS : S w)
    (h : wpAnyH P md ops Q S fuel (listed.setIfInBounds i true) (a.put d v) w) : wpAnyH P md ops Q S (fuel + 1) listed a w := by
  subst hd
  exact wpAnyH_take hi hs hf hr hQ hy hS h
/-- What the last comparison reads: the tables, the instruction in the slice, that in the box behind w4. -/
structure Keeps (w w4 : World) (p : Addr) (O A B M : Int) (W : World) : Prop where
  env : Env W
  at4 : At4 W p ⟨O, A, B, M⟩
  box : Box W w4.heap.size ⟨O, A, B, M⟩
  bel : Below w.heap.size w W
theorem Keeps.after {w w4 : World} {p : Addr} {O A B M : Int} {W W' : World} (h : Keeps w w4 p O A B M W) (hb : Below W.heap.size W W') : Keeps w w4 p O A B M W' :=
  ⟨h.env.below hb, h.at4.below hb, h.box.below hb, h.bel.trans (hb.mono h.bel.size)⟩
theorem Keeps.start {w w4 : World} {p : Addr} {O A B M : Int} (hE : Env w4) (hX : At4 w4 p ⟨O, A, B, M⟩) (hb : Below w.heap.size w w4) : Keeps w w4 p O A B M (w4.alloc (.cells #[.int .i64 O, .int .i64 A, .int .i64 B, .int .i64 M] 26)).drew := by
  have b := ((Below.refl w4.heap.size w4).alloc (Nat.le_refl _) (.cells #[.int .i64 O, .int .i64 A, .int .i64 B, .int .i64 M] 26)).drew
  exact ⟨hE.below b, hX.below b, (Box.new w4 ⟨O, A, B, M⟩ 26).below (Below.refl _ _).drew, hb.trans (b.mono hb.size)⟩

set_option maxRecDepth 10000 in
theorem IsaEncode_any (v : Value) (w : World) (h : Env w) (z : InsL w v) :
    Calls Tryd.prog 4 #[v] w fun e w' => e = .returned (.bool true) ∧ Below w.heap.size w w' := by
  obtain ⟨o, c, n, rfl, hm, hcell⟩ := z
  have HCE := Lib.hid hcell
  clear hcell
  have hm' : (n : Int) ≤ 9223372036854775807 := by unfold maxLen at hm; omega
  go_enter Tryd.func4, Tryd.ntmps4
  by_cases h60 : 60 < n
  · have hK := Lib.hid (known_any w h)
    go_wp2_with fail
    refine hK.out.mono ?_
    rintro e w1 ⟨rfl, b1⟩
    go_wp2_with fail
    go_ret
    exact ⟨rfl, b1⟩
  · go_wp2_with fail
    go_loopw [3] (fun i wr => ∃ k : Nat, k ≤ n ∧ i = .int .i64 (k : Int) ∧ Hid (Below w.heap.size w wr)) (fun i _ => n - (intOf i).toNat)
    case atStart => exact ⟨0, by omega, rfl, Below.refl _ _⟩
    case round =>
      obtain ⟨k, hk, rfl, hb⟩ := hrel
      have HE := Lib.hid (h.below hb.out)
      by_cases hlt : k < n
      · obtain ⟨a, x, rfl, hc⟩ := HCE.out k hlt
        have X0 := hc.keep hb.out hc.lt
        have HX0 := Lib.hid X0
        have HEN := Lib.hid (fun W hW => Encode_any x W hW)
        have HTX := Lib.hid (fun W hW => Text_any x W hW)
        have HRM := Lib.hid (fun W => RMay_any x W)
        clear hc
        obtain ⟨O, A, B, M⟩ := x
        have hal := X0.lt
        obtain ⟨x0, x1, x2, x3⟩ := X0
        simp only at x0 x1 x2 x3
        unfold iv at HEN HTX HRM
        simp only at HEN HTX HRM
        go_wp2_with fail
        refine (HEN.out _ HE.out).mono ?_
        rintro e w1 ⟨rfl, b1⟩
        have X1 := HX0.out.below b1
        have HX1 := Lib.hid X1
        have HE1 := Lib.hid (HE.out.below b1)
        have BF1 := Lib.hid (hb.out.trans (b1.mono hb.out.size))
        clear b1 x0 x1 x2 x3 hal HX0 HE
        have hal := X1.lt
        obtain ⟨x0, x1, x2, x3⟩ := X1
        simp only at x0 x1 x2 x3
        go_wp2_with fail
        refine (HTX.out _ HE1.out).mono ?_
        rintro e w2 ⟨rfl, b2⟩
        have X2 := HX1.out.below b2
        have HX2 := Lib.hid X2
        have HE2 := Lib.hid (HE1.out.below b2)
        have BF2 := Lib.hid (BF1.out.trans (b2.mono BF1.out.size))
        clear b2 x0 x1 x2 x3 hal HX1 HE1
        have hal := X2.lt
        obtain ⟨x0, x1, x2, x3⟩ := X2
        simp only at x0 x1 x2 x3
        go_wp2_with fail
        refine (HRM.out _).mono ?_
        rintro e w3 ⟨rfl, b3⟩
        have X3 := HX2.out.below b3
        have HX3 := Lib.hid X3
        have HE3 := Lib.hid (HE2.out.below b3)
        have BF3 := Lib.hid (BF2.out.trans (b3.mono BF2.out.size))
        clear b3 x0 x1 x2 x3 hal HX2 HE2
        have hal := X3.lt
        obtain ⟨x0, x1, x2, x3⟩ := X3
        simp only at x0 x1 x2 x3
        by_cases hmay : May ⟨O, A, B, M⟩
        · rw [decide_eq_true hmay]
          rw [show encW ⟨O, A, B, M⟩ = enc ⟨O, A, B, M⟩ from if_pos hmay, show encE ⟨O, A, B, M⟩ = 0 from if_pos hmay, show txtV ⟨O, A, B, M⟩ = bytes (txt ⟨O, A, B, M⟩) from if_pos hmay]
          have HDE := Lib.hid (Decode_any (enc ⟨O, A, B, M⟩) (enc_w32 hmay) w3 HE3.out)
          have e1 : decV (enc ⟨O, A, B, M⟩) = ⟨O, A, B, M⟩ := by unfold decV; rw [dec_enc hmay, if_pos hmay]
          have e2 : decB (enc ⟨O, A, B, M⟩) = true := by unfold decB; rw [dec_enc hmay]; exact decide_eq_true hmay
          rw [e1, e2] at HDE
          unfold iv at HDE
          simp only at HDE
          have HRE := Lib.hid (fun W => REncode_yes O A B M W hmay)
          have HRT := Lib.hid (fun W hW => RText_any ⟨O, A, B, M⟩ hmay W hW)
          unfold iv at HRT
          simp only at HRT
          generalize enc ⟨O, A, B, M⟩ = W1 at *
          generalize bytes (txt ⟨O, A, B, M⟩) = T1 at *
          have HM := Lib.hid hmay
          clear hmay e1 e2 HEN HTX HRM
          go_wp2_with fail
          refine HDE.out.mono ?_
          rintro e w4 ⟨rfl, b4⟩
          have X4 := HX3.out.below b4
          have HX4 := Lib.hid X4
          have HE4 := Lib.hid (HE3.out.below b4)
          have BF4 := Lib.hid (BF3.out.trans (b4.mono BF3.out.size))
          clear b4 x0 x1 x2 x3 hal HX3 HE3 HDE
          have hal := X4.lt
          obtain ⟨x0, x1, x2, x3⟩ := X4
          simp only at x0 x1 x2 x3
          have hK0 : Keeps w w4 (a.add (k * 4)) O A B M (w4.alloc (.cells #[.int .i64 O, .int .i64 A, .int .i64 B, .int .i64 M] 26)).drew := Keeps.start HE4.out HX4.out BF4.out
          clear x0 x1 x2 x3 hal HX4 HE4
          go_wp2_with fail
          refine wp_region_held_drew (S := Keeps w w4 (a.add (k * 4)) O A B M) (by kernel_rfl) hK0 (fun _ => ?_)
          have hS := hK0
          refine take_d (i := 0) (d := some 61) (v := .int .i64 0) rfl rfl (by kernel_rfl) (by kernel_rfl) (by kernel_rfl) (fun _ _ _ h => h) (.inl ⟨by rfl, fun W hW => by go_simp⟩) hS ?_
          try simp only [Act.put, List.setIfInBounds_toArray, List.set_cons_zero, List.set_cons_succ]
          refine take_d (i := 1) (d := some 62) (v := .bool false) rfl rfl (by kernel_rfl) (by kernel_rfl) (by kernel_rfl) (fun _ _ _ h => h) (.inl ⟨by rfl, fun W hW => by go_simp⟩) hS ?_
          try simp only [Act.put, List.setIfInBounds_toArray, List.set_cons_zero, List.set_cons_succ]
          refine take_d (i := 2) (d := some 63) (v := .bool false) rfl rfl (by kernel_rfl) (by kernel_rfl) (by kernel_rfl) (fun _ _ _ h => h) (.inl ⟨by rfl, fun W hW => by go_simp⟩) hS ?_
          try simp only [Act.put, List.setIfInBounds_toArray, List.set_cons_zero, List.set_cons_succ]
          refine take_d (i := 3) (d := some 64) (v := .int .i64 0) rfl rfl (by kernel_rfl) (by kernel_rfl) (by kernel_rfl) (fun _ _ _ h => h) (.inl ⟨by rfl, fun W hW => by go_simp⟩) hS ?_
          try simp only [Act.put, List.setIfInBounds_toArray, List.set_cons_zero, List.set_cons_succ]
          refine take_d (i := 4) (d := some 65) (v := .bool false) rfl rfl (by kernel_rfl) (by kernel_rfl) (by kernel_rfl) (fun _ _ _ h => h) (.inl ⟨by rfl, fun W hW => by go_simp⟩) hS ?_
          try simp only [Act.put, List.setIfInBounds_toArray, List.set_cons_zero, List.set_cons_succ]
          refine take_d (i := 5) (d := some 66) (v := .bool false) rfl rfl (by kernel_rfl) (by kernel_rfl) (by kernel_rfl) (fun _ _ _ h => h) (.inl ⟨by rfl, fun W hW => by go_simp⟩) hS ?_
          try simp only [Act.put, List.setIfInBounds_toArray, List.set_cons_zero, List.set_cons_succ]
          refine take_d (i := 6) (d := some 67) (v := .bool false) rfl rfl (by kernel_rfl) (by kernel_rfl) (by kernel_rfl) (fun _ _ _ h => h) (.inl ⟨by rfl, fun W hW => by go_simp⟩) hS ?_
          try simp only [Act.put, List.setIfInBounds_toArray, List.set_cons_zero, List.set_cons_succ]
          refine take_d (i := 7) (d := some 68) (v := .int .u32 W1) rfl rfl (by kernel_rfl) (by kernel_rfl) (by kernel_rfl) (fun _ _ _ h => h) (.inl ⟨by rfl, fun W hW => by go_simp⟩) hS ?_
          try simp only [Act.put, List.setIfInBounds_toArray, List.set_cons_zero, List.set_cons_succ]
          refine take_d (i := 8) (d := some 69) (v := .slice (some a) n c) rfl rfl (by kernel_rfl) (by kernel_rfl) (by kernel_rfl) (fun _ _ _ h => h) (.inl ⟨by rfl, fun W hW => by go_simp⟩) hS ?_
          try simp only [Act.put, List.setIfInBounds_toArray, List.set_cons_zero, List.set_cons_succ]
          refine take_d (i := 9) (d := some 70) (v := .int .i64 (k : Int)) rfl rfl (by kernel_rfl) (by kernel_rfl) (by kernel_rfl) (fun _ _ _ h => h) (.inl ⟨by rfl, fun W hW => by go_simp⟩) hS ?_
          try simp only [Act.put, List.setIfInBounds_toArray, List.set_cons_zero, List.set_cons_succ]
          refine take_d (i := 10) (d := some 71) (v := .pointer (some (a.add (k * 4)))) rfl rfl (by kernel_rfl) (by kernel_rfl) (by kernel_rfl) (fun _ _ _ h => h) (.inl ⟨by rfl, fun W hW => by go_simp⟩) hS ?_
          try simp only [Act.put, List.setIfInBounds_toArray, List.set_cons_zero, List.set_cons_succ]
          refine take_d (i := 11) (d := some 72) (v := .agg #[.int .i64 O, .int .i64 A, .int .i64 B, .int .i64 M]) rfl rfl (by kernel_rfl) (by kernel_rfl) (by kernel_rfl) (fun _ _ _ h => h) (.inl ⟨by rfl, fun W hW => by obtain ⟨x0, x1, x2, x3⟩ := hW.at4; simp only at x0 x1 x2 x3; go_simp⟩) hS ?_
          try simp only [Act.put, List.setIfInBounds_toArray, List.set_cons_zero, List.set_cons_succ]
          refine wpAnyH_all (rs := [12]) (by kernel_rfl) (by simp) (fun i hi => ?_)
          simp only [List.mem_cons, List.not_mem_nil, or_false] at hi
          subst hi
          refine .inl ?_
          go_simp
          refine (HRE.out _).mono ?_; rintro e wc ⟨rfl, bc⟩
          have hS := hS.after bc
          clear bc
          refine ⟨hS, ?_⟩
          try simp only [Act.put, List.setIfInBounds_toArray, List.set_cons_zero, List.set_cons_succ]
          refine take_d (i := 13) (d := some 74) (v := .bool false) rfl rfl (by kernel_rfl) (by kernel_rfl) (by kernel_rfl) (fun _ _ _ h => h) (.inl ⟨by rfl, fun W hW => by go_simp⟩) hS ?_
          try simp only [Act.put, List.setIfInBounds_toArray, List.set_cons_zero, List.set_cons_succ]
          refine take_d (i := 14) (d := some 75) (v := .bool false) rfl rfl (by kernel_rfl) (by kernel_rfl) (by kernel_rfl) (fun _ _ _ h => h) (.inl ⟨by rfl, fun W hW => by go_simp⟩) hS ?_
          try simp only [Act.put, List.setIfInBounds_toArray, List.set_cons_zero, List.set_cons_succ]
          refine take_d (i := 15) (d := some 76) (v := .bool false) rfl rfl (by kernel_rfl) (by kernel_rfl) (by kernel_rfl) (fun _ _ _ h => h) (.inl ⟨by rfl, fun W hW => by go_simp⟩) hS ?_
          try simp only [Act.put, List.setIfInBounds_toArray, List.set_cons_zero, List.set_cons_succ]
          refine take_d (i := 16) (d := some 77) (v := .string T1) rfl rfl (by kernel_rfl) (by kernel_rfl) (by kernel_rfl) (fun _ _ _ h => h) (.inl ⟨by rfl, fun W hW => by go_simp⟩) hS ?_
          try simp only [Act.put, List.setIfInBounds_toArray, List.set_cons_zero, List.set_cons_succ]
          refine take_d (i := 17) (d := some 78) (v := .slice (some a) n c) rfl rfl (by kernel_rfl) (by kernel_rfl) (by kernel_rfl) (fun _ _ _ h => h) (.inl ⟨by rfl, fun W hW => by go_simp⟩) hS ?_
          try simp only [Act.put, List.setIfInBounds_toArray, List.set_cons_zero, List.set_cons_succ]
          refine take_d (i := 18) (d := some 79) (v := .int .i64 (k : Int)) rfl rfl (by kernel_rfl) (by kernel_rfl) (by kernel_rfl) (fun _ _ _ h => h) (.inl ⟨by rfl, fun W hW => by go_simp⟩) hS ?_
          try simp only [Act.put, List.setIfInBounds_toArray, List.set_cons_zero, List.set_cons_succ]
          refine take_d (i := 19) (d := some 80) (v := .pointer (some (a.add (k * 4)))) rfl rfl (by kernel_rfl) (by kernel_rfl) (by kernel_rfl) (fun _ _ _ h => h) (.inl ⟨by rfl, fun W hW => by go_simp⟩) hS ?_
          try simp only [Act.put, List.setIfInBounds_toArray, List.set_cons_zero, List.set_cons_succ]
          refine take_d (i := 20) (d := some 81) (v := .agg #[.int .i64 O, .int .i64 A, .int .i64 B, .int .i64 M]) rfl rfl (by kernel_rfl) (by kernel_rfl) (by kernel_rfl) (fun _ _ _ h => h) (.inl ⟨by rfl, fun W hW => by obtain ⟨x0, x1, x2, x3⟩ := hW.at4; simp only at x0 x1 x2 x3; go_simp⟩) hS ?_
          try simp only [Act.put, List.setIfInBounds_toArray, List.set_cons_zero, List.set_cons_succ]
          refine wpAnyH_all (rs := [21]) (by kernel_rfl) (by simp) (fun i hi => ?_)
          simp only [List.mem_cons, List.not_mem_nil, or_false] at hi
          subst hi
          refine .inl ?_
          go_simp
          refine (HRT.out _ hS.env).mono ?_; rintro e wc ⟨rfl, bc⟩
          have hS := hS.after bc
          clear bc
          refine ⟨hS, ?_⟩
          try simp only [Act.put, List.setIfInBounds_toArray, List.set_cons_zero, List.set_cons_succ]
          refine take_d (i := 22) (d := some 83) (v := .bool false) rfl rfl (by kernel_rfl) (by kernel_rfl) (by kernel_rfl) (fun _ _ _ h => h) (.inl ⟨by rfl, fun W hW => by go_simp⟩) hS ?_
          try simp only [Act.put, List.setIfInBounds_toArray, List.set_cons_zero, List.set_cons_succ]
          refine take_d (i := 23) (d := some 84) (v := .bool false) rfl rfl (by kernel_rfl) (by kernel_rfl) (by kernel_rfl) (fun _ _ _ h => h) (.inl ⟨by rfl, fun W hW => by go_simp⟩) hS ?_
          try simp only [Act.put, List.setIfInBounds_toArray, List.set_cons_zero, List.set_cons_succ]
          refine take_d (i := 24) (d := some 85) (v := .bool false) rfl rfl (by kernel_rfl) (by kernel_rfl) (by kernel_rfl) (fun _ _ _ h => h) (.inl ⟨by rfl, fun W hW => by go_simp⟩) hS ?_
          try simp only [Act.put, List.setIfInBounds_toArray, List.set_cons_zero, List.set_cons_succ]
          refine take_d (i := 25) (d := some 86) (v := .bool true) rfl rfl (by kernel_rfl) (by kernel_rfl) (by kernel_rfl) (fun _ _ _ h => h) (.inl ⟨by rfl, fun W hW => by go_simp⟩) hS ?_
          try simp only [Act.put, List.setIfInBounds_toArray, List.set_cons_zero, List.set_cons_succ]
          refine take_d (i := 26) (d := some 87) (v := .bool false) rfl rfl (by kernel_rfl) (by kernel_rfl) (by kernel_rfl) (fun _ _ _ h => h) (.inl ⟨by rfl, fun W hW => by go_simp⟩) hS ?_
          try simp only [Act.put, List.setIfInBounds_toArray, List.set_cons_zero, List.set_cons_succ]
          refine take_d (i := 27) (d := some 88) (v := .bool false) rfl rfl (by kernel_rfl) (by kernel_rfl) (by kernel_rfl) (fun _ _ _ h => h) (.inl ⟨by rfl, fun W hW => by go_simp⟩) hS ?_
          try simp only [Act.put, List.setIfInBounds_toArray, List.set_cons_zero, List.set_cons_succ]
          refine take_d (i := 28) (d := some 89) (v := .bool false) rfl rfl (by kernel_rfl) (by kernel_rfl) (by kernel_rfl) (fun _ _ _ h => h) (.inl ⟨by rfl, fun W hW => by go_simp⟩) hS ?_
          try simp only [Act.put, List.setIfInBounds_toArray, List.set_cons_zero, List.set_cons_succ]
          refine take_d (i := 29) (d := some 90) (v := .agg #[.int .i64 O, .int .i64 A, .int .i64 B, .int .i64 M]) rfl rfl (by kernel_rfl) (by kernel_rfl) (by kernel_rfl) (fun _ _ _ h => h) (.inl ⟨by rfl, fun W hW => by obtain ⟨x0, x1, x2, x3, xf⟩ := hW.box; simp only at x0 x1 x2 x3; go_simp⟩) hS ?_
          try simp only [Act.put, List.setIfInBounds_toArray, List.set_cons_zero, List.set_cons_succ]
          refine take_d (i := 30) (d := some 91) (v := .slice (some a) n c) rfl rfl (by kernel_rfl) (by kernel_rfl) (by kernel_rfl) (fun _ _ _ h => h) (.inl ⟨by rfl, fun W hW => by go_simp⟩) hS ?_
          try simp only [Act.put, List.setIfInBounds_toArray, List.set_cons_zero, List.set_cons_succ]
          refine take_d (i := 31) (d := some 92) (v := .int .i64 (k : Int)) rfl rfl (by kernel_rfl) (by kernel_rfl) (by kernel_rfl) (fun _ _ _ h => h) (.inl ⟨by rfl, fun W hW => by go_simp⟩) hS ?_
          try simp only [Act.put, List.setIfInBounds_toArray, List.set_cons_zero, List.set_cons_succ]
          refine take_d (i := 32) (d := some 93) (v := .pointer (some (a.add (k * 4)))) rfl rfl (by kernel_rfl) (by kernel_rfl) (by kernel_rfl) (fun _ _ _ h => h) (.inl ⟨by rfl, fun W hW => by go_simp⟩) hS ?_
          try simp only [Act.put, List.setIfInBounds_toArray, List.set_cons_zero, List.set_cons_succ]
          refine take_d (i := 33) (d := some 94) (v := .agg #[.int .i64 O, .int .i64 A, .int .i64 B, .int .i64 M]) rfl rfl (by kernel_rfl) (by kernel_rfl) (by kernel_rfl) (fun _ _ _ h => h) (.inl ⟨by rfl, fun W hW => by obtain ⟨x0, x1, x2, x3⟩ := hW.at4; simp only at x0 x1 x2 x3; go_simp⟩) hS ?_
          try simp only [Act.put, List.setIfInBounds_toArray, List.set_cons_zero, List.set_cons_succ]
          refine take_d (i := 34) (d := some 95) (v := .bool false) rfl rfl (by kernel_rfl) (by kernel_rfl) (by kernel_rfl) (fun _ _ _ h => h) (.inl ⟨by rfl, fun W hW => by go_simp⟩) hS ?_
          try simp only [Act.put, List.setIfInBounds_toArray, List.set_cons_zero, List.set_cons_succ]
          refine take_d (i := 35) (d := some 96) (v := .bool false) rfl rfl (by kernel_rfl) (by kernel_rfl) (by kernel_rfl) (fun _ _ _ h => h) (.inl ⟨by rfl, fun W hW => by go_simp⟩) hS ?_
          try simp only [Act.put, List.setIfInBounds_toArray, List.set_cons_zero, List.set_cons_succ]
          refine wpAnyH_done (by kernel_rfl) ?_ _
          have HF := Lib.hid hS.bel
          clear hS hK0
          go_wp2_with fail
          go_roundw
          case rel => exact ⟨k + 1, by omega, by go_num, HF.out⟩
          case measure => simp [intOf]; omega
        · rw [decide_eq_false hmay]
          rw [show encW ⟨O, A, B, M⟩ = 0 from if_neg hmay, show encE ⟨O, A, B, M⟩ = 2 from if_neg hmay, show txtV ⟨O, A, B, M⟩ = ⟨#[]⟩ from if_neg hmay]
          clear hmay HEN HTX HRM
          go_wp2_with fail
          go_roundw
          case rel => exact ⟨k + 1, by omega, by go_num, BF3.out⟩
          case measure => simp [intOf]; omega
      · have hK := Lib.hid (known_any wr HE.out)
        go_wp2_with fail
        refine hK.out.mono ?_
        rintro e w1 ⟨rfl, b1⟩
        go_wp2_with fail
        go_ret
        exact ⟨rfl, hb.out.trans (b1.mono hb.out.size)⟩

theorem IsaEncode_walk (v : Value) (xs : List Ins) (w : World) (h : Env w) (z : InsIn w v xs) :
    Calls Tryd.prog 4 #[v] w fun e w' => e = .returned (.bool true) ∧ Below w.heap.size w w' := IsaEncode_any v w h (inss_loop z)
end Go.Proofs.YtcbbinmecnameaaDoor

/-
  Layer 16: LogRecords: walk. Written by gen_lrec.py. Layer 16: LogChecks: walk. Written by gen_lchk.py. Layer 16: LogEncodes: walk. Written by gen_lenc.py.
-/
import Derived.Test.YtjffclcjijpmiaaG26
import Derived.Test.YtjffclcjijpmiaaG08
import Derived.Test.YtjffclcjijpmiaaG07
import Derived.Test.YtjffclcjijpmiaaG09
import Derived.Test.YtjffclcjijpmiaaG20
import Derived.Test.YtjffclcjijpmiaaG18
set_option linter.unusedVariables false
set_option linter.unusedSimpArgs false
namespace Go.Proofs.Ytjffclcjijpmiaa.LG
open Go.RowKit
set_option maxHeartbeats 8000000
set_option maxRecDepth 100000
set_option linter.unusedVariables false
set_option linter.unusedSimpArgs false

/-- What is held: bytes, a log in its box. -/
structure LbS (B : Nat) (l : Lg) (vb rv : Value) (W : World) : Prop where
  b : Bs W vb l.enc
  i : LgIn W rv l
  l : Blk W B (lgc l rv) 26
theorem LbS.stb (B : Nat) (l : Lg) (vb rv : Value) : Free.Stb (LbS B l vb rv) := fun _ _ h hb => ⟨h.b.below hb, h.i.below hb, h.l.below hb⟩
theorem LbS.cells {B : Nat} {l : Lg} {vb rv : Value} {W : World} (h : LbS B l vb rv W) : W.cell? ⟨B, 0, none⟩ = some (.int .i64 l.fr) ∧ W.cell? ⟨B, 1, none⟩ = some (.int .i64 l.se) ∧ W.cell? ⟨B, 2, none⟩ = some (.int .i64 l.mo) ∧ W.cell? ⟨B, 3, none⟩ = some rv ∧ W.cell? ⟨B, 4, none⟩ = some (.bool l.wh) ∧ W.cell? ⟨B, 5, none⟩ = some (.int .i64 l.en) := ⟨h.l.cell 0, h.l.cell 1, h.l.cell 2, h.l.cell 3, h.l.cell 4, h.l.cell 5⟩
theorem one_ok (r : Rc) : Lg.ok ⟨1, 1, 1, [r], false, 0⟩ = r.right := by
  unfold Lg.ok rsOk rsOk headOk Rc.right
  rw [Bool.eq_iff_iff]
  simp
  exact ⟨fun h => h.2.1, fun h => ⟨by decide, h, h.1.1⟩⟩
theorem one_bound (r : Rc) : Lg.bound ⟨1, 1, 1, [r], false, 0⟩ = 48 + (r.bs.length : Int) := by
  unfold Lg.bound
  simp
theorem LogRecords_walk {w : World} {r : Rc} {bv : Value} (hb : Bs w bv r.bs) (hr : Ri r) : Calls Try.prog 5 #[.agg (rcl r bv).toArray] w fun e w' => e = .returned (.bool true) ∧ Below w.heap.size w w' := by
  obtain ⟨t, k, n, bs⟩ := r
  obtain ⟨bo, bc, rfl, _, _⟩ := hb.shape
  simp only [rcl]
  have kR := blk_new w #[.int .i64 t, .int .i64 k, .int .i64 n, .slice bo bs.length bc] 42
  have bR := bel1 w (.cells #[.int .i64 t, .int .i64 k, .int .i64 n, .slice bo bs.length bc] 42)
  obtain ⟨y0, y1, y2, y3⟩ : (w.alloc (.cells #[.int .i64 t, .int .i64 k, .int .i64 n, .slice bo bs.length bc] 42)).cell? ⟨w.heap.size, 0, none⟩ = some (.int .i64 t) ∧ (w.alloc (.cells #[.int .i64 t, .int .i64 k, .int .i64 n, .slice bo bs.length bc] 42)).cell? ⟨w.heap.size, 1, none⟩ = some (.int .i64 k) ∧ (w.alloc (.cells #[.int .i64 t, .int .i64 k, .int .i64 n, .slice bo bs.length bc] 42)).cell? ⟨w.heap.size, 2, none⟩ = some (.int .i64 n) ∧ (w.alloc (.cells #[.int .i64 t, .int .i64 k, .int .i64 n, .slice bo bs.length bc] 42)).cell? ⟨w.heap.size, 3, none⟩ = some (.slice bo bs.length bc) := ⟨kR.cell 0, kR.cell 1, kR.cell 2, kR.cell 3⟩
  have HB1 := Lib.hid bR
  have HV1 := Lib.hid (hb.below bR)
  have HR1 := Lib.hid kR
  have HI := Lib.hid hr
  clear bR kR hb hr
  go_enter Try.func5, Try.ntmps5
  by_cases hlen : bs.length ≤ 5000
  rotate_left
  · have hgt : (5000 : Int) < (bs.length : Int) := by omega
    go_wp2_with fail
    refine (works_any _).mono ?_
    rintro e W2 ⟨rfl, hb2⟩
    have HB2 := Lib.hid (belT HB1.out hb2)
    clear hb2 HV1 HR1 y0 y1 y2 y3
    go_wp2
    go_ret
    exact ⟨rfl, HB2.out⟩
  have hle : ¬ (5000 : Int) < (bs.length : Int) := by omega
  go_wp2_with fail
  have b2 := bel1 (w.alloc (.cells #[.int .i64 t, .int .i64 k, .int .i64 n, .slice bo bs.length bc] 42)) (.cells #[.int .i64 t, .int .i64 k, .int .i64 n, .slice bo bs.length bc] 42)
  have k2 := blk_new (w.alloc (.cells #[.int .i64 t, .int .i64 k, .int .i64 n, .slice bo bs.length bc] 42)) #[.int .i64 t, .int .i64 k, .int .i64 n, .slice bo bs.length bc] 42
  have b3 := bel1 ((w.alloc (.cells #[.int .i64 t, .int .i64 k, .int .i64 n, .slice bo bs.length bc] 42)).alloc (.cells #[.int .i64 t, .int .i64 k, .int .i64 n, .slice bo bs.length bc] 42)) (.cells #[.int .i64 1, .int .i64 1, .int .i64 1, .slice (some ⟨w.heap.size + 1, 0, none⟩) 1 1, .bool false, .int .i64 0] 26)
  have k3 := blk_new ((w.alloc (.cells #[.int .i64 t, .int .i64 k, .int .i64 n, .slice bo bs.length bc] 42)).alloc (.cells #[.int .i64 t, .int .i64 k, .int .i64 n, .slice bo bs.length bc] 42)) #[.int .i64 1, .int .i64 1, .int .i64 1, .slice (some ⟨w.heap.size + 1, 0, none⟩) 1 1, .bool false, .int .i64 0] 26
  have hz3 : ((w.alloc (.cells #[.int .i64 t, .int .i64 k, .int .i64 n, .slice bo bs.length bc] 42)).alloc (.cells #[.int .i64 t, .int .i64 k, .int .i64 n, .slice bo bs.length bc] 42)).heap.size = w.heap.size + 1 + 1 := by simp
  rw [World.size_alloc] at k2
  rw [hz3] at k3
  have hrng := (k2.below b3).range 0 (rcl ⟨t, k, n, bs⟩ (.slice bo bs.length bc)) rfl
  have hI1 : I64 1 := ⟨by decide, by decide⟩
  have hI0 : I64 0 := ⟨by decide, by decide⟩
  have HBW := Lib.hid (belT (belT HB1.out b2) b3)
  have hVW := HV1.out.below (belT b2 b3)
  have HRW := Lib.hid ((HR1.out.below b2).below b3)
  have HLI : Hid (LgIn (((w.alloc (.cells #[.int .i64 t, .int .i64 k, .int .i64 n, .slice bo bs.length bc] 42)).alloc (.cells #[.int .i64 t, .int .i64 k, .int .i64 n, .slice bo bs.length bc] 42)).alloc (.cells #[.int .i64 1, .int .i64 1, .int .i64 1, .slice (some ⟨w.heap.size + 1, 0, none⟩) 1 1, .bool false, .int .i64 0] 26)) (.slice (some ⟨w.heap.size + 1, 0, none⟩) 1 1) ⟨1, 1, 1, [⟨t, k, n, bs⟩], false, 0⟩) := by
    refine Lib.hid ⟨⟨rcl ⟨t, k, n, bs⟩ (.slice bo bs.length bc), ⟨rfl, _, _, rfl, Nat.le_refl _, by unfold maxLen; simp, fun _ => ⟨_, _, rfl, hrng⟩⟩, ⟨_, [], by simp, hVW, rfl⟩, fun x hx => ?_⟩, hI1, hI1, hI1, hI0⟩
    simp at hx
    subst hx
    exact HI.out
  have HVW := Lib.hid hVW
  have HL3 := Lib.hid k3
  clear b2 k2 b3 k3 hz3 hrng hVW HB1 HV1 HR1 y0 y1 y2 y3
  generalize ((w.alloc (.cells #[.int .i64 t, .int .i64 k, .int .i64 n, .slice bo bs.length bc] 42)).alloc (.cells #[.int .i64 t, .int .i64 k, .int .i64 n, .slice bo bs.length bc] 42)).alloc (.cells #[.int .i64 1, .int .i64 1, .int .i64 1, .slice (some ⟨w.heap.size + 1, 0, none⟩) 1 1, .bool false, .int .i64 0] 26) = W3 at *
  obtain ⟨RB, hRB⟩ : ∃ X, w.heap.size = X := ⟨_, rfl⟩
  have hwR : w.heap.size ≤ RB := by omega
  rw [hRB] at HRW HLI HL3 ⊢
  obtain ⟨SB, hSB⟩ : ∃ X, RB + 1 = X := ⟨_, rfl⟩
  rw [hSB] at HLI HL3 ⊢
  obtain ⟨LB, hLB⟩ : ∃ X, SB + 1 = X := ⟨_, rfl⟩
  rw [hLB] at HL3 ⊢
  clear hRB hSB hLB hwR
  have hbd : Lg.bound ⟨1, 1, 1, [⟨t, k, n, bs⟩], false, 0⟩ ≤ 500000 := by rw [one_bound]; simp; omega
  have hby : Lg.By ⟨1, 1, 1, [⟨t, k, n, bs⟩], false, 0⟩ := HLI.out.r.by8
  have HC := Lib.hid (PEncode_any HLI.out hby (fun h => by have := enc_bound h hby; omega))
  refine HC.out.mono ?_
  rintro e W4 ⟨hb4, (⟨hok, v, rfl, hv⟩ | ⟨hno, rfl⟩)⟩
  · have hri : Rc.right ⟨t, k, n, bs⟩ = true := by rw [← one_ok]; exact hok
    obtain ⟨vo, vc, rfl, _, _⟩ := hv.shape
    have HV4 := Lib.hid hv
    have HI4 := Lib.hid (HLI.out.below hb4)
    have HL4 := Lib.hid (HL3.out.below hb4)
    have HB4 := Lib.hid (belT HBW.out hb4)
    have hR4 := HRW.out.below hb4
    have HX := Lib.hid (Right_any (r := ⟨t, k, n, bs⟩) HI.out (HVW.out.below hb4))
    rw [hri] at HX
    simp only at HX
    have HOK := Lib.hid (And.intro hok hbd)
    obtain ⟨y0, y1, y2, y3⟩ : W4.cell? ⟨RB, 0, none⟩ = some (.int .i64 t) ∧ W4.cell? ⟨RB, 1, none⟩ = some (.int .i64 k) ∧ W4.cell? ⟨RB, 2, none⟩ = some (.int .i64 n) ∧ W4.cell? ⟨RB, 3, none⟩ = some (.slice bo bs.length bc) := ⟨hR4.cell 0, hR4.cell 1, hR4.cell 2, hR4.cell 3⟩
    clear hb4 hv hR4 HLI HL3 HBW HRW HVW HC hok hri hby hbd
    generalize hl : (⟨1, 1, 1, [⟨t, k, n, bs⟩], false, 0⟩ : Lg) = l at *
    replace hl := Lib.hid hl
    go_wp2_with fail
    refine HX.out.mono ?_
    rintro e W5 ⟨rfl, hb5⟩
    replace HV4 := Lib.hid (HV4.out.below hb5)
    replace HI4 := Lib.hid (HI4.out.below hb5)
    replace HL4 := Lib.hid (HL4.out.below hb5)
    replace HB4 := Lib.hid (belT HB4.out hb5)
    clear hb5 HX y0 y1 y2 y3
    go_wp2_with fail
    obtain ⟨s1, HS1⟩ : ∃ s, Hid (strOfNums l.enc = s ∧ (s.toList == s.toList) = true) := ⟨_, Lib.hid ⟨rfl, by simp⟩⟩
    have hS : LbS LB l (.slice vo l.enc.length vc) (.slice (some ⟨SB, 0, none⟩) 1 1) W5.drew := LbS.stb _ _ _ _ _ _ ⟨HV4.out, HI4.out, by rw [← hl.out]; exact HL4.out⟩ (Below.refl _ _).drew
    have hB5 := HB4.out.drew
    clear HV4 HI4 HL4 HB4
    refine Free.any (LbS LB l (.slice vo l.enc.length vc) (.slice (some ⟨SB, 0, none⟩) 1 1)) (LbS.stb _ _ _ _) hS (fun st => ?_)
    refine Free.tk 0 (some 34) ?_ (hy := by intro W hW; go_simp; try with_reducible rfl)
    refine Free.tk 1 (some 35) (v := .string s1) ?_ (hy := by intro W hW; have q1 := str_conv hW.b; rw [HS1.out.1] at q1; go_simp; try with_reducible rfl)
    refine Free.tk 2 (some 36) (v := .agg #[.int .i64 1, .int .i64 1, .int .i64 1, .slice (some ⟨SB, 0, none⟩) 1 1, .bool false, .int .i64 0]) ?_ (hy := by intro W hW; obtain ⟨q0, q1, q2, q3, q4, q5⟩ := hW.cells; rw [← hl.out] at q0 q1 q2 q4 q5; simp only at q0 q1 q2 q4 q5; go_simp; try with_reducible rfl)
    refine Free.one 3 (fun W6 hb6 hW6 => ?_)
    refine o_callb (some 37) (by go_simp; first | exact ⟨rfl, rfl⟩ | rfl) ?_
    have HE := Encode_any hW6.i HOK.out.1 HOK.out.2
    rw [← hl.out] at HE
    refine HE.mono ?_
    rintro e W7 ⟨v2, rfl, hog, hb7⟩
    refine ⟨_, rfl, st _ _ hW6 hb7, ?_⟩
    rw [hl.out] at hog
    have hv2 := Og.bs hog hW6.b.2
    obtain ⟨v2o, v2c, rfl, _, _⟩ := hv2.shape
    have hB7 := hB5.trans ((hb6.trans (hb7.mono hb6.size)).mono hB5.size)
    clear hog hb7 hW6 hb6 HE hS hB5
    refine Free.one 4 (fun W8 hb8 hW8 => ?_)
    refine o_okb (some 38) (.string s1) W8 (by have q1 := str_conv (hv2.below hb8); rw [HS1.out.1] at q1; go_simp; try rfl) ⟨hW8, ?_⟩
    have hB8 := hB7.trans (hb8.mono hB7.size)
    clear hb8 hW8 hv2 hB7
    refine Free.tk 5 (some 39) (v := .bool true) ?_ (hy := by intro W hW; have q1 := HS1.out.2; go_simp; try with_reducible rfl)
    refine Free.tk 6 (some 40) ?_ (hy := by intro W hW; go_simp; try with_reducible rfl)
    refine Free.tk 7 (some 41) ?_ (hy := by intro W hW; go_simp; try with_reducible rfl)
    refine Free.cl 8 (some 42) (v := .int .i64 0) st (fun W hW => (num_any 0 W).mono (fun e w' h => ⟨h.1, h.2 ▸ Below.refl _ _⟩)) ?_
    refine Free.tk 9 (some 43) (v := .bool true) ?_ (hy := by intro W hW; go_simp; try with_reducible rfl)
    refine Free.tk 10 (some 44) ?_ (hy := by intro W hW; go_simp; try with_reducible rfl)
    refine Free.tk 11 (some 45) ?_ (hy := by intro W hW; go_simp; try with_reducible rfl)
    refine Free.cl 12 (some 46) (v := .bool true) st (fun W hW => works_any W) ?_
    refine Free.tk 13 (some 47) ?_ (hy := by intro W hW; go_simp; try with_reducible rfl)
    refine Free.tk 14 (some 2) ?_ (hy := by intro W hW; go_simp; try with_reducible rfl)
    refine Free.done (fun W9 hb9 hW9 => ?_)
    have HB9 := Lib.hid (hB8.trans (hb9.mono hB8.size))
    clear hb9 hW9 hB8
    go_wp2
    go_ret
    exact ⟨rfl, HB9.out⟩
  · have hri : Rc.right ⟨t, k, n, bs⟩ = false := by rw [← one_ok]; exact hno
    have HB4 := Lib.hid (belT HBW.out hb4)
    have hR4 := HRW.out.below hb4
    have HX := Lib.hid (Right_any (r := ⟨t, k, n, bs⟩) HI.out (HVW.out.below hb4))
    rw [hri] at HX
    simp only at HX
    obtain ⟨y0, y1, y2, y3⟩ : W4.cell? ⟨RB, 0, none⟩ = some (.int .i64 t) ∧ W4.cell? ⟨RB, 1, none⟩ = some (.int .i64 k) ∧ W4.cell? ⟨RB, 2, none⟩ = some (.int .i64 n) ∧ W4.cell? ⟨RB, 3, none⟩ = some (.slice bo bs.length bc) := ⟨hR4.cell 0, hR4.cell 1, hR4.cell 2, hR4.cell 3⟩
    clear hb4 hR4 HLI HL3 HBW HRW HVW HC hno hri hby hbd
    go_wp2_with fail
    refine HX.out.mono ?_
    rintro e W5 ⟨rfl, hb5⟩
    replace HB4 := Lib.hid (belT HB4.out hb5)
    clear hb5 HX y0 y1 y2 y3
    go_wp2_with fail
    refine (num_any _ _).mono ?_
    rintro e W6 ⟨rfl, rfl⟩
    go_wp2_with fail
    refine (works_any _).mono ?_
    rintro e W7 ⟨rfl, hb7⟩
    replace HB4 := Lib.hid (belT HB4.out hb7)
    clear hb7
    go_wp2
    go_ret
    exact ⟨rfl, HB4.out⟩
end Go.Proofs.Ytjffclcjijpmiaa.LG
namespace Go.Proofs.Ytjffclcjijpmiaa.LG
open Go.RowKit
set_option maxHeartbeats 8000000
set_option maxRecDepth 100000
set_option linter.unusedVariables false
set_option linter.unusedSimpArgs false

/-- Two logs in their boxes. -/
structure LcS (A B : Nat) (a b : Lg) (av bv : Value) (W : World) : Prop where
  ia : LgIn W av a
  ib : LgIn W bv b
  ba : Blk W A (lgc a av) 26
  bb : Blk W B (lgc b bv) 26
theorem LcS.stb (A B : Nat) (a b : Lg) (av bv : Value) : Free.Stb (LcS A B a b av bv) := fun _ _ h hb => ⟨h.ia.below hb, h.ib.below hb, h.ba.below hb, h.bb.below hb⟩
theorem LcS.ca {A B : Nat} {a b : Lg} {av bv : Value} {W : World} (h : LcS A B a b av bv W) : W.cell? ⟨A, 0, none⟩ = some (.int .i64 a.fr) ∧ W.cell? ⟨A, 1, none⟩ = some (.int .i64 a.se) ∧ W.cell? ⟨A, 2, none⟩ = some (.int .i64 a.mo) ∧ W.cell? ⟨A, 3, none⟩ = some av ∧ W.cell? ⟨A, 4, none⟩ = some (.bool a.wh) ∧ W.cell? ⟨A, 5, none⟩ = some (.int .i64 a.en) := ⟨h.ba.cell 0, h.ba.cell 1, h.ba.cell 2, h.ba.cell 3, h.ba.cell 4, h.ba.cell 5⟩
theorem LcS.cb {A B : Nat} {a b : Lg} {av bv : Value} {W : World} (h : LcS A B a b av bv W) : W.cell? ⟨B, 0, none⟩ = some (.int .i64 b.fr) ∧ W.cell? ⟨B, 1, none⟩ = some (.int .i64 b.se) ∧ W.cell? ⟨B, 2, none⟩ = some (.int .i64 b.mo) ∧ W.cell? ⟨B, 3, none⟩ = some bv ∧ W.cell? ⟨B, 4, none⟩ = some (.bool b.wh) ∧ W.cell? ⟨B, 5, none⟩ = some (.int .i64 b.en) := ⟨h.bb.cell 0, h.bb.cell 1, h.bb.cell 2, h.bb.cell 3, h.bb.cell 4, h.bb.cell 5⟩
theorem LogChecks_walk {w : World} {a b : Lg} {av bv : Value} (ha : LgIn w av a) (hb : LgIn w bv b) : Calls Try.prog 3 #[.agg (lgc a av), .agg (lgc b bv)] w fun e w' => e = .returned (.bool true) ∧ Below w.heap.size w w' := by
  obtain ⟨f1, s1, m1, r1, h1, e1⟩ := a
  obtain ⟨f2, s2, m2, r2, h2, e2⟩ := b
  obtain ⟨ao, ac, rfl, _, _⟩ := ha.r.shape
  obtain ⟨bo, bc, rfl, _, _⟩ := hb.r.shape
  have b1 := bel1 w (.cells #[.int .i64 f1, .int .i64 s1, .int .i64 m1, .slice ao r1.length ac, .bool h1, .int .i64 e1] 26)
  have b2 := bel1 (w.alloc (.cells #[.int .i64 f1, .int .i64 s1, .int .i64 m1, .slice ao r1.length ac, .bool h1, .int .i64 e1] 26)) (.cells #[.int .i64 f2, .int .i64 s2, .int .i64 m2, .slice bo r2.length bc, .bool h2, .int .i64 e2] 26)
  have k1 := (blk_new w #[.int .i64 f1, .int .i64 s1, .int .i64 m1, .slice ao r1.length ac, .bool h1, .int .i64 e1] 26).below b2
  have k2 := blk_new (w.alloc (.cells #[.int .i64 f1, .int .i64 s1, .int .i64 m1, .slice ao r1.length ac, .bool h1, .int .i64 e1] 26)) #[.int .i64 f2, .int .i64 s2, .int .i64 m2, .slice bo r2.length bc, .bool h2, .int .i64 e2] 26
  rw [World.size_alloc] at k2
  have HB0 := Lib.hid (belT b1 b2)
  have HS0 : Hid (LcS w.heap.size (w.heap.size + 1) ⟨f1, s1, m1, r1, h1, e1⟩ ⟨f2, s2, m2, r2, h2, e2⟩ (.slice ao r1.length ac) (.slice bo r2.length bc) ((w.alloc (.cells #[.int .i64 f1, .int .i64 s1, .int .i64 m1, .slice ao r1.length ac, .bool h1, .int .i64 e1] 26)).alloc (.cells #[.int .i64 f2, .int .i64 s2, .int .i64 m2, .slice bo r2.length bc, .bool h2, .int .i64 e2] 26))) := Lib.hid ⟨ha.below (belT b1 b2), hb.below (belT b1 b2), k1, k2⟩
  clear b1 b2 k1 k2 ha hb
  simp only [lgc]
  go_enter Try.func3, Try.ntmps3
  go_wp2_with fail
  have HF := Lib.hid (few_any HS0.out.ia)
  generalize (w.alloc (.cells #[.int .i64 f1, .int .i64 s1, .int .i64 m1, .slice ao r1.length ac, .bool h1, .int .i64 e1] 26)).alloc (.cells #[.int .i64 f2, .int .i64 s2, .int .i64 m2, .slice bo r2.length bc, .bool h2, .int .i64 e2] 26) = W0 at *
  obtain ⟨A, hA⟩ : ∃ X, w.heap.size = X := ⟨_, rfl⟩
  obtain ⟨B, hB⟩ : ∃ X, A + 1 = X := ⟨_, rfl⟩
  rw [hA, hB] at HS0 ⊢
  clear hA hB
  simp only [lgc] at HF
  refine HF.out.mono ?_
  rintro e W1 ⟨⟨d, rfl, hd⟩, hb1⟩
  have HB1 := Lib.hid (belT HB0.out hb1)
  have HS1 := Lib.hid (LcS.stb _ _ _ _ _ _ _ _ HS0.out hb1)
  clear hd hb1 HF HS0 HB0
  cases d with
  | false =>
    go_wp2_with fail
    refine (works_any _).mono ?_
    rintro e W2 ⟨rfl, hb2⟩
    have HB2 := Lib.hid (belT HB1.out hb2)
    clear hb2
    go_wp2
    go_ret
    exact ⟨rfl, HB2.out⟩
  | true =>
    obtain ⟨d0, d1, d2, d3, d4, d5⟩ := HS1.out.cb
    simp only at d0 d1 d2 d4 d5
    have HF := Lib.hid (few_any HS1.out.ib)
    simp only [lgc] at HF
    go_wp2_with fail
    refine HF.out.mono ?_
    rintro e W3 ⟨⟨d, rfl, hd⟩, hb3⟩
    replace HB1 := Lib.hid (belT HB1.out hb3)
    have HS3 := Lib.hid (LcS.stb _ _ _ _ _ _ _ _ HS1.out hb3)
    clear hd hb3 HF HS1 d0 d1 d2 d3 d4 d5
    cases d with
    | false =>
      go_wp2_with fail
      refine (works_any _).mono ?_
      rintro e W2 ⟨rfl, hb2⟩
      have HB2 := Lib.hid (belT HB1.out hb2)
      clear hb2
      go_wp2
      go_ret
      exact ⟨rfl, HB2.out⟩
    | true =>
      go_wp2_with fail
      have hS : LcS A B ⟨f1, s1, m1, r1, h1, e1⟩ ⟨f2, s2, m2, r2, h2, e2⟩ (.slice ao r1.length ac) (.slice bo r2.length bc) W3.drew := LcS.stb _ _ _ _ _ _ _ _ HS3.out (Below.refl W3.heap.size W3).drew
      have hB := HB1.out.drew
      clear HS3 HB1
      obtain ⟨cn, hcn⟩ : ∃ c : Int, ckE ⟨f1, s1, m1, r1, h1, e1⟩ = c := ⟨_, rfl⟩
      obtain ⟨dd, hdd⟩ : ∃ d : Bool, decide ((⟨f1, s1, m1, r1, h1, e1⟩ : Lg) = ⟨f2, s2, m2, r2, h2, e2⟩) = d := ⟨_, rfl⟩
      have H1 : Hid (∀ W, LcS A B ⟨f1, s1, m1, r1, h1, e1⟩ ⟨f2, s2, m2, r2, h2, e2⟩ (.slice ao r1.length ac) (.slice bo r2.length bc) W → Calls Try.prog 12 #[.agg #[.int .i64 f1, .int .i64 s1, .int .i64 m1, .slice ao r1.length ac, .bool h1, .int .i64 e1]] W fun e w' => e = .returned (.int .i64 cn) ∧ Below W.heap.size W w') := Lib.hid (fun W hW => by rw [← hcn]; exact PCheck_any hW.ia)
      have H2 : Hid (∀ W, LcS A B ⟨f1, s1, m1, r1, h1, e1⟩ ⟨f2, s2, m2, r2, h2, e2⟩ (.slice ao r1.length ac) (.slice bo r2.length bc) W → Calls Try.prog 11 #[.int .i64 cn] W fun e w' => e = .returned (.int .i64 cn) ∧ Below W.heap.size W w') := Lib.hid (fun W hW => (num_any cn W).mono (fun e w' h => ⟨h.1, h.2 ▸ Below.refl _ _⟩))
      have H3 : Hid (∀ W, LcS A B ⟨f1, s1, m1, r1, h1, e1⟩ ⟨f2, s2, m2, r2, h2, e2⟩ (.slice ao r1.length ac) (.slice bo r2.length bc) W → Calls Try.prog 13 #[.agg #[.int .i64 f1, .int .i64 s1, .int .i64 m1, .slice ao r1.length ac, .bool h1, .int .i64 e1]] W fun e w' => e = .returned (.int .i64 cn) ∧ Below W.heap.size W w') := Lib.hid (fun W hW => by rw [← hcn]; exact Check_any hW.ia)
      have H4 : Hid (∀ W, LcS A B ⟨f1, s1, m1, r1, h1, e1⟩ ⟨f2, s2, m2, r2, h2, e2⟩ (.slice ao r1.length ac) (.slice bo r2.length bc) W → Calls Try.prog 14 #[.agg #[.int .i64 f1, .int .i64 s1, .int .i64 m1, .slice ao r1.length ac, .bool h1, .int .i64 e1], .agg #[.int .i64 f2, .int .i64 s2, .int .i64 m2, .slice bo r2.length bc, .bool h2, .int .i64 e2]] W fun e w' => e = .returned (.bool dd) ∧ Below W.heap.size W w') := Lib.hid (fun W hW => by rw [← hdd]; exact PSame_any hW.ia hW.ib)
      have H5 : Hid (∀ W, LcS A B ⟨f1, s1, m1, r1, h1, e1⟩ ⟨f2, s2, m2, r2, h2, e2⟩ (.slice ao r1.length ac) (.slice bo r2.length bc) W → Calls Try.prog 15 #[.agg #[.int .i64 f1, .int .i64 s1, .int .i64 m1, .slice ao r1.length ac, .bool h1, .int .i64 e1], .agg #[.int .i64 f2, .int .i64 s2, .int .i64 m2, .slice bo r2.length bc, .bool h2, .int .i64 e2]] W fun e w' => e = .returned (.bool dd) ∧ Below W.heap.size W w') := Lib.hid (fun W hW => by rw [← hdd]; exact Same_any hW.ia hW.ib)
      have H6 : Hid (∀ W, LcS A B ⟨f1, s1, m1, r1, h1, e1⟩ ⟨f2, s2, m2, r2, h2, e2⟩ (.slice ao r1.length ac) (.slice bo r2.length bc) W → Calls Try.prog 14 #[.agg #[.int .i64 f1, .int .i64 s1, .int .i64 m1, .slice ao r1.length ac, .bool h1, .int .i64 e1], .agg #[.int .i64 f1, .int .i64 s1, .int .i64 m1, .slice ao r1.length ac, .bool h1, .int .i64 e1]] W fun e w' => e = .returned (.bool true) ∧ Below W.heap.size W w') := Lib.hid (fun W hW => by have := PSame_any hW.ia hW.ia; rw [decide_eq_true rfl] at this; exact this)
      have H7 : Hid (∀ W, LcS A B ⟨f1, s1, m1, r1, h1, e1⟩ ⟨f2, s2, m2, r2, h2, e2⟩ (.slice ao r1.length ac) (.slice bo r2.length bc) W → Calls Try.prog 10 #[] W fun e w' => e = .returned (.bool true) ∧ Below W.heap.size W w') := Lib.hid (fun W hW => works_any W)
      clear hcn hdd
      refine Free.any (LcS A B ⟨f1, s1, m1, r1, h1, e1⟩ ⟨f2, s2, m2, r2, h2, e2⟩ (.slice ao r1.length ac) (.slice bo r2.length bc)) (LcS.stb _ _ _ _ _ _) hS (fun st => ?_)
      refine Free.tk 0 (some 14) (v := .agg #[.int .i64 f1, .int .i64 s1, .int .i64 m1, .slice ao r1.length ac, .bool h1, .int .i64 e1]) ?_ (hy := by intro W hW; obtain ⟨c0, c1, c2, c3, c4, c5⟩ := hW.ca; obtain ⟨d0, d1, d2, d3, d4, d5⟩ := hW.cb; simp only at c0 c1 c2 c4 c5 d0 d1 d2 d4 d5; go_simp; try with_reducible rfl)
      refine Free.cl 1 (some 15) (v := .int .i64 cn) st (fun W hW => H1.out W hW) ?_
      refine Free.cl 2 (some 16) (v := .int .i64 cn) st (fun W hW => H2.out W hW) ?_
      refine Free.tk 3 (some 17) (v := .agg #[.int .i64 f1, .int .i64 s1, .int .i64 m1, .slice ao r1.length ac, .bool h1, .int .i64 e1]) ?_ (hy := by intro W hW; obtain ⟨c0, c1, c2, c3, c4, c5⟩ := hW.ca; obtain ⟨d0, d1, d2, d3, d4, d5⟩ := hW.cb; simp only at c0 c1 c2 c4 c5 d0 d1 d2 d4 d5; go_simp; try with_reducible rfl)
      refine Free.cl 4 (some 18) (v := .int .i64 cn) st (fun W hW => H3.out W hW) ?_
      refine Free.tk 5 (some 19) (v := .bool true) ?_ (hy := by intro W hW; go_simp; try with_reducible rfl)
      refine Free.tk 6 (some 20) ?_ (hy := by intro W hW; go_simp; try with_reducible rfl)
      refine Free.tk 7 (some 21) (v := .agg #[.int .i64 f1, .int .i64 s1, .int .i64 m1, .slice ao r1.length ac, .bool h1, .int .i64 e1]) ?_ (hy := by intro W hW; obtain ⟨c0, c1, c2, c3, c4, c5⟩ := hW.ca; obtain ⟨d0, d1, d2, d3, d4, d5⟩ := hW.cb; simp only at c0 c1 c2 c4 c5 d0 d1 d2 d4 d5; go_simp; try with_reducible rfl)
      refine Free.tk 8 (some 22) (v := .agg #[.int .i64 f2, .int .i64 s2, .int .i64 m2, .slice bo r2.length bc, .bool h2, .int .i64 e2]) ?_ (hy := by intro W hW; obtain ⟨c0, c1, c2, c3, c4, c5⟩ := hW.ca; obtain ⟨d0, d1, d2, d3, d4, d5⟩ := hW.cb; simp only at c0 c1 c2 c4 c5 d0 d1 d2 d4 d5; go_simp; try with_reducible rfl)
      refine Free.cl 9 (some 23) (v := .bool dd) st (fun W hW => H4.out W hW) ?_
      refine Free.tk 10 (some 24) (v := .agg #[.int .i64 f1, .int .i64 s1, .int .i64 m1, .slice ao r1.length ac, .bool h1, .int .i64 e1]) ?_ (hy := by intro W hW; obtain ⟨c0, c1, c2, c3, c4, c5⟩ := hW.ca; obtain ⟨d0, d1, d2, d3, d4, d5⟩ := hW.cb; simp only at c0 c1 c2 c4 c5 d0 d1 d2 d4 d5; go_simp; try with_reducible rfl)
      refine Free.tk 11 (some 25) (v := .agg #[.int .i64 f2, .int .i64 s2, .int .i64 m2, .slice bo r2.length bc, .bool h2, .int .i64 e2]) ?_ (hy := by intro W hW; obtain ⟨c0, c1, c2, c3, c4, c5⟩ := hW.ca; obtain ⟨d0, d1, d2, d3, d4, d5⟩ := hW.cb; simp only at c0 c1 c2 c4 c5 d0 d1 d2 d4 d5; go_simp; try with_reducible rfl)
      refine Free.cl 12 (some 26) (v := .bool dd) st (fun W hW => H5.out W hW) ?_
      refine Free.tk 13 (some 27) (v := .bool true) ?_ (hy := by intro W hW; go_simp; try with_reducible rfl)
      refine Free.tk 14 (some 28) ?_ (hy := by intro W hW; go_simp; try with_reducible rfl)
      refine Free.tk 15 (some 29) ?_ (hy := by intro W hW; go_simp; try with_reducible rfl)
      refine Free.tk 16 (some 30) (v := .agg #[.int .i64 f1, .int .i64 s1, .int .i64 m1, .slice ao r1.length ac, .bool h1, .int .i64 e1]) ?_ (hy := by intro W hW; obtain ⟨c0, c1, c2, c3, c4, c5⟩ := hW.ca; obtain ⟨d0, d1, d2, d3, d4, d5⟩ := hW.cb; simp only at c0 c1 c2 c4 c5 d0 d1 d2 d4 d5; go_simp; try with_reducible rfl)
      refine Free.tk 17 (some 31) (v := .agg #[.int .i64 f1, .int .i64 s1, .int .i64 m1, .slice ao r1.length ac, .bool h1, .int .i64 e1]) ?_ (hy := by intro W hW; obtain ⟨c0, c1, c2, c3, c4, c5⟩ := hW.ca; obtain ⟨d0, d1, d2, d3, d4, d5⟩ := hW.cb; simp only at c0 c1 c2 c4 c5 d0 d1 d2 d4 d5; go_simp; try with_reducible rfl)
      refine Free.cl 18 (some 32) (v := .bool true) st (fun W hW => H6.out W hW) ?_
      refine Free.tk 19 (some 33) ?_ (hy := by intro W hW; go_simp; try with_reducible rfl)
      refine Free.tk 20 (some 34) ?_ (hy := by intro W hW; go_simp; try with_reducible rfl)
      refine Free.cl 21 (some 35) (v := .bool true) st (fun W hW => H7.out W hW) ?_
      refine Free.tk 22 (some 36) ?_ (hy := by intro W hW; go_simp; try with_reducible rfl)
      refine Free.tk 23 (some 4) ?_ (hy := by intro W hW; go_simp; try with_reducible rfl)
      refine Free.done (fun W9 hb9 hW9 => ?_)
      have HB9 := Lib.hid (hB.trans (hb9.mono hB.size))
      clear hb9 hW9 hB
      go_wp2
      go_ret
      exact ⟨rfl, HB9.out⟩
end Go.Proofs.Ytjffclcjijpmiaa.LG
namespace Go.Proofs.Ytjffclcjijpmiaa.LG
open Go.RowKit
set_option maxHeartbeats 8000000
set_option maxRecDepth 100000
set_option linter.unusedVariables false
set_option linter.unusedSimpArgs false

theorem LogEncodes_walk {w : World} {a : Lg} {av : Value} (ha : LgIn w av a) : Calls Try.prog 4 #[.agg (lgc a av)] w fun e w' => e = .returned (.bool true) ∧ Below w.heap.size w w' := by
  obtain ⟨f1, s1, m1, r1, h1, e1⟩ := a
  obtain ⟨ao, ac, rfl, _, _⟩ := ha.r.shape
  have b1 := bel1 w (.cells #[.int .i64 f1, .int .i64 s1, .int .i64 m1, .slice ao r1.length ac, .bool h1, .int .i64 e1] 26)
  have HK0 := Lib.hid (blk_new w #[.int .i64 f1, .int .i64 s1, .int .i64 m1, .slice ao r1.length ac, .bool h1, .int .i64 e1] 26)
  have HB0 := Lib.hid b1
  have HI0 := Lib.hid (ha.below b1)
  clear b1 ha
  simp only [lgc]
  go_enter Try.func4, Try.ntmps4
  go_wp2_with fail
  have HF := Lib.hid (few_any HI0.out)
  generalize w.alloc (.cells #[.int .i64 f1, .int .i64 s1, .int .i64 m1, .slice ao r1.length ac, .bool h1, .int .i64 e1] 26) = W0 at *
  obtain ⟨A, hA⟩ : ∃ X, w.heap.size = X := ⟨_, rfl⟩
  rw [hA] at HK0 ⊢
  clear hA
  simp only [lgc] at HF
  refine HF.out.mono ?_
  rintro e W1 ⟨⟨d, rfl, hd⟩, hb1⟩
  have HB1 := Lib.hid (belT HB0.out hb1)
  have HK1 := Lib.hid (HK0.out.below hb1)
  have HI1 := Lib.hid (HI0.out.below hb1)
  clear hb1 HF HK0 HI0 HB0
  cases d with
  | false =>
    clear hd
    go_wp2_with fail
    refine (works_any _).mono ?_
    rintro e W2 ⟨rfl, hb2⟩
    have HB2 := Lib.hid (belT HB1.out hb2)
    clear hb2
    go_wp2
    go_ret
    exact ⟨rfl, HB2.out⟩
  | true =>
  have HFew := Lib.hid (hd rfl)
  clear hd
  have hbn : Lg.bound ⟨f1, s1, m1, r1, h1, e1⟩ ≤ 20032 := by
    have := HFew.out r1.length
    rw [List.take_length] at this
    exact this
  have hby : Lg.By ⟨f1, s1, m1, r1, h1, e1⟩ := HI1.out.r.by8
  have HC := Lib.hid (PEncode_any HI1.out hby (fun h => by have := enc_bound h hby; omega))
  simp only [lgc] at HC
  obtain ⟨c0, c1, c2, c3, c4, c5⟩ : W1.cell? ⟨A, 0, none⟩ = some (.int .i64 f1) ∧ W1.cell? ⟨A, 1, none⟩ = some (.int .i64 s1) ∧ W1.cell? ⟨A, 2, none⟩ = some (.int .i64 m1) ∧ W1.cell? ⟨A, 3, none⟩ = some (.slice ao r1.length ac) ∧ W1.cell? ⟨A, 4, none⟩ = some (.bool h1) ∧ W1.cell? ⟨A, 5, none⟩ = some (.int .i64 e1) := ⟨HK1.out.cell 0, HK1.out.cell 1, HK1.out.cell 2, HK1.out.cell 3, HK1.out.cell 4, HK1.out.cell 5⟩
  go_wp2_with fail
  refine HC.out.mono ?_
  rintro e W2 ⟨hb2, hres⟩
  have HB2 := Lib.hid (belT HB1.out hb2)
  have HK2 := Lib.hid (HK1.out.below hb2)
  have HI2 := Lib.hid (HI1.out.below hb2)
  have HCB := Lib.hid (PBound_any HI2.out (fun k => by have hk : bdN (r1.take k) ≤ 20032 := HFew.out k; show bdN (r1.take k) ≤ 1000000; omega))
  clear hb2 HC HB1 HK1 HI1 c0 c1 c2 c3 c4 c5
  simp only [lgc] at HCB
  obtain ⟨c0, c1, c2, c3, c4, c5⟩ : W2.cell? ⟨A, 0, none⟩ = some (.int .i64 f1) ∧ W2.cell? ⟨A, 1, none⟩ = some (.int .i64 s1) ∧ W2.cell? ⟨A, 2, none⟩ = some (.int .i64 m1) ∧ W2.cell? ⟨A, 3, none⟩ = some (.slice ao r1.length ac) ∧ W2.cell? ⟨A, 4, none⟩ = some (.bool h1) ∧ W2.cell? ⟨A, 5, none⟩ = some (.int .i64 e1) := ⟨HK2.out.cell 0, HK2.out.cell 1, HK2.out.cell 2, HK2.out.cell 3, HK2.out.cell 4, HK2.out.cell 5⟩
  have hck : ckE ⟨f1, s1, m1, r1, h1, e1⟩ = ckN ⟨f1, s1, m1, r1, h1, e1⟩ := rfl
  rcases hres with ⟨hok, v, rfl, hv⟩ | ⟨hno, rfl⟩
  · obtain ⟨vo, vc, rfl, _, _⟩ := hv.shape
    have hcn : ckN ⟨f1, s1, m1, r1, h1, e1⟩ = 0 := by unfold ckN; rw [if_pos hok]
    rw [hck, hcn, if_pos hok] at HCB
    have HOK := Lib.hid hok
    have HV2 := Lib.hid hv
    clear hv hok hck
    obtain ⟨bd, hbd⟩ : ∃ x, Lg.bound ⟨f1, s1, m1, r1, h1, e1⟩ = x := ⟨_, rfl⟩
    rw [hbd] at HCB
    replace hbd := Lib.hid hbd
    replace hbn := Lib.hid hbn
    replace hby := Lib.hid hby
    replace hcn := Lib.hid hcn
    obtain ⟨l, hl⟩ : ∃ x, (⟨f1, s1, m1, r1, h1, e1⟩ : Lg) = x := ⟨_, rfl⟩
    rw [hl] at HV2 ⊢
    replace hl := Lib.hid hl
    go_wp2_with fail
    refine HCB.out.mono ?_
    rintro e W3 ⟨rfl, hb3⟩
    have HB3 := Lib.hid (belT HB2.out hb3)
    have HK3 := Lib.hid (HK2.out.below hb3)
    have HI3 := Lib.hid (HI2.out.below hb3)
    have HV3 := Lib.hid (HV2.out.below hb3)
    clear hb3 HCB HB2 HK2 HI2 HV2 c0 c1 c2 c3 c4 c5
    obtain ⟨c0, c1, c2, c3, c4, c5⟩ : W3.cell? ⟨A, 0, none⟩ = some (.int .i64 f1) ∧ W3.cell? ⟨A, 1, none⟩ = some (.int .i64 s1) ∧ W3.cell? ⟨A, 2, none⟩ = some (.int .i64 m1) ∧ W3.cell? ⟨A, 3, none⟩ = some (.slice ao r1.length ac) ∧ W3.cell? ⟨A, 4, none⟩ = some (.bool h1) ∧ W3.cell? ⟨A, 5, none⟩ = some (.int .i64 e1) := ⟨HK3.out.cell 0, HK3.out.cell 1, HK3.out.cell 2, HK3.out.cell 3, HK3.out.cell 4, HK3.out.cell 5⟩
    have HCK := Lib.hid (Check_any HI3.out)
    rw [hcn.out] at HCK
    simp only [lgc] at HCK
    go_wp2_with fail
    refine HCK.out.mono ?_
    rintro e W4 ⟨rfl, hb4⟩
    have HB4 := Lib.hid (belT HB3.out hb4)
    have HK4 := Lib.hid (HK3.out.below hb4)
    have HI4 := Lib.hid (HI3.out.below hb4)
    have HV4 := Lib.hid (HV3.out.below hb4)
    clear hb4 HCK HB3 HK3 HI3 HV3 c0 c1 c2 c3 c4 c5
    go_wp2_with fail
    have hS : LbS A l (.slice vo l.enc.length vc) (.slice ao r1.length ac) W4.drew := LbS.stb _ _ _ _ _ _ ⟨HV4.out, by rw [← hl.out]; exact HI4.out, by rw [← hl.out]; exact HK4.out⟩ (Below.refl _ _).drew
    have hB4 := HB4.out.drew
    clear HB4 HK4 HI4 HV4
    obtain ⟨st1, HS1⟩ : ∃ s, Hid (strOfNums l.enc = s ∧ (s.toList == s.toList) = true) := ⟨_, Lib.hid ⟨rfl, by simp⟩⟩
    have HBd : Hid (∀ W, LbS A l (.slice vo l.enc.length vc) (.slice ao r1.length ac) W → Calls Try.prog 19 #[.agg #[.int .i64 f1, .int .i64 s1, .int .i64 m1, .slice ao r1.length ac, .bool h1, .int .i64 e1]] W fun e w' => e = .returned (.int .i64 bd) ∧ Below W.heap.size W w') := Lib.hid (fun W hW => by
      have hi := hW.i
      rw [← hl.out] at hi
      have := Bound_any hi (fun k => by have hk : bdN (r1.take k) ≤ 20032 := HFew.out k; show bdN (r1.take k) ≤ 4611686018427387904; omega)
      rw [hbd.out] at this
      exact this)
    have HNum : Hid (∀ W, LbS A l (.slice vo l.enc.length vc) (.slice ao r1.length ac) W → Calls Try.prog 11 #[.int .i64 0] W fun e w' => e = .returned (.int .i64 0) ∧ Below W.heap.size W w') := Lib.hid (fun W hW => (num_any 0 W).mono (fun e w' h => ⟨h.1, h.2 ▸ Below.refl _ _⟩))
    have HWk : Hid (∀ W, LbS A l (.slice vo l.enc.length vc) (.slice ao r1.length ac) W → Calls Try.prog 10 #[] W fun e w' => e = .returned (.bool true) ∧ Below W.heap.size W w') := Lib.hid (fun W hW => works_any W)
    refine Free.any (LbS A l (.slice vo l.enc.length vc) (.slice ao r1.length ac)) (LbS.stb _ _ _ _) hS (fun st => ?_)
    refine Free.tk 0 (some 44) ?_ (hy := by intro W hW; go_simp; try with_reducible rfl)
    refine Free.tk 1 (some 45) (v := .string st1) ?_ (hy := by intro W hW; have q1 := str_conv hW.b; rw [HS1.out.1] at q1; go_simp; try with_reducible rfl)
    refine Free.tk 2 (some 46) (v := .agg #[.int .i64 f1, .int .i64 s1, .int .i64 m1, .slice ao r1.length ac, .bool h1, .int .i64 e1]) ?_ (hy := by intro W hW; obtain ⟨c0, c1, c2, c3, c4, c5⟩ := hW.cells; rw [← hl.out] at c0 c1 c2 c4 c5; simp only at c0 c1 c2 c4 c5; go_simp; try with_reducible rfl)
    refine Free.one 3 (fun W6 hb6 hW6 => ?_)
    refine o_callb (some 47) (by go_simp; first | exact ⟨rfl, rfl⟩ | rfl) ?_
    have hi6 := hW6.i
    rw [← hl.out] at hi6
    have HE := Encode_any hi6 HOK.out (by have := hbn.out; omega)
    refine HE.mono ?_
    rintro e W7 ⟨v2, rfl, hog, hb7⟩
    refine ⟨_, rfl, st _ _ hW6 hb7, ?_⟩
    rw [hl.out] at hog
    have hv2 := Og.bs hog hW6.b.2
    obtain ⟨v2o, v2c, rfl, _, _⟩ := hv2.shape
    have hB7 := hB4.trans ((hb6.trans (hb7.mono hb6.size)).mono hB4.size)
    clear hog hb7 hW6 hb6 HE hS hB4 hi6
    refine Free.one 4 (fun W8 hb8 hW8 => ?_)
    refine o_okb (some 48) (.string st1) W8 (by have q1 := str_conv (hv2.below hb8); rw [HS1.out.1] at q1; go_simp; try rfl) ⟨hW8, ?_⟩
    have hB8 := hB7.trans (hb8.mono hB7.size)
    clear hb8 hW8 hv2 hB7
    refine Free.tk 5 (some 49) (v := .bool true) ?_ (hy := by intro W hW; have q1 := HS1.out.2; go_simp; try with_reducible rfl)
    refine Free.tk 6 (some 50) ?_ (hy := by intro W hW; go_simp; try with_reducible rfl)
    refine Free.tk 7 (some 51) ?_ (hy := by intro W hW; go_simp; try with_reducible rfl)
    refine Free.tk 8 (some 52) (v := .agg #[.int .i64 f1, .int .i64 s1, .int .i64 m1, .slice ao r1.length ac, .bool h1, .int .i64 e1]) ?_ (hy := by intro W hW; obtain ⟨c0, c1, c2, c3, c4, c5⟩ := hW.cells; rw [← hl.out] at c0 c1 c2 c4 c5; simp only at c0 c1 c2 c4 c5; go_simp; try with_reducible rfl)
    refine Free.cl 9 (some 53) (v := .int .i64 bd) st (fun W hW => HBd.out W hW) ?_
    refine Free.tk 10 (some 54) (v := .bool true) ?_ (hy := by intro W hW; go_simp; try with_reducible rfl)
    refine Free.tk 11 (some 55) ?_ (hy := by intro W hW; go_simp; try with_reducible rfl)
    refine Free.tk 12 (some 56) ?_ (hy := by intro W hW; go_simp; try with_reducible rfl)
    refine Free.tk 13 (some 57) ?_ (hy := by intro W hW; go_simp; try with_reducible rfl)
    refine Free.cl 14 (some 58) (v := .int .i64 0) st (fun W hW => HNum.out W hW) ?_
    refine Free.tk 15 (some 59) ?_ (hy := by intro W hW; go_simp; try with_reducible rfl)
    refine Free.cl 16 (some 60) (v := .int .i64 0) st (fun W hW => HNum.out W hW) ?_
    refine Free.tk 17 (some 61) (v := .int .i64 0) ?_ (hy := by intro W hW; go_simp; rfl)
    refine Free.tk 18 (some 62) (v := .bool true) ?_ (hy := by intro W hW; go_simp; try with_reducible rfl)
    refine Free.tk 19 (some 63) ?_ (hy := by intro W hW; go_simp; try with_reducible rfl)
    refine Free.tk 20 (some 64) ?_ (hy := by intro W hW; go_simp; try with_reducible rfl)
    refine Free.cl 21 (some 65) (v := .bool true) st (fun W hW => HWk.out W hW) ?_
    refine Free.tk 22 (some 66) ?_ (hy := by intro W hW; go_simp; try with_reducible rfl)
    refine Free.tk 23 (some 2) ?_ (hy := by intro W hW; go_simp; try with_reducible rfl)
    refine Free.done (fun W9 hb9 hW9 => ?_)
    have HB9 := Lib.hid (hB8.trans (hb9.mono hB8.size))
    clear hb9 hW9 hB8
    go_wp2
    go_ret
    exact ⟨rfl, HB9.out⟩
  · have hcn : ckN ⟨f1, s1, m1, r1, h1, e1⟩ = 260 := by unfold ckN; rw [if_neg (by rw [hno]; simp)]
    rw [hck, hcn, if_neg (by rw [hno]; simp)] at HCB
    replace hcn := Lib.hid hcn
    clear hno hck hbn hby
    go_wp2_with fail
    refine HCB.out.mono ?_
    rintro e W3 ⟨rfl, hb3⟩
    have HB3 := Lib.hid (belT HB2.out hb3)
    have HK3 := Lib.hid (HK2.out.below hb3)
    have HI3 := Lib.hid (HI2.out.below hb3)
    clear hb3 HCB HB2 HK2 HI2 c0 c1 c2 c3 c4 c5
    obtain ⟨c0, c1, c2, c3, c4, c5⟩ : W3.cell? ⟨A, 0, none⟩ = some (.int .i64 f1) ∧ W3.cell? ⟨A, 1, none⟩ = some (.int .i64 s1) ∧ W3.cell? ⟨A, 2, none⟩ = some (.int .i64 m1) ∧ W3.cell? ⟨A, 3, none⟩ = some (.slice ao r1.length ac) ∧ W3.cell? ⟨A, 4, none⟩ = some (.bool h1) ∧ W3.cell? ⟨A, 5, none⟩ = some (.int .i64 e1) := ⟨HK3.out.cell 0, HK3.out.cell 1, HK3.out.cell 2, HK3.out.cell 3, HK3.out.cell 4, HK3.out.cell 5⟩
    have HCK := Lib.hid (Check_any HI3.out)
    rw [hcn.out] at HCK
    simp only [lgc] at HCK
    go_wp2_with fail
    refine HCK.out.mono ?_
    rintro e W4 ⟨rfl, hb4⟩
    have HB4 := Lib.hid (belT HB3.out hb4)
    clear hb4 HCK HB3 HK3 HI3 c0 c1 c2 c3 c4 c5
    go_wp2_with fail
    refine (num_any _ _).mono ?_
    rintro e W6 ⟨rfl, rfl⟩
    go_wp2_with fail
    refine (num_any _ _).mono ?_
    rintro e W6 ⟨rfl, rfl⟩
    go_wp2_with fail
    refine (works_any _).mono ?_
    rintro e W7 ⟨rfl, hb7⟩
    replace HB4 := Lib.hid (belT HB4.out hb7)
    clear hb7
    go_wp2
    go_ret
    exact ⟨rfl, HB4.out⟩
end Go.Proofs.Ytjffclcjijpmiaa.LG

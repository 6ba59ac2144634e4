/-
  Layer 2: the walk of LabelsTexts.
-/
import Derived.Test.YtafnclkkncokpaaDoorOf
namespace Go.Proofs.YtafnclkkncokpaaDoor
open Go.RowKit
set_option maxHeartbeats 1000000

/-- A slice of ints that a call has made: its form and its cells. -/
theorem ints_form {w : World} {base n : Nat} {v : Value} {zs : List Int} (hz : zs.length = n) (h : w.ownsRow base 3 1 v n (zs.map (Value.int .i64))) :
    ∃ (o : Option Addr) (c : Nat), v = .slice o n c ∧ ∀ k, k < n → ∃ g, o = some ⟨g, 0, none⟩ ∧ k < c ∧ w.cell? ⟨g, k, none⟩ = some (.int .i64 (zs[k]?.getD 0)) := by
  rcases h.2 with ⟨h1, h0⟩ | ⟨g, cap, cur, h1, _, hg, hc, _⟩
  · subst h0
    exact ⟨none, 0, h1, fun k hk => absurd hk (Nat.not_lt_zero k)⟩
  · subst h1
    refine ⟨_, cap, rfl, fun k hk => ⟨g, rfl, by omega, ?_⟩⟩
    have h2 := h.cells (g := g) rfl k (.int .i64 (zs[k]?.getD 0)) (by simp [List.getElem?_eq_getElem (show k < zs.length by omega)])
    have e : (⟨g, 0, none⟩ : Addr).add k = ⟨g, k, none⟩ := by unfold Addr.add; split <;> simp_all
    rwa [e] at h2
theorem row_below {w w' : World} {base n : Nat} {v : Value} {vs : List Value} (h : w.ownsRow base 3 1 v n vs) (hb : Below w.heap.size w w') : w'.ownsRow base 3 1 v n vs :=
  (Turned.of_below hb []).row h (fun _ _ hm => by cases hm)
def labI (x : Int) : List Int := (labN x 16).map fun i => (i.val : Int)
theorem labI_len (x : Int) : (labI x).length ≤ 16 := by unfold labI; rw [List.length_map]; exact labN_len x 16
theorem Labels_i (x : Int) (hx : W32 x) (w : World) : Calls Tryd.prog 21 #[.int .u32 x] w fun e w' => ∃ v, e = .returned v ∧ Hid (w'.ownsRow w.heap.size 3 1 v (labI x).length ((labI x).map (Value.int .i64)) ∧ Below w.heap.size w w') := by
  have := Labels_any x hx w
  unfold labI
  rw [List.length_map, List.map_map]
  exact this
theorem RLabels_i (x : Int) (hx : W32 x) (w : World) : Calls Tryd.prog 22 #[.int .u32 x] w fun e w' => ∃ v, e = .returned v ∧ Hid (w'.ownsRow w.heap.size 3 1 v (labI x).length ((labI x).map (Value.int .i64)) ∧ Below w.heap.size w w') := by
  have := RLabels_any x hx w
  unfold labI
  rw [List.length_map, List.map_map]
  exact this
theorem keep1 {E W W9 : World} {p : Addr} {v : Value} (hb : Below W.heap.size W W9) (h0 : W.cell? p = some v) (hE : Below E.heap.size E W) : W9.cell? p = some v ∧ Below E.heap.size E W9 :=
  ⟨below_cell' hb h0, hE.trans (hb.mono hE.size)⟩

theorem NumsIn.below {k : IntKind} {w w' : World} {v : Value} {xs : List Int} (h : NumsIn k w v xs) (hb : Below w.heap.size w w') : NumsIn k w' v xs := by
  rcases h with h | ⟨a, c, h1, h2, h3, h4, h5⟩
  · exact .inl h
  · exact .inr ⟨a, c, h1, h2, h3, fun i x hx => below_cell' hb (h4 i x hx), h5⟩
theorem allLab_succ (ls : List Int) (k : Nat) (h : k < ls.length) : allLab (ls.take (k + 1)) = (allLab (ls.take k) && decide (isLab (ls[k]'h))) := by
  unfold allLab
  rw [List.take_add_one, List.getElem?_eq_getElem h, List.all_append]
  simp
theorem orV_lab (ls : List Int) (k : Nat) (hk : k ≤ ls.length) (h : allLab (ls.take k) = true) : S16 (orV ls k) :=
  orV_s16 ls k hk (fun i hi hik => (allLab_iff _).1 h _ (List.mem_iff_getElem.2 ⟨i, by simp; omega, by simp⟩))

set_option maxRecDepth 100000 in
theorem LabelsTexts_walk (va : Value) (xs : List Int) (vb : Value) (ls : List Int) (w : World) (ha : NumsIn .u32 w va xs) (hb : NumsIn .i64 w vb ls) :
    Calls Tryd.prog 6 #[va, vb] w fun e w' => e = .returned (.bool true) ∧ Below w.heap.size w w' := by
  have HVB := Lib.hid hb
  obtain ⟨oa, ca, rfl, hcapa, hla, hca⟩ := ha.form
  obtain ⟨ob, cb, rfl, hcapb, hlb, hcb⟩ := hb.form
  have HCA := Lib.hid hca
  have HCB := Lib.hid hcb
  clear ha hb hca hcb
  by_cases hbad : 40 < (xs.length : Int) ∨ 20 < (ls.length : Int)
  · clear HCA HCB HVB
    go_enter Tryd.func6, Tryd.ntmps6
    by_cases h1 : 40 < (xs.length : Int)
    all_goals
      go_wp2_with (go_at_call 9; (with_reducible refine (known_any _).mono ?_); rintro e w3 ⟨rfl, hb3⟩)
      go_ret
      exact ⟨rfl, hb3⟩
  · have b1 : (xs.length : Int) ≤ 40 := by omega
    have b2 : (ls.length : Int) ≤ 20 := by omega
    go_enter Tryd.func6, Tryd.ntmps6
    go_wp2_with fail
    go_loopw [5] (fun i wr => ∃ k : Nat, k ≤ xs.length ∧ i = .int .i64 k ∧ Hid (Below w.heap.size w wr)) (fun i _ => xs.length - (intOf i).toNat)
    case atStart => exact ⟨0, by omega, rfl, Below.refl _ _⟩
    case round =>
      obtain ⟨k, hk, rfl, HI⟩ := hrel
      by_cases hlt : k < xs.length
      · obtain ⟨y, hy⟩ : ∃ y, xs[k]? = some y := ⟨_, List.getElem?_eq_getElem hlt⟩
        obtain ⟨a, rfl, hca, hwf⟩ := HCA.out k y hy
        have p0 := below_cell' HI.out hca
        have HY := Lib.hid (w32_of_wf hwf)
        have HH0 : Hid (wr.drew.cell? (a.add k) = some (.int .u32 y) ∧ Below wr.heap.size wr wr.drew) := ⟨p0, (Below.refl _ wr).drew⟩
        have HLa := Lib.hid (fun W => Labels_i y HY.out W)
        have HLb := Lib.hid (fun W => RLabels_i y HY.out W)
        have HTa := Lib.hid (fun W => Text_any y HY.out W)
        have HTb := Lib.hid (fun W => RText_any y HY.out W)
        have hln := labI_len y
        generalize hzs : labI y = zs at HLa HLb hln
        generalize txt (labN y 16) = t at HTa HTb
        clear hca hwf hy hzs p0
        go_wp2_with fail
        go_region_held3 (fun W => W.cell? (a.add k) = some (.int .u32 y) ∧ Below wr.heap.size wr W)
          (first
            | exact HH0.out
            | (go_split_ands; exact keep1 HD.out.2 (by assumption) (by assumption))
            | (go_split_ands; exact keep1 HE.out.2 (by assumption) (by assumption)))
          (first
            | (go_at_call 21; (with_reducible refine (HLa.out _).mono ?_); rintro e w5 ⟨v1, rfl, HD⟩)
            | (go_at_call 22; (with_reducible refine (HLb.out _).mono ?_); rintro e w6 ⟨v2, rfl, HE⟩))
        have hbE : Below wr.heap.size wr w6 := ((Below.refl _ wr).drew.trans HD.out.2).trans (HE.out.2.mono HD.out.2.size)
        obtain ⟨o1, c1, rfl, hc1⟩ := ints_form rfl (row_below HD.out.1 HE.out.2)
        obtain ⟨o2, c2, rfl, hc2⟩ := ints_form rfl HE.out.1
        have HC1 := Lib.hid hc1
        have HC2 := Lib.hid hc2
        go_split_ands
        have p6 : w6.cell? (a.add k) = some (.int .u32 y) := by assumption
        have HB6 := Lib.hid (HI.out.trans (hbE.mono HI.out.size))
        have HH6 : Hid (w6.drew.cell? (a.add k) = some (.int .u32 y) ∧ Below w6.heap.size w6 w6.drew) := ⟨p6, (Below.refl _ w6).drew⟩
        clear hc1 hc2 hbE p6
        generalize hn : zs.length = n at *
        go_wp2_with fail
        go_region_held3 (fun W => W.cell? (a.add k) = some (.int .u32 y) ∧ Below w6.heap.size w6 W)
          (first
            | exact HH6.out
            | (go_split_ands; exact keep1 (by assumption) (by assumption) (by assumption)))
          (first
            | (go_at_call 23; (with_reducible refine (HTa.out _).mono ?_); rintro e w7 ⟨rfl, hb7⟩)
            | (go_at_call 24; (with_reducible refine (HTb.out _).mono ?_); rintro e w8 ⟨rfl, hb8⟩))
        go_split_ands
        have hb68 : Below w6.heap.size w6 w8 := by assumption
        have HC1' : Hid (∀ j, j < n → ∃ g, o1 = some ⟨g, 0, none⟩ ∧ j < c1 ∧ w8.cell? ⟨g, j, none⟩ = some (.int .i64 (zs[j]?.getD 0))) := fun j hj => by
          obtain ⟨g, h1, h2, h3⟩ := HC1.out j hj
          exact ⟨g, h1, h2, below_cell' hb68 h3⟩
        have HC2' : Hid (∀ j, j < n → ∃ g, o2 = some ⟨g, 0, none⟩ ∧ j < c2 ∧ w8.cell? ⟨g, j, none⟩ = some (.int .i64 (zs[j]?.getD 0))) := fun j hj => by
          obtain ⟨g, h1, h2, h3⟩ := HC2.out j hj
          exact ⟨g, h1, h2, below_cell' hb68 h3⟩
        have HB8 := Lib.hid (HB6.out.trans (hb68.mono HB6.out.size))
        clear hb68 HC1 HC2 HCA HH0 HH6 HLa HLb HTa HTb HD HE HB6 hb7 hb8
        go_wp2_with fail
        go_loopw [8] (fun i wq => ∃ j : Nat, j ≤ n ∧ i = .int .i64 j ∧ ∃ q, wq = w8.drewN q) (fun i _ => n - (intOf i).toNat)
        case atStart => exact ⟨0, by omega, rfl, 0, rfl⟩
        case round =>
          obtain ⟨j, hj, rfl, q, rfl⟩ := hrel
          by_cases hlt2 : j < n
          · obtain ⟨g1, rfl, hj1, m1⟩ := HC1'.out j hlt2
            obtain ⟨g2, rfl, hj2, m2⟩ := HC2'.out j hlt2
            have m1 : (w8.drewN q).cell? ⟨g1, j, none⟩ = some (.int .i64 (zs[j]?.getD 0)) := m1
            have m2 : (w8.drewN q).cell? ⟨g2, j, none⟩ = some (.int .i64 (zs[j]?.getD 0)) := m2
            generalize zs[j]?.getD 0 = z at m1 m2
            have t1 : (z != z) = false := by simp
            generalize hw1 : w8.drewN q = w9 at m1 m2 ⊢
            have HW := Lib.hid hw1
            clear hw1
            go_wp2
            go_quiet (fail)
            go_wp2
            go_roundw
            case rel => exact ⟨j + 1, by omega, by go_num, q + nq, by rw [← HW.out, World.drewN_drewN]⟩
            case measure => simp [intOf]; omega
          · go_wp2_with fail
            go_roundw
            case rel => exact ⟨k + 1, by omega, by go_num, HB8.out.trans (below_drewN _ w8 q)⟩
            case measure => simp [intOf]; omega
      · clear HCA
        have HVr := Lib.hid (HVB.out.below HI.out)
        go_wp2_with fail
        clear hlt hk
        go_loop [9, 10, 11] (fun u b i => ∃ k : Nat, k ≤ ls.length ∧ i = .int .i64 k ∧ ∃ (bb : Bool) (z : Int), b = .bool bb ∧ u = .int .u32 z ∧ Hid (bb = allLab (ls.take k) ∧ (bb = true → z = orV ls k))) (fun _ _ i => ls.length - (intOf i).toNat)
        case atStart => exact ⟨0, by omega, rfl, true, 0, rfl, rfl, by simp [allLab], fun _ => rfl⟩
        case round =>
          obtain ⟨q, hq, rfl, bb, z, rfl, rfl, HZ⟩ := hrel
          by_cases hlt : q < ls.length
          · obtain ⟨a, rfl, hcb0, hwf⟩ := HCB.out q (ls[q]'hlt) (List.getElem?_eq_getElem hlt)
            have m0 := below_cell' HI.out hcb0
            have hsucc := Lib.hid (allLab_succ ls q hlt)
            have hos := Lib.hid (orV_succ ls q hlt)
            have hol := Lib.hid (fun h => orV_lab ls q hq h)
            generalize hy : ls[q]'hlt = y at m0 hsucc hos
            clear hcb0 hwf hy
            cases bb with
            | false =>
              go_wp2_with fail
              go_round
              case rel => exact ⟨q + 1, by omega, by go_num, false, z, rfl, rfl, by rw [hsucc.out, ← HZ.out.1]; rfl, fun h => by cases h⟩
              case measure => simp [intOf]; omega
            | true =>
              by_cases hg : isLab y
              · have hz := HZ.out.2 rfl
                subst hz
                have hp := pow_s16 hg
                have hs := hol.out HZ.out.1.symm
                obtain ⟨n, rfl⟩ := Int.eq_ofNat_of_zero_le hg.1
                have hn : n < 16 := by have := hg.2; omega
                have h4 : (2 : Int) ^ n % 4294967296 = 2 ^ n := by
                  have h2 : (2 : Nat) ^ n ≤ 2 ^ 15 := Nat.pow_le_pow_right (by decide) (by omega)
                  have h3 : ((2 : Nat) ^ n : Nat) = ((2 : Int) ^ n) := by push_cast; rfl
                  have := Nat.two_pow_pos n
                  exact Int.emod_eq_of_lt (by omega) (by omega)
                rw [Int.toNat_natCast] at hp
                have HJ := Lib.hid (RJoin_any (orV ls q) (2 ^ n % 4294967296) hs (by rw [h4]; exact hp) wr)
                rw [h4] at HJ
                have hd : decide (isLab ((n : Nat) : Int)) = true := by simp [isLab]; omega
                have HD := Lib.hid hd
                have H4 := Lib.hid h4
                clear hg hp hs hd h4
                go_wp2_with fail
                rw [H4.out]
                refine HJ.out.mono ?_
                rintro e w9 ⟨rfl, rfl⟩
                go_wp2_with fail
                go_round
                case rel => exact ⟨q + 1, by omega, by go_num, true, _, rfl, rfl, by rw [hsucc.out, ← HZ.out.1, HD.out]; rfl, fun _ => by rw [hos.out, Int.toNat_natCast]⟩
                case measure => simp [intOf]; omega
              · have hd : decide (isLab y) = false := by simpa using hg
                have HD := Lib.hid hd
                have hg' : y < 0 ∨ 16 ≤ y := by unfold isLab at hg; omega
                clear hg hd
                rcases hg' with hg | hg
                all_goals
                  go_wp2_with fail
                  go_round
                  case rel => exact ⟨q + 1, by omega, by go_num, false, z, (by first | rfl | (simp; omega)), rfl, by rw [hsucc.out, HD.out]; simp, fun h => by cases h⟩
                  case measure => simp [intOf]; omega
          · obtain rfl : q = ls.length := by omega
            have HO := Lib.hid (Of_any _ ls (by omega) wr HVr.out)
            have hz := HZ.out
            rw [List.take_length] at hz
            cases hA : allLab ls with
            | true =>
              rw [hA] at hz HO
              obtain rfl := hz.1
              obtain rfl := hz.2 rfl
              clear hz hA
              go_wp2_with fail
              refine HO.out.mono ?_
              rintro e w9 ⟨rfl, rfl⟩
              go_wp2_with (go_at_call 9; (with_reducible refine (known_any _).mono ?_); rintro e w3 ⟨rfl, hb3⟩)
              go_ret
              exact ⟨rfl, HI.out.trans (hb3.mono HI.out.size)⟩
            | false =>
              rw [hA] at hz HO
              obtain rfl := hz.1
              clear hz hA
              go_wp2_with fail
              refine HO.out.mono ?_
              rintro e w9 ⟨rfl, rfl⟩
              go_wp2_with (go_at_call 9; (with_reducible refine (known_any _).mono ?_); rintro e w3 ⟨rfl, hb3⟩)
              go_ret
              exact ⟨rfl, HI.out.trans (hb3.mono HI.out.size)⟩
end Go.Proofs.YtafnclkkncokpaaDoor

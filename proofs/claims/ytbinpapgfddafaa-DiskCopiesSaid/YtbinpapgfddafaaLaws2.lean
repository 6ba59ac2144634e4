/-
  Layer 8: DiskOf, DiskAgain: walks.
-/
import Derived.Test.YtbinpapgfddafaaWorks
import Derived.Test.YtbinpapgfddafaaIs
import Derived.Test.YtbinpapgfddafaaArgs
namespace Go.Proofs.Ytbinpapgfddafaa
open Go.RowKit
set_option maxHeartbeats 1000000
set_option linter.unusedVariables false
set_option linter.unusedSimpArgs false

theorem dsk_of {w : World} {v : Value} {b : List Int} (hv : NumsIn .u8 w v b) (h : sizeB b.length = true) : Dsk (b.length / 64) b := by
  simp [sizeB] at h
  exact ⟨by omega, by omega, by omega, hv.byt⟩
theorem acL_size {s : Ac} (h : s.Ok) : (acL s).toArray.size = 65 := by simp [acL, bv, h.len]
/-- A box holds what is written. -/
structure AcB (w : World) (z : Nat) (s : Ac) (W : World) : Prop where
  blk : Blk W z (acL s).toArray 44
  below : Below w.heap.size w W
theorem acb_new (w : World) (s : Ac) : AcB w w.heap.size s (w.alloc (.cells (acL s).toArray 44)) := ⟨blk_new _ _ _, (Below.refl _ _).alloc (Nat.le_refl _) _⟩
theorem AcB.after {w W W' : World} {z : Nat} {s : Ac} (h : AcB w z s W) (hb : Below W.heap.size W W') : AcB w z s W' := ⟨h.blk.below hb, h.below.trans (hb.mono h.below.size)⟩
theorem AcB.turned {w W W' : World} {z : Nat} {s : Ac} {F : Nat → Prop} (h : AcB w z s W) (ht : Turned F W W') (hF : ∀ k, F k → w.heap.size ≤ k) (hz : ¬ F z) : AcB w z s W' := ⟨h.blk.turned ht hz, h.below.trans (ht.below h.below.size hF)⟩
theorem AcB.facts {w W : World} {z : Nat} {s : Ac} (h : AcB w z s W) : W.cell? ⟨z, 0, none⟩ = some (.int .i64 s.n) ∧ W.rangeAt z 1 (bv s.x) := by
  refine ⟨by rw [h.blk.cell]; simp [acL], h.blk.range 1 _ ?_⟩
  have e : (acL s).toArray.toList.drop 1 = bv s.x := rfl
  rw [e]
  exact List.take_length
/-- A disk of the call's own lies apart from a block of another type. -/
theorem Dk.not_act {w : World} {S P : Nat} {b : List Int} {F : Nat → Prop} (h : Dk w S P b F) {z : Nat} {cs : Array Value} (hz : Blk w z cs 44) : ¬ F z := by
  obtain ⟨mb, D, rfl, h⟩ := h
  obtain ⟨es, ck, hm⟩ := h.mapBlk
  rintro (e | e)
  · subst e
    have := h.blk
    unfold Blk at this hz
    rw [this] at hz
    simp at hz
  · subst e
    unfold Blk at hz
    rw [hm] at hz
    cases hz
set_option maxRecDepth 100000 in
theorem DiskOf_walk (v : Value) (b : List Int) (s : Ac) (w : World) (hv : NumsIn .u8 w v b) (hs : s.Ok) : Calls Try.prog 7 #[v, .agg (acL s).toArray] w fun e w' => e = .returned (.bool true) ∧ Below w.heap.size w w' := by
  have H0 := Lib.hid (acb_new w s)
  have HN := Lib.hid (fun W (hb : Below w.heap.size w W) => (show NumsIn .u8 W v b from hv.below hb))
  have HD := Lib.hid (fun h => dsk_of hv h)
  have HV := Lib.hid hv
  obtain ⟨ao, c, rfl, hc, hml, _⟩ := hv.form
  unfold maxLen at hml
  clear hv
  cases hsz : sizeB (b.length : Int) with
  | false =>
    have HS := Lib.hid (fun W => RSize_any b.length W)
    rw [hsz] at HS
    clear hsz
    go_enter Try.func7, Try.ntmps7
    go_wp2_with (go_at_call 13; refine (HS.out _).mono ?_; rintro e w' ⟨rfl, rfl⟩)
    refine (works_any _).mono ?_
    rintro e w3 ⟨rfl, hb3⟩
    have HB3 := Lib.hid (H0.out.after hb3)
    clear hb3
    go_wp2
    go_ret
    exact ⟨rfl, HB3.out.below⟩
  | true =>
    have HS := Lib.hid (fun W => RSize_any b.length W)
    rw [hsz] at HS
    have hdsk := HD.out hsz
    have HDs := Lib.hid hdsk
    have hlb : b.length ≤ 100000 := by have := hdsk.len; have := hdsk.hi; omega
    have HO := Lib.hid (Of_any (HN.out _ H0.out.below) hdsk)
    clear hsz hdsk
    generalize hP : b.length / 64 = P at *
    go_enter Try.func7, Try.ntmps7
    go_wp2_with (go_at_call 13; refine (HS.out _).mono ?_; rintro e w' ⟨rfl, rfl⟩)
    refine HO.out.mono ?_
    rintro e w1 ⟨S, rfl, F, hd, hF, hb1⟩
    have H1 := Lib.hid (H0.out.after hb1)
    have HF := Lib.hid (show ∀ k, F k → w.heap.size < k from fun k hk => by have := hF k hk; simp at this; omega)
    have HDk := Lib.hid hd
    obtain ⟨q1, q2⟩ := H1.out.facts
    have HRW := Lib.hid (RWrite_any (HN.out _ H1.out.below) hlb s.n hs.len hs.byt)
    clear hd hF hb1
    go_wp2_with (first | ((with_reducible apply wp_load_Am); (exact ⟨q2, hs.len⟩); (rfl)))
    refine HRW.out.mono ?_
    rintro e w2 ⟨v', rfl, hw2⟩
    have H2 := Lib.hid (H1.out.after hw2.2.2)
    have HDk2 := Lib.hid (HDk.out.below hw2.2.2)
    have HN2 := Lib.hid hw2.1
    obtain ⟨q3, q4⟩ := H2.out.facts
    have HW := Lib.hid (Write_any HDk2.out s.n hs.len hs.byt)
    clear hw2 q1 q2
    go_wp2_with (first | ((with_reducible apply wp_load_Am); (exact ⟨q4, hs.len⟩); (rfl)))
    refine HW.out.mono ?_
    rintro e w3 ⟨rfl, hp3⟩
    have H3 := Lib.hid (H2.out.turned hp3.2 (fun k hk => by have := HF.out k hk; omega) (fun e => by have := HF.out _ e; omega))
    have HN3 := Lib.hid (HN2.out.turned hp3.2 (HDk2.out.apart HN2.out))
    have HI := Lib.hid (is_any hp3.1 HN3.out)
    clear hp3 q3 q4
    go_wp2_with (go_at_call 12; refine (num_any _ _).mono ?_; rintro e w' ⟨rfl, rfl⟩)
    refine HI.out.mono ?_
    rintro e w4 ⟨rfl, hb4⟩
    have H4 := Lib.hid (H3.out.after hb4)
    clear hb4
    go_wp2_with fail
    refine (works_any _).mono ?_
    rintro e w5 ⟨rfl, hb5⟩
    have H5 := Lib.hid (H4.out.after hb5)
    clear hb5
    go_wp2
    go_ret
    exact ⟨rfl, H5.out.below⟩

/-! ### DiskAgain -/
theorem wrR_wr {P : Nat} {b : List Int} {s : Ac} (h : Dsk P b) (hs : s.Ok) (m : Int) : wrR (wrE b s.n s.x) m = wrR b m := by
  unfold wrR
  rw [wrE_len hs.len]
theorem rd_same {P : Nat} {b : List Int} {s : Ac} (h : Dsk P b) (hs : s.Ok) (hin : wrR b s.n = 0) : rdE (wrE b s.n s.x) s.n = s.x := by
  have hr : 0 ≤ s.n ∧ s.n.toNat < b.length / 64 := by
    unfold wrR at hin
    split at hin
    · assumption
    · cases hin
  unfold rdE
  rw [wrE_len hs.len, if_pos hr, wrE_in hr]
  exact sec_wr_same h.len hs.len (by rw [h.div] at hr; exact hr.2)
theorem rd_other {P : Nat} {b : List Int} {s : Ac} (h : Dsk P b) (hs : s.Ok) {m : Int} (hm : s.n ≠ m) : rdE (wrE b s.n s.x) m = rdE b m := by
  unfold rdE
  rw [wrE_len hs.len]
  by_cases h1 : 0 ≤ m ∧ m.toNat < b.length / 64
  · rw [if_pos h1, if_pos h1]
    by_cases h2 : 0 ≤ s.n ∧ s.n.toNat < b.length / 64
    · rw [wrE_in h2]
      rw [h.div] at h1 h2
      exact sec_wr_other h.len hs.len h2.2 h1.2 (by omega)
    · rw [wrE_out h2]
  · rw [if_neg h1, if_neg h1]
theorem rdE_len {P : Nat} {b : List Int} (h : Dsk P b) (m : Int) : (rdE b m).length = 64 := by
  unfold rdE
  split
  · rename_i h1
    rw [h.div] at h1
    exact sec_len h.len h1.2
  · rfl
set_option maxRecDepth 100000 in
theorem DiskAgain_walk (v : Value) (b : List Int) (s : Ac) (m : Int) (w : World) (hv : NumsIn .u8 w v b) (hs : s.Ok) : Calls Try.prog 8 #[v, .agg (acL s).toArray, .int .i64 m] w fun e w' => e = .returned (.bool true) ∧ Below w.heap.size w w' := by
  have H0 := Lib.hid (acb_new w s)
  have hz := zero_arr
  cases hsz : sizeB (b.length : Int) with
  | false =>
    have HO := Lib.hid (Of_no (hv.below H0.out.below) hsz)
    clear hsz hv
    go_enter Try.func8, Try.ntmps8
    go_wp2_with fail
    refine HO.out.mono ?_
    rintro e w1 ⟨rfl, hb1⟩
    have H1 := Lib.hid (H0.out.after hb1)
    clear hb1
    go_wp2_with (go_at_call 12; refine (num_any _ _).mono ?_; rintro e w' ⟨rfl, rfl⟩)
    refine (works_any _).mono ?_
    rintro e w3 ⟨rfl, hb3⟩
    have HB3 := Lib.hid (H1.out.after hb3)
    clear hb3
    go_wp2
    go_ret
    exact ⟨rfl, HB3.out.below⟩
  | true =>
    have hdsk := dsk_of hv hsz
    have HO := Lib.hid (Of_any (hv.below H0.out.below) hdsk)
    have l1 := rdE_len hdsk m
    have l2 := rdE_len (hdsk.wrE hs.len hs.byt s.n) m
    have l3 := rdE_len (hdsk.wrE hs.len hs.byt s.n) s.n
    have R1 := Lib.hid (wrR_wr hdsk hs m)
    have R2 := Lib.hid (wrR_wr hdsk hs s.n)
    have R3 := Lib.hid (fun h => rd_same hdsk hs h)
    have R4 := Lib.hid (fun h => rd_other hdsk hs (m := m) h)
    clear hsz hdsk hv
    generalize hP : b.length / 64 = P at *
    go_enter Try.func8, Try.ntmps8
    go_wp2_with fail
    refine HO.out.mono ?_
    rintro e w1 ⟨S, rfl, F, hd, hF, hb1⟩
    have H1 := Lib.hid (H0.out.after hb1)
    have HF := Lib.hid (show ∀ k, F k → w.heap.size < k from fun k hk => by have := hF k hk; simp at this; omega)
    have HDk := Lib.hid hd
    have HR1 := Lib.hid (Read_any hd m)
    clear hd hF hb1
    go_wp2_with (first | (go_at_call 12; refine (num_any _ _).mono ?_; rintro e w' ⟨rfl, rfl⟩))
    refine HR1.out.mono ?_
    rintro e w2 ⟨rfl, hb2⟩
    have hb2' := hb2.alloc hb2.size (.cells (sc (rdE b m)) 37)
    have H2 := Lib.hid (H1.out.after hb2')
    have HDk2 := Lib.hid (HDk.out.below hb2')
    have HX1 := Lib.hid (ba_new w2 l1)
    have HFS := Lib.hid (show ∀ k, F k → k < w2.heap.size from fun k hk => by have := HDk.out.lt k hk; have := hb2.size; omega)
    obtain ⟨q1, q2⟩ := H2.out.facts
    have HW := Lib.hid (Write_any HDk2.out s.n hs.len hs.byt)
    clear hb2 hb2'
    go_wp2_with (first | ((with_reducible apply wp_store_An (rdE b m)); (exact ⟨nou_len, l1⟩); (rfl); (rfl)) | ((with_reducible apply wp_load_Am); (exact ⟨q2, hs.len⟩); (rfl)))
    refine HW.out.mono ?_
    rintro e w3 ⟨rfl, hp3⟩
    have H3 := Lib.hid (H2.out.turned hp3.2 (fun k hk => by have := HF.out k hk; omega) (fun e => by have := HF.out _ e; omega))
    have HX2 := Lib.hid (HX1.out.turned hp3.2 (fun e => by have := HFS.out _ e; omega))
    have HR2 := Lib.hid (Read_any hp3.1 s.n)
    rw [R2.out] at HR2
    have HDk3 := Lib.hid hp3.1
    obtain ⟨q3, q4⟩ := H3.out.facts
    clear hp3 q1 q2
    go_wp2_with fail
    refine HR2.out.mono ?_
    rintro e w4 ⟨rfl, hb4⟩
    have hb4' := hb4.alloc hb4.size (.cells (sc (rdE (wrE b s.n s.x) s.n)) 37)
    have H4 := Lib.hid (H3.out.after hb4')
    have HX3 := Lib.hid (HX2.out.below hb4')
    have HZ3 := Lib.hid (ba_new w4 l3)
    have HR3 := Lib.hid (Read_any (HDk3.out.below hb4') m)
    rw [R1.out] at HR3
    clear hb4 hb4' q3 q4
    go_wp2_with (first | ((with_reducible apply wp_store_An (rdE (wrE b s.n s.x) s.n)); (exact ⟨nou_len, l3⟩); (rfl); (rfl)))
    refine HR3.out.mono ?_
    rintro e w5 ⟨rfl, hb5⟩
    have hb5' := hb5.alloc hb5.size (.cells (sc (rdE (wrE b s.n s.x) m)) 37)
    have H5 := Lib.hid (H4.out.after hb5')
    have HX4 := Lib.hid (HX3.out.below hb5')
    have HZ4 := Lib.hid (HZ3.out.below hb5')
    have HV4 := Lib.hid (ba_new w5 l2)
    obtain ⟨q5, q6⟩ := H5.out.facts
    generalize wrR b m = rm at *
    have hgd := guard_arr .neq
    have hge := guard_arr .eql
    clear hb5 hb5'
    have HRn := Lib.hid (show wrR b s.n = 0 ∨ wrR b s.n = 4 by unfold wrR; split; exact .inl rfl; exact .inr rfl)
    rcases HRn.out with hrn | hrn
    · have hq1 : ∀ W, (binOp .neq 37 (.agg (sc (rdE (wrE b s.n s.x) s.n))) (.agg (sc s.x))).run Try.prog W = .ok (.bool false) W := fun W => by rw [neq_arr _ _ l3 hs.len, decide_eq_true (R3.out hrn)]; rfl
      rw [hrn] at *
      by_cases hm : s.n = m
      · subst hm
        go_wp2_with (first | ((with_reducible apply wp_store_An (rdE (wrE b s.n s.x) s.n)); (exact ⟨nou_len, l2⟩); (rfl); (rfl)) | (go_at_call 12; refine (num_any _ _).mono ?_; rintro e w' ⟨rfl, rfl⟩) | ((with_reducible apply wp_load_Ag); (kernel_rfl); (exact HZ4.out); (rfl)) | ((with_reducible apply wp_load_Amg); (kernel_rfl); (exact ⟨q6, hs.len⟩); (rfl)))
        refine (works_any _).mono ?_
        rintro e w6 ⟨rfl, hb6⟩
        have H6 := Lib.hid (H5.out.after hb6)
        clear hb6
        go_wp2
        go_ret
        exact ⟨rfl, H6.out.below⟩
      · have hmb : (s.n == m) = false := by simpa using hm
        have hq2 : ∀ W, (binOp .eql 37 (.agg (sc (rdE (wrE b s.n s.x) m))) (.agg (sc (rdE b m)))).run Try.prog W = .ok (.bool true) W := fun W => by rw [eql_arr _ _ l2 l1, decide_eq_true (R4.out hm)]
        go_wp2_with (first | ((with_reducible apply wp_store_An (rdE (wrE b s.n s.x) m)); (exact ⟨nou_len, l2⟩); (rfl); (rfl)) | (go_at_call 12; refine (num_any _ _).mono ?_; rintro e w' ⟨rfl, rfl⟩) | ((with_reducible apply wp_load_Ag); (kernel_rfl); (exact HZ4.out); (rfl)) | ((with_reducible apply wp_load_Ag); (kernel_rfl); (exact HX4.out); (rfl)) | ((with_reducible apply wp_load_Ag); (kernel_rfl); (exact HV4.out); (rfl)) | ((with_reducible apply wp_load_Amg); (kernel_rfl); (exact ⟨q6, hs.len⟩); (rfl)))
        refine (works_any _).mono ?_
        rintro e w6 ⟨rfl, hb6⟩
        have H6 := Lib.hid (H5.out.after hb6)
        clear hb6
        go_wp2
        go_ret
        exact ⟨rfl, H6.out.below⟩
    · rw [hrn] at *
      by_cases hm : s.n = m
      · subst hm
        go_wp2_with (first | ((with_reducible apply wp_store_An (rdE (wrE b s.n s.x) s.n)); (exact ⟨nou_len, l2⟩); (rfl); (rfl)) | (go_at_call 12; refine (num_any _ _).mono ?_; rintro e w' ⟨rfl, rfl⟩))
        refine (works_any _).mono ?_
        rintro e w6 ⟨rfl, hb6⟩
        have H6 := Lib.hid (H5.out.after hb6)
        clear hb6
        go_wp2
        go_ret
        exact ⟨rfl, H6.out.below⟩
      · have hmb : (s.n == m) = false := by simpa using hm
        have hq2 : ∀ W, (binOp .eql 37 (.agg (sc (rdE (wrE b s.n s.x) m))) (.agg (sc (rdE b m)))).run Try.prog W = .ok (.bool true) W := fun W => by rw [eql_arr _ _ l2 l1, decide_eq_true (R4.out hm)]
        go_wp2_with (first | ((with_reducible apply wp_store_An (rdE (wrE b s.n s.x) m)); (exact ⟨nou_len, l2⟩); (rfl); (rfl)) | (go_at_call 12; refine (num_any _ _).mono ?_; rintro e w' ⟨rfl, rfl⟩) | ((with_reducible apply wp_load_Ag); (kernel_rfl); (exact HX4.out); (rfl)) | ((with_reducible apply wp_load_Ag); (kernel_rfl); (exact HV4.out); (rfl)))
        refine (works_any _).mono ?_
        rintro e w6 ⟨rfl, hb6⟩
        have H6 := Lib.hid (H5.out.after hb6)
        clear hb6
        go_wp2
        go_ret
        exact ⟨rfl, H6.out.below⟩
end Go.Proofs.Ytbinpapgfddafaa

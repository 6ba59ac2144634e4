/-
  Layer 14: a place's last note ahead of a step: walk. Layer 14: notes copied, a place's notes, its last one: walks. Layer 14: a place's notes, and its last one, told anew: walks.
-/
import Derived.Test.YtiohlmccnllklaaGreatDoorH29
set_option linter.unusedVariables false
set_option linter.unusedSimpArgs false
namespace Go.Proofs.YtiohlmccnllklaaGreatDoor.Q
open Go.RowKit
set_option maxHeartbeats 8000000
set_option maxRecDepth 100000
set_option linter.unusedVariables false
set_option linter.unusedSimpArgs false

theorem below_setRow {w W : World} {k : Nat} (h : Below w.heap.size w W) (hk : w.heap.size ≤ k) (cs : Array Value) : Below w.heap.size w (W.setRow k cs) :=
  h.trans ((turned_setRow W k cs).below h.size (fun j e => by omega))
def no0 : T.No := ⟨0, (0, 0), []⟩
theorem own_nil (w : World) : Own w (.slice none 0 0) [] := ⟨Gs.nil _ _ _, fun p hp => by cases hp⟩
/-- A last note, or none, as two results. -/
def LaO (w : World) (o : Option T.No) (e : Ending) (w' : World) : Prop := (∃ fv, Own w' fv (o.getD no0).fr ∧ e = .returned (.tuple #[.agg (noc (o.getD no0) fv).toArray, .bool o.isSome])) ∧ Below w.heap.size w w'
/-- .. whose places are those of an earlier world. -/
def LaB (w0 w : World) (o : Option T.No) (e : Ending) (w' : World) : Prop := (∃ fv, Own w0 fv (o.getD no0).fr ∧ e = .returned (.tuple #[.agg (noc (o.getD no0) fv).toArray, .bool o.isSome])) ∧ Below w.heap.size w w'
structure LaS (S mb B : Nat) (ns : List T.No) (la : Int) (V : T.Pl → Value) (p : T.Pl) (s : Int) (W : World) : Prop where
  hs : HsIs W S mb ns la V
  c0 : W.cell? ⟨S, 0, none⟩ = some (.map (some mb))
  b0 : W.cell? ⟨B, 0, none⟩ = some (.int .i64 p.1)
  b1 : W.cell? ⟨B, 1, none⟩ = some (.int .i64 p.2)
  b2 : W.cell? ⟨B, 2, none⟩ = some (.int .i64 s)
  t : Rf 63 4 W (B + 1) (noc no0 (.slice none 0 0)).toArray
theorem LaS.stb (S mb B : Nat) (ns : List T.No) (la : Int) (V : T.Pl → Value) (p : T.Pl) (s : Int) : Free.Stb (LaS S mb B ns la V p s) := fun W W' h hb => ⟨h.hs.below hb, cell_below h.c0 hb, cell_below h.b0 hb, cell_below h.b1 hb, cell_below h.b2 hb, h.t.below hb⟩
theorem last_any {w0 w : World} {S mb : Nat} {ns : List T.No} {la : Int} {V : T.Pl → Value} (h0 : HsIs w0 S mb ns la V) (hb0 : Below w0.heap.size w0 w) (hu : T.Up ns) (hl : ns.length ≤ 1000000) {p : T.Pl} (hp : Pi p) (s : Int) :
    Calls Tryz.prog 42 #[.pointer (some ⟨S, 0, none⟩), .agg #[.int .i64 p.1, .int .i64 p.2, .int .i64 s]] w fun e w' => LaB w0 w (T.lastN ns p s) e w' := by
  have h := h0.below hb0
  have HRow := Lib.hid (h0.row p)
  have HB0 := Lib.hid hb0
  clear h0 hb0
  have hz := zero_note
  obtain ⟨B, hB⟩ : ∃ B, B = w.heap.size := ⟨_, rfl⟩
  have hb1 := bel1 w (.cells #[.int .i64 p.1, .int .i64 p.2, .int .i64 s] 120)
  have hb2 := bel1 (w.alloc (.cells #[.int .i64 p.1, .int .i64 p.2, .int .i64 s] 120)) (.cells (noc no0 (.slice none 0 0)).toArray 63)
  have hb := belT hb1 hb2
  have hk := (blk_new w #[.int .i64 p.1, .int .i64 p.2, .int .i64 s] 120).below hb2
  have HS : Hid (LaS S mb w.heap.size ns la V p s (((w.alloc (.cells #[.int .i64 p.1, .int .i64 p.2, .int .i64 s] 120)).alloc (.cells (noc no0 (.slice none 0 0)).toArray 63)).drew)) := by
    have c0 := (h.below hb).blk.cell 0
    have ht := (noc_ok no0 (fv := .slice none 0 0) rfl).new 63 (w.alloc (.cells #[.int .i64 p.1, .int .i64 p.2, .int .i64 s] 120))
    rw [size1] at ht
    exact LaS.stb _ _ _ _ _ _ _ _ _ _ ⟨h.below hb, c0, hk.cell 0, hk.cell 1, hk.cell 2, ht⟩ (Below.refl _ _).drew
  have HB := Lib.hid hb
  have HU := Lib.hid (hu.of p).1
  have HLn := Lib.hid (show (T.ofP ns p).length ≤ 1000000 from Nat.le_trans (List.length_filter_le _ _) hl)
  have HE : Hid (T.lastN ns p s = if T.cnt (T.ofP ns p) s = 0 then none else (T.ofP ns p)[T.cnt (T.ofP ns p) s - 1]?) := T.last_cnt (hu.of p).1 s
  have HPi := Lib.hid hp
  have HO : Hid (∃ o, o = T.lastN ns p s) := ⟨_, rfl⟩
  obtain ⟨o, ho⟩ := HO.out
  rw [← ho] at HE ⊢
  clear h hb1 hb2 hb hk hu hp ho HO
  unfold noc no0 at HB HS
  simp only at HB HS
  go_enter Tryz.func42, Tryz.ntmps42
  go_wp2
  refine Free.any (LaS S mb w.heap.size ns la V p s) (LaS.stb S mb w.heap.size ns la V p s) HS.out (fun st => ?_)
  refine Free.tk 0 (some 9) ?_
  refine Free.tk 1 (some 10) ?_
  refine Free.tk 2 (some 11) ?_
  refine Free.tk 3 (some 12) ?_ (hy := by intro W hW; have c0 := hW.c0; go_simp; try with_reducible rfl)
  refine Free.tk 4 (some 13) ?_
  refine Free.tk 5 (some 14) ?_ (hy := by intro W hW; have b0 := hW.b0; have b1 := hW.b1; go_simp; try with_reducible rfl)
  refine Free.tk 6 (some 15) (v := V p) ?_ (hy := by intro W hW; have lk := hW.hs.look HPi.out; unfold pla at lk; unfold execOp; go_simp)
  refine Free.tk 7 (some 6) ?_
  refine Free.done (fun W hb hW => ?_)
  have HW := Lib.hid hW
  have HBW := Lib.hid (belT HB.out ((Below.refl _ _).drew.trans hb))
  have HBi := Lib.hid (binF_any (hW.hs.row p) HU.out s HLn.out)
  have b2 := hW.b2
  clear hb hW HS HB
  go_wp2_with fail
  refine HBi.out.mono ?_
  rintro e W2 ⟨b, rfl, hb⟩
  have HW2 := Lib.hid (LaS.stb _ _ _ _ _ _ _ _ _ _ HW.out hb)
  have HB2 := Lib.hid (belT HBW.out hb)
  clear hb b2 HW HBW HBi
  generalize hm : T.cnt (T.ofP ns p) s = m at HE ⊢
  by_cases h0 : m = 0
  · have ho : o = none := by rw [HE.out, if_pos h0]
    subst h0 ho
    have HR : Hid (Rf 63 4 W2 (w.heap.size + 1) (noc no0 (.slice none 0 0)).toArray ∧ Ok1 4 (noc no0 (.slice none 0 0)).toArray) := ⟨HW2.out.t, noc_ok _ rfl⟩
    clear hm
    go_wp2_with (first | ((with_reducible refine wp_store_R (noc no0 (.slice none 0 0)).toArray rowN HR.out ?_ ?_ ?_); (kernel_rfl); (kernel_rfl)))
    refine bodyPost_ret (res_R_tmp rowN (fn := Tryz.f42) rfl _ (HR.out.1.set HR.out.2) rfl) rfl ⟨⟨.slice none 0 0, own_nil _, rfl⟩, ?_⟩
    exact below_setRow HB2.out (by simp) _
  · have hcl := T.cnt_le (T.ofP ns p) s
    rw [hm] at hcl
    obtain ⟨g1, o1, c1, n, fv, e1, l1, hpi, hown, r0⟩ := HRow.out.at_ (k := m - 1) (by omega)
    have hb02 := belT HB0.out HB2.out
    have r1 : W2.rangeAt g1 (o1 + (m - 1) * 4) (noc n fv) := fun j u hj => cell_below (r0 j u hj) hb02
    have ho : o = some n := by rw [HE.out, if_neg h0]; exact l1
    subst ho
    obtain ⟨q1, q2, q3, q4⟩ := rng4 r1
    obtain ⟨k, rfl⟩ : ∃ k, m = k + 1 := ⟨m - 1, by omega⟩
    have hln := HLn.out
    have hk1 : ((k + 1 : Nat) : Int) - 1 = (k : Int) := by omega
    have hk2 : k < (T.ofP ns p).length := by omega
    have HR : Hid (Rf 63 4 W2 (w.heap.size + 1) (noc no0 (.slice none 0 0)).toArray ∧ Ok1 4 (noc n fv).toArray) := ⟨HW2.out.t, noc_ok _ hown.1.one⟩
    have HO := Lib.hid hown
    simp only [Nat.add_sub_cancel] at q1 q2 q3 q4
    clear hm h0 r1 r0 hb02 hown l1 HE
    rw [e1]
    have hne : ((k + 1 : Nat) : Int) ≠ 0 := by omega
    go_wp2_with (first | ((with_reducible refine wp_store_R (noc n fv).toArray rowN HR.out ?_ ?_ ?_); (kernel_rfl); (kernel_rfl)))
    refine bodyPost_ret (res_R_tmp rowN (fn := Tryz.f42) rfl _ (HR.out.1.set HR.out.2) rfl) rfl ⟨⟨fv, ?_, rfl⟩, ?_⟩
    · exact HO.out
    · exact below_setRow HB2.out (by simp) _
end Go.Proofs.YtiohlmccnllklaaGreatDoor.Q
namespace Go.Proofs.YtiohlmccnllklaaGreatDoor.Q
open Go.RowKit
set_option maxHeartbeats 8000000
set_option maxRecDepth 100000
set_option linter.unusedVariables false
set_option linter.unusedSimpArgs false

/-- A note with places of its own. -/
def AnO (w : World) (n : T.No) (e : Ending) (w' : World) : Prop := ∃ gv, e = .returned (.agg (noc n gv).toArray) ∧ Own w' gv n.fr ∧ Below w.heap.size w w'
theorem Own.other {w : World} {v : Value} {l : List T.Pl} (h : Own w v l) {B : Nat} {cs : Array Value} (hb : ∃ c, Blk w B c 63) : Own (w.setRow B cs) v l :=
  h.keep fun k cur hk => setRow_other _ _ _ _ (by
    rintro rfl
    obtain ⟨c, hb⟩ := hb
    unfold Blk at hb hk
    rw [hb] at hk
    simp at hk)
theorem anew_any {w : World} {n : T.No} {fv : Value} (h : PlsIn w fv n.fr) (hl : n.fr.length ≤ 1000000) : Calls Tryz.prog 43 #[.agg (noc n fv).toArray] w fun e w' => AnO w n e w' := by
  have hz := zero_note
  have hf1 := h.1.one
  have hb1 := bel1 w (.cells (noc n fv).toArray 63)
  have hb2 := bel1 (w.alloc (.cells (noc n fv).toArray 63)) (.cells (noc no0 (.slice none 0 0)).toArray 63)
  have hb := belT hb1 hb2
  have HC := Lib.hid (copied_any (h.below hb) hl)
  have HK := Lib.hid ((blk_new w (noc n fv).toArray 63).below hb2)
  have HT : Hid (Rf 63 4 ((w.alloc (.cells (noc n fv).toArray 63)).alloc (.cells (noc no0 (.slice none 0 0)).toArray 63)) (w.heap.size + 1) (noc no0 (.slice none 0 0)).toArray) := by
    have ht := (noc_ok no0 (fv := .slice none 0 0) rfl).new 63 (w.alloc (.cells (noc n fv).toArray 63))
    rw [size1] at ht
    exact ht
  have HB := Lib.hid hb
  clear h hb1 hb2 hb
  unfold noc no0 at HC HK HT HB
  simp only at HC HK HT HB
  unfold noc
  go_enter Tryz.func43, Tryz.ntmps43
  go_wp2_with fail
  refine HC.out.mono ?_
  rintro e w3 ⟨u, rfl, ho, hb⟩
  obtain ⟨ou, cu, eu, _, _⟩ := ho.1.shape
  subst eu
  have hk3 := HK.out.below hb
  have q0 := hk3.cell 0
  have q1 := hk3.cell 1
  have q2 := hk3.cell 2
  have q3 := hk3.cell 3
  have q3f := hk3.frozen 3
  simp only [List.getElem?_toArray, List.getElem?_cons_zero, List.getElem?_cons_succ] at q0 q1 q2 q3
  have HO := Lib.hid ho
  have hu1 := ho.1.one
  have HB3 := Lib.hid (belT HB.out hb)
  have hkS := hk3.setCell 3 (.slice ou n.fr.length cu)
  have HR : Hid (Rf 63 4 (w3.setCell ⟨w.heap.size, 3, none⟩ (.slice ou n.fr.length cu)) (w.heap.size + 1) (noc no0 (.slice none 0 0)).toArray ∧ Ok1 4 (noc n (.slice ou n.fr.length cu)).toArray) := by
    refine ⟨(HT.out.below hb).turned ((Turned.refl (fun k => k = w.heap.size) w3).setCell (p := ⟨w.heap.size, 3, none⟩) (.inl rfl) (.slice ou n.fr.length cu)) (by omega), noc_ok n hu1⟩
  have HOS : Hid (Own (w3.setCell ⟨w.heap.size, 3, none⟩ (.slice ou n.fr.length cu)) (.slice ou n.fr.length cu) n.fr) := by
    rw [setCell_eq_setRow w3 w.heap.size 3 _ 63 (0, 0) (.slice ou n.fr.length cu) hk3]
    exact ho.other ⟨_, hk3⟩
  have HBS : Hid (Below w.heap.size w (w3.setCell ⟨w.heap.size, 3, none⟩ (.slice ou n.fr.length cu))) := HB3.out.setCell (Nat.le_refl _) (.slice ou n.fr.length cu)
  clear hb ho hk3 hkS HC HK HT HB
  go_wp2_with (first | ((with_reducible refine wp_store_R (noc n (.slice ou n.fr.length cu)).toArray rowN HR.out ?_ ?_ ?_); (kernel_rfl); (kernel_rfl)))
  refine bodyPost_ret (res_R rowN (fn := Tryz.f43) rfl _ (HR.out.1.set HR.out.2) rfl) rfl ⟨_, rfl, ?_, ?_⟩
  · exact HOS.out.other ⟨_, HR.out.1.blk⟩
  · exact below_setRow HBS.out (by simp) _
end Go.Proofs.YtiohlmccnllklaaGreatDoor.Q
namespace Go.Proofs.YtiohlmccnllklaaGreatDoor.Q
open Go.RowKit
set_option maxHeartbeats 8000000
set_option maxRecDepth 100000
set_option linter.unusedVariables false
set_option linter.unusedSimpArgs false

theorem Last_nil (p : T.Pl) (s : Int) (w : World) : Calls Tryz.prog 16 #[.pointer none, .agg #[.int .i64 p.1, .int .i64 p.2], .int .i64 s] w fun e w' => e = .returned (.tuple #[.agg (noc no0 (.slice none 0 0)).toArray, .bool false]) ∧ Below w.heap.size w w' := by
  have hz := zero_note
  have hb1 := bel1 w (.cells #[.int .i64 p.1, .int .i64 p.2] 42)
  have hb2 := bel1 (w.alloc (.cells #[.int .i64 p.1, .int .i64 p.2] 42)) (.cells (noc no0 (.slice none 0 0)).toArray 63)
  have HB := Lib.hid (belT hb1 hb2)
  have HR : Hid (Rf 63 4 ((w.alloc (.cells #[.int .i64 p.1, .int .i64 p.2] 42)).alloc (.cells (noc no0 (.slice none 0 0)).toArray 63)) (w.heap.size + 1) (noc no0 (.slice none 0 0)).toArray ∧ Ok1 4 (noc no0 (.slice none 0 0)).toArray) := by
    have ht := (noc_ok no0 (fv := .slice none 0 0) rfl).new 63 (w.alloc (.cells #[.int .i64 p.1, .int .i64 p.2] 42))
    rw [size1] at ht
    exact ⟨ht, noc_ok _ rfl⟩
  clear hb1 hb2
  unfold noc no0 at HB HR ⊢
  simp only at HB HR ⊢
  go_enter Tryz.func16, Tryz.ntmps16
  go_wp2_with (first | (go_at_call 41; refine (none_nil _).mono ?_; rintro e w' ⟨rfl, rfl⟩) | ((with_reducible refine wp_store_R (noc no0 (.slice none 0 0)).toArray rowN HR.out ?_ ?_ ?_); (kernel_rfl); (kernel_rfl)))
  refine bodyPost_ret (res_R_tmp rowN (fn := Tryz.f16) rfl _ (HR.out.1.set HR.out.2) rfl) rfl ⟨rfl, ?_⟩
  exact below_setRow HB.out (by simp) _
theorem Last_any {w : World} {S mb : Nat} {ns : List T.No} {la : Int} {V : T.Pl → Value} (h : HsIs w S mb ns la V) (hu : T.Up ns) (hl : ns.length ≤ 1000000) (hfl : ∀ n ∈ ns, n.fr.length ≤ 1000000) {p : T.Pl} (hp : Pi p) (s : Int) :
    Calls Tryz.prog 16 #[.pointer (some ⟨S, 0, none⟩), .agg #[.int .i64 p.1, .int .i64 p.2], .int .i64 s] w fun e w' => LaO w (T.lastN ns p s) e w' := by
  have hz := zero_note
  have hb1 := bel1 w (.cells #[.int .i64 p.1, .int .i64 p.2] 42)
  have hb2 := bel1 (w.alloc (.cells #[.int .i64 p.1, .int .i64 p.2] 42)) (.cells (noc no0 (.slice none 0 0)).toArray 63)
  have hb := belT hb1 hb2
  have HB := Lib.hid hb
  have HT : Hid (Rf 63 4 ((w.alloc (.cells #[.int .i64 p.1, .int .i64 p.2] 42)).alloc (.cells (noc no0 (.slice none 0 0)).toArray 63)) (w.heap.size + 1) (noc no0 (.slice none 0 0)).toArray) := by
    have ht := (noc_ok no0 (fv := .slice none 0 0) rfl).new 63 (w.alloc (.cells #[.int .i64 p.1, .int .i64 p.2] 42))
    rw [size1] at ht
    exact ht
  have HN := Lib.hid (none_some S mb _ ((h.below hb).blk.cell 0))
  have HLa := Lib.hid (last_any h hb hu hl hp s)
  obtain ⟨o, ho⟩ : ∃ o, o = T.lastN ns p s := ⟨_, rfl⟩
  rw [← ho] at HLa ⊢
  have HFl : Hid ((o.getD no0).fr.length ≤ 1000000) := by
    cases o with
    | none => exact Nat.zero_le _
    | some n => exact hfl n (T.lastN_mem ho.symm).1
  clear h hu hb1 hb2 hb ho hfl
  unfold noc no0 at HB HT HN HLa
  simp only at HB HT HN HLa
  go_enter Tryz.func16, Tryz.ntmps16
  go_wp2_with fail
  refine HN.out.mono ?_
  rintro e w' ⟨rfl, rfl⟩
  go_wp2_with fail
  refine HLa.out.mono ?_
  rintro e w3 ⟨⟨fv, ho, rfl⟩, hb⟩
  replace ho := ho.below (belT HB.out hb)
  have HO := Lib.hid ho
  have HT3 := Lib.hid (HT.out.below hb)
  have HB3 := Lib.hid (belT HB.out hb)
  obtain ⟨n, hn⟩ : ∃ n, Hid (o.getD no0 = n) := ⟨_, Lib.hid rfl⟩
  rw [hn.out] at ho HO HFl ⊢
  have hb4 := bel1 w3 (.cells (noc n fv).toArray 63)
  have HAn := Lib.hid (anew_any (HO.out.pls.below hb4) HFl.out)
  have HT4 := Lib.hid (HT3.out.below hb4)
  have HB4 := Lib.hid (belT HB3.out hb4)
  obtain ⟨of, cf, rfl, _, _⟩ := ho.1.shape
  unfold noc at HAn HT4 HB4
  clear hb ho hb4 HT HT3 HB HB3 HN HLa
  unfold noc
  go_wp2_with fail
  refine HAn.out.mono ?_
  rintro e w5 ⟨gv, rfl, ho, hb⟩
  have HR : Hid (Rf 63 4 w5 (w.heap.size + 1) (noc no0 (.slice none 0 0)).toArray ∧ Ok1 4 (noc n gv).toArray) := ⟨HT4.out.below hb, noc_ok _ ho.1.one⟩
  have HO5 := Lib.hid ho
  have HB5 := Lib.hid (belT HB4.out hb)
  clear hb ho HAn HT4 HB4
  go_wp2_with (first | ((with_reducible refine wp_store_R (noc n gv).toArray rowN HR.out ?_ ?_ ?_); (kernel_rfl); (kernel_rfl)))
  refine bodyPost_ret (res_R_tmp rowN (fn := Tryz.f16) rfl _ (HR.out.1.set HR.out.2) rfl) rfl ⟨⟨gv, by rw [hn.out]; exact HO5.out.other ⟨_, HR.out.1.blk⟩, by rw [hn.out]; rfl⟩, ?_⟩
  exact below_setRow HB5.out (by simp) _

/-! ### Notes -/
theorem noc_one (n : T.No) {fv : Value} (h : fv.oneCell' = true) : ∀ u ∈ noc n fv, u.oneCell' = true := by
  intro u hu
  simp [noc] at hu
  rcases hu with rfl | rfl | rfl | rfl <;> first | rfl | exact h
theorem nt_src (w : World) (n : T.No) {fv : Value} (h : fv.oneCell' = true) : Src Tryz.prog 4 66 (.slice (some ⟨w.heap.size, 0, none⟩) 1 1) 1 (noc n fv) (w.alloc (.cells (noc n fv).toArray 63)) :=
  (Gs.lit (sz := 4) (n := 1) (cs := (noc n fv).toArray) w 63 rfl (by decide)).src Tryz.underlying66 (noc_one n h)
theorem RowN.app {w w' : World} {v v' : Value} {l : List T.No} {cs : List Value} {n : T.No} {gv : Value} (hc : NtC (Own w) l cs) (hg : Gs 63 4 w v l.length cs) (ho : Own w gv n.fr) (hp : PiN n)
    (hg' : Gs 63 4 w' v' (l.length + 1) (cs ++ noc n gv)) (ht : Turned (fun k => blkOf v = some k) w w') : RowN w' v' (l ++ [n]) := by
  refine ⟨cs ++ noc n gv, by rw [List.length_append]; exact hg', ?_⟩
  have st : ∀ u m, Own w u m → Own w' u m := fun u m hu => hu.keep fun k cur hb => ht.block k hb.lt fun e => by
    obtain ⟨cur', h1⟩ := hg.in_ e
    unfold Blk at hb h1
    rw [hb] at h1
    simp at h1
  exact (hc.mono st).snoc (st _ _ ho) hp
/-- A list told anew grows. -/
structure NlI (w : World) (v : Value) (l : List T.No) (W : World) : Prop where
  b : Below w.heap.size w W
  row : RowN W v l
  lo : ∀ k, blkOf v = some k → w.heap.size ≤ k
theorem NlI.after {w : World} {v : Value} {l : List T.No} {W W' : World} (h : NlI w v l W) (hb : Below W.heap.size W W') : NlI w v l W' := ⟨belT h.b hb, h.row.below hb, h.lo⟩
theorem Notes_nil (p : T.Pl) (w : World) : Calls Tryz.prog 21 #[.pointer none, .agg #[.int .i64 p.1, .int .i64 p.2]] w fun e w' => e = .returned (.slice none 0 0) ∧ Below w.heap.size w w' := by
  have HB := Lib.hid (bel1 w (.cells #[.int .i64 p.1, .int .i64 p.2] 42))
  go_enter Tryz.func21, Tryz.ntmps21
  go_wp2_with (first | (go_at_call 41; refine (none_nil _).mono ?_; rintro e w' ⟨rfl, rfl⟩))
  go_ret
  exact ⟨rfl, HB.out⟩
theorem Notes_zero (p : T.Pl) (S : Nat) (w : World) (h : w.cell? ⟨S, 0, none⟩ = some (.map none)) : Calls Tryz.prog 21 #[.pointer (some ⟨S, 0, none⟩), .agg #[.int .i64 p.1, .int .i64 p.2]] w fun e w' => e = .returned (.slice none 0 0) ∧ Below w.heap.size w w' := by
  have hb := bel1 w (.cells #[.int .i64 p.1, .int .i64 p.2] 42)
  have HB := Lib.hid hb
  have HN := Lib.hid (none_zero S _ (cell_below h hb))
  clear hb
  go_enter Tryz.func21, Tryz.ntmps21
  go_wp2_with (first | (go_at_call 41; refine HN.out.mono ?_; rintro e w' ⟨rfl, rfl⟩))
  go_ret
  exact ⟨rfl, HB.out⟩
structure NtS (S mb B : Nat) (ns : List T.No) (la : Int) (V : T.Pl → Value) (p : T.Pl) (W : World) : Prop where
  hs : HsIs W S mb ns la V
  c0 : W.cell? ⟨S, 0, none⟩ = some (.map (some mb))
  b0 : W.cell? ⟨B, 0, none⟩ = some (.int .i64 p.1)
  b1 : W.cell? ⟨B, 1, none⟩ = some (.int .i64 p.2)
theorem NtS.stb (S mb B : Nat) (ns : List T.No) (la : Int) (V : T.Pl → Value) (p : T.Pl) : Free.Stb (NtS S mb B ns la V p) := fun W W' h hb => ⟨h.hs.below hb, cell_below h.c0 hb, cell_below h.b0 hb, cell_below h.b1 hb⟩
def NsO (w : World) (l : List T.No) (e : Ending) (w' : World) : Prop := ∃ v, e = .returned v ∧ RowN w' v l ∧ Below w.heap.size w w'
theorem Notes_any {w : World} {S mb : Nat} {ns : List T.No} {la : Int} {V : T.Pl → Value} (h : HsIs w S mb ns la V) (hl : ns.length ≤ 900000) (hfl : ∀ n ∈ ns, n.fr.length ≤ 1000000) {p : T.Pl} (hp : Pi p) :
    Calls Tryz.prog 21 #[.pointer (some ⟨S, 0, none⟩), .agg #[.int .i64 p.1, .int .i64 p.2]] w fun e w' => NsO w (T.ofP ns p) e w' := by
  have hb := bel1 w (.cells #[.int .i64 p.1, .int .i64 p.2] 42)
  have HN := Lib.hid (none_some S mb _ ((h.below hb).blk.cell 0))
  have HB := Lib.hid hb
  have HS : Hid (NtS S mb w.heap.size ns la V p (w.alloc (.cells #[.int .i64 p.1, .int .i64 p.2] 42)).drew) :=
    NtS.stb _ _ _ _ _ _ _ _ _ ⟨h.below hb, (h.below hb).blk.cell 0, (blk_new w _ 42).cell 0, (blk_new w _ 42).cell 1⟩ (Below.refl _ _).drew
  have HPi := Lib.hid hp
  have hlo : (T.ofP ns p).length ≤ 900000 := Nat.le_trans (List.length_filter_le _ _) hl
  have HFl := Lib.hid (fun n (hn : n ∈ T.ofP ns p) => hfl n (List.mem_filter.1 hn).1)
  have HV := Lib.hid (h.row p)
  obtain ⟨ov, cv, ev, _, _⟩ := (h.row p).shape
  have HEv := Lib.hid ev
  clear h hb hfl hp hl ev
  go_enter Tryz.func21, Tryz.ntmps21
  go_wp2_with fail
  refine HN.out.mono ?_
  rintro e w' ⟨rfl, rfl⟩
  go_wp2
  refine Free.any (NtS S mb w.heap.size ns la V p) (NtS.stb S mb w.heap.size ns la V p) HS.out (fun st => ?_)
  refine Free.tk 0 (some 10) ?_
  refine Free.tk 1 (some 11) ?_
  refine Free.tk 2 (some 12) ?_
  refine Free.tk 3 (some 13) ?_ (hy := by intro W hW; have c0 := hW.c0; go_simp; try with_reducible rfl)
  refine Free.tk 4 (some 14) ?_ (hy := by intro W hW; have b0 := hW.b0; have b1 := hW.b1; go_simp; try with_reducible rfl)
  refine Free.tk 5 (some 15) (v := .slice ov (T.ofP ns p).length cv) ?_ (hy := by intro W hW; have lk := hW.hs.look HPi.out; rw [HEv.out] at lk; unfold pla at lk; unfold execOp; go_simp)
  refine Free.tk 6 (some 16) ?_
  refine Free.tk 7 (some 17) ?_
  refine Free.done (fun W hb hW => ?_)
  have HW := Lib.hid (hW.hs.row p)
  have HBW := Lib.hid (belT HB.out ((Below.refl _ _).drew.trans hb))
  clear hb hW HS HN HB
  rw [HEv.out] at HW
  obtain ⟨l, HL⟩ : ∃ l, Hid (T.ofP ns p = l) := ⟨_, Lib.hid rfl⟩
  rw [HL.out] at HW hlo HFl ⊢
  have HR := Lib.hid (fun W2 (hb : Below W.heap.size W W2) => HW.out.below hb)
  have HI0 : Hid (NlI W (.slice none 0 0) [] W) := ⟨Below.refl _ _, RowN.nil _, fun k hk => by simp [blkOf] at hk⟩
  clear HV HW HEv
  go_wp2
  go_loopw [5, 17] (fun a i wr => ∃ (k : Nat) (av : Value), k ≤ l.length ∧ av = a ∧ i = .int .i64 (k : Int) ∧ Hid (NlI W av (l.take k) wr)) (fun _ i _ => l.length + 1 - natI i)
  case atStart => exact ⟨0, _, by omega, rfl, rfl, by rw [List.take_zero]; exact HI0.out⟩
  case round =>
    obtain ⟨k, av, hk, rfl, rfl, HA⟩ := hrel
    clear HI0
    by_cases hlt : k < l.length
    · have hi : (k : Int) < (l.length : Int) := by omega
      obtain ⟨g1, o1, c1, n, fv, e1, l1, hpi, hown, r1⟩ := (HR.out _ HA.out.b).at_ hlt
      simp at e1
      obtain ⟨rfl, rfl⟩ := e1
      obtain ⟨q1, q2, q3, q4⟩ := rng4 r1
      obtain ⟨of, cf, rfl, _, _⟩ := hown.1.shape
      have hb4 := bel1 wr (.cells (noc n (.slice of n.fr.length cf)).toArray 63)
      have HAn := Lib.hid (anew_any (hown.pls.below hb4) (HFl.out n (List.mem_of_getElem? l1)))
      have HA4 := Lib.hid (HA.out.after hb4)
      have HTk : Hid (l.take (k + 1) = l.take k ++ [n]) := by rw [List.take_add_one, l1]; rfl
      have HPn := Lib.hid hpi
      have hlk : (l.take k).length = k := by rw [List.length_take]; omega
      unfold noc at HAn HA4
      clear hb4 hown r1 l1 HA hpi
      go_wp2_with fail
      refine HAn.out.mono ?_
      rintro e w5 ⟨gv, rfl, ho, hb⟩
      obtain ⟨og, cg, rfl, _, _⟩ := ho.1.shape
      have hb6 := bel1 w5 (.cells (noc n (.slice og n.fr.length cg)).toArray 63)
      have HA6 := Lib.hid ((HA4.out.after hb).after hb6)
      have HO6 := Lib.hid (ho.below hb6)
      obtain ⟨cs, hgs, hnt⟩ := HA6.out.row
      rw [hlk] at hgs
      have HNt := Lib.hid hnt
      have hsr := nt_src w5 n (fv := .slice og n.fr.length cg) rfl
      unfold noc at hsr hgs
      clear hb ho hb6 HA4 HAn hnt q1 q2 q3 q4
      unfold noc
      go_wp2_with (refine wp_append_g rfl _ _ rfl Tryz.underlying66 infoNt rfl (by omega) (by omega) rfl rfl hgs hsr (by omega) ?_; intro v6 w6 hg6 ht6 hn6)
      have hrow : RowN w6 v6 (l.take k ++ [n]) := RowN.app HNt.out (by rw [hlk]; unfold noc; exact hgs) HO6.out HPn.out (by rw [hlk]; exact hg6) ht6
      have hlo6 : ∀ j, blkOf v6 = some j → W.heap.size ≤ j := fun j hj => by
        rcases hn6 j hj with e | e
        · exact HA6.out.lo j e
        · have := HA6.out.b.size
          unfold noc at this
          omega
      have hbT : Below W.heap.size W w6 := HA6.out.b.trans (ht6.below HA6.out.b.size (fun j hj => HA6.out.lo j hj))
      have HI6 : Hid (NlI W v6 (l.take (k + 1)) w6) := ⟨hbT, by rw [HTk.out]; exact hrow, hlo6⟩
      clear hg6 ht6 hn6 hrow hlo6 hbT
      go_wp2
      exact ⟨⟨k + 1, v6, by omega, rfl, by go_num, HI6.out⟩, by simp [natI]; omega⟩
    · obtain rfl : k = l.length := by omega
      have HN : Hid (NsO w (T.ofP ns p) (.returned av) wr) := by
        rw [HL.out]
        have h := HA.out
        rw [List.take_length] at h
        exact ⟨av, rfl, h.row, belT HBW.out h.b⟩
      go_wp2
      go_ret
      exact HN.out
end Go.Proofs.YtiohlmccnllklaaGreatDoor.Q

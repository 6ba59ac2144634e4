/-
  Layer 16: a copy of bytes; a record off its bytes: walks. Layer 16: a record off its bytes: walk.
-/
import Derived.Test.YtjffclcjijpmiaaG14
import Derived.Test.YtjffclcjijpmiaaG15
set_option linter.unusedVariables false
set_option linter.unusedSimpArgs false
namespace Go.Proofs.Ytjffclcjijpmiaa.LG
open Go.RowKit
set_option maxHeartbeats 8000000
set_option maxRecDepth 100000
set_option linter.unusedVariables false
set_option linter.unusedSimpArgs false

/-- What a record's bytes tell ahead of next. -/
def RecR (c : List Int) (last : Int) (r : Rc) : Prop :=
  last ≤ r.tm ∧ r.tm ≤ two62 ∧ (0 ≤ r.kind ∧ r.kind < 256) ∧ (0 ≤ r.n ∧ r.n ≤ maxI) ∧ By8 r.bs ∧ r.bs.length ≤ c.length ∧ (kOk r = true → body c last = some r) ∧ (kOk r = false → body c last = none)
theorem kOk_n {r : Rc} (h : kOk r = true) : r.n ≤ 65535 := by
  unfold kOk at h
  simp only [Bool.or_eq_true, Bool.and_eq_true, decide_eq_true_eq] at h
  rcases h with h | h
  · exact (rOk_b h).2.2.2.1
  · omega
theorem fin_kOk {r : Rc} (h0 : 0 ≤ r.tm) (h1 : r.tm ≤ two62) : r.fin = if kOk r = true then some r else none := by
  unfold Rc.fin kOk
  have hr : r.right = rOk r.kind r.n r.bs.length := by unfold Rc.right; simp [h0, h1]
  rw [hr]
  by_cases hc : (rOk r.kind r.n r.bs.length || (decide (r.kind = 8) && decide (r.n = 0) && decide (r.bs.length = 0))) = true
  · rw [if_pos hc, if_pos]
    simp only [Bool.or_eq_true, Bool.and_eq_true, decide_eq_true_eq] at hc
    rcases hc with h | h
    · exact .inl h
    · exact .inr ⟨h.1.1, h.1.2, List.eq_nil_of_length_eq_zero h.2⟩
  · rw [if_neg hc, if_neg]
    intro h
    apply hc
    simp only [Bool.or_eq_true, Bool.and_eq_true, decide_eq_true_eq]
    rcases h with h | h
    · exact .inl h
    · exact .inr ⟨⟨h.1, h.2.1⟩, by rw [h.2.2]; rfl⟩
theorem tk_end {b : List Int} (h : 0 < (tk 0 1 0 b).2) (hb : By8 b) : (tk 0 1 0 b).2.toNat ≤ b.length ∧ 1 ≤ (tk 0 1 0 b).2.toNat := by
  obtain ⟨m, rest, h1, h2, h3, h4⟩ := tk0_inv hb h
  have hp := num_pos m
  have := congrArg List.length h1
  rw [List.length_append] at this
  rw [h3]
  omega
/-- The record's parts give it. -/
theorem rec_ok {k : Int} {t : List Int} {last : Int} (hb : By8 (k :: t)) (h0 : 0 ≤ last) (h1 : 0 < (tk 0 1 0 t).2) (h2 : (tk 0 1 0 t).1 ≤ two62 - last) {n : Int} {l2 : List Int}
    (hn : (0 < (tk 0 1 0 (t.drop (tk 0 1 0 t).2.toNat)).2 ∧ n = (tk 0 1 0 (t.drop (tk 0 1 0 t).2.toNat)).1 ∧ l2 = (t.drop (tk 0 1 0 t).2.toNat).drop (tk 0 1 0 (t.drop (tk 0 1 0 t).2.toNat)).2.toNat) ∨ ((tk 0 1 0 (t.drop (tk 0 1 0 t).2.toNat)).2 = -1 ∧ n = maxI))
    (hl : l2.length ≤ t.length) (hby : By8 l2) (hn0 : 0 ≤ n) (hn1 : n ≤ maxI) : RecR (k :: t) last ⟨last + (tk 0 1 0 t).1, k, n, l2⟩ := by
  have hbt : By8 t := fun x hx => hb x (by simp [hx])
  obtain ⟨m, c, e1, e2, e3, e4⟩ := tk0_inv hbt h1
  have hk := hb k (by simp)
  have htm : last ≤ last + (tk 0 1 0 t).1 ∧ last + (tk 0 1 0 t).1 ≤ two62 := by rw [e2] at h2 ⊢; omega
  have hd : (k :: t).drop (1 + (tk 0 1 0 t).2.toNat) = t.drop (tk 0 1 0 t).2.toNat := by rw [Nat.add_comm, List.drop_succ_cons]
  have ht1 := tk_end h1 hbt
  refine ⟨htm.1, htm.2, hk, ⟨hn0, hn1⟩, hby, by simp; omega, fun hok => ?_, fun hno => ?_⟩
  · have h65 := kOk_n hok
    simp only at h65
    rcases hn with ⟨p1, p2, p3⟩ | ⟨p1, p2⟩
    · have ht2 := tk_end p1 (fun x hx => hbt x (List.mem_of_mem_drop hx))
      rw [List.length_drop] at ht2
      unfold body
      simp only [List.drop_succ_cons, List.drop_zero, hd, List.headD_cons]
      rw [if_neg (by simp; omega), if_neg (by omega), if_neg (by omega), ← p2, ← p3, fin_kOk (by simp only; omega) htm.2, if_pos hok]
    · have : maxI = 9223372036854775807 := rfl
      omega
  · unfold body
    simp only [List.drop_succ_cons, List.drop_zero, hd, List.headD_cons]
    split
    · rfl
    · split
      · rfl
      · split
        · rfl
        · rename_i h5
          rcases hn with ⟨p1, p2, p3⟩ | ⟨p1, p2⟩
          · rw [← p2, ← p3, fin_kOk (by simp only; omega) htm.2, if_neg (by rw [hno]; simp)]
          · omega
/-- Bytes that are no record. -/
theorem rec_no {c : List Int} {last : Int} (h : c.length < 1 ∨ (tk 0 1 0 (c.drop 1)).2 ≤ 0 ∨ two62 - last < (tk 0 1 0 (c.drop 1)).1 ∨ (tk 0 1 0 (c.drop (1 + (tk 0 1 0 (c.drop 1)).2.toNat))).2 ≤ 0) : body c last = none := by
  unfold body
  split
  · rfl
  · rename_i h3
    split
    · rfl
    · rename_i h4
      split
      · rfl
      · rename_i h5
        omega
end Go.Proofs.Ytjffclcjijpmiaa.LG
namespace Go.Proofs.Ytjffclcjijpmiaa.LG
open Go.RowKit
set_option maxHeartbeats 8000000
set_option maxRecDepth 100000
set_option linter.unusedVariables false
set_option linter.unusedSimpArgs false

/-- What record leaves. -/
def RcdP (N : Nat) (c : List Int) (last : Int) (w : World) (e : Ending) (w' : World) : Prop :=
  Below w.heap.size w w' ∧ ((e = .panicked (chain 260) ∧ body c last = none) ∨ (∃ r bv, e = .returned (.agg (rcl r bv).toArray) ∧ RecR c last r ∧ Bn N w' bv r.bs))
/-- What record's walk knows: the result's block, what is left. -/
structure RcI (N : Nat) (w : World) (A B L : Nat) (c : List Int) (W : World) : Prop where
  u : Below w.heap.size w W
  a : Blk W A #[.int .i64 0, .int .i64 0, .int .i64 0, .slice none 0 0] 42
  t : Tk N W B L c
theorem RcI.step {N : Nat} {w : World} {A B L : Nat} {c c' : List Int} {W W' : World} (h : RcI N w A B L c W) (hL : w.heap.size ≤ L) (hAL : A ≠ L) (ht : Turned (fun k => k = L) W W') (hk : Tk N W' B L c') : RcI N w A B L c' W' :=
  ⟨h.u.trans (ht.below h.u.size (fun k hk => by omega)), h.a.turned ht hAL, hk⟩
theorem PRec_any {N : Nat} {w : World} {cv : Value} {c : List Int} {last : Int} (h : Bn N w cv c) (hN : N ≤ w.heap.size) (hl : c.length ≤ 1000000) (h0 : 0 ≤ last) (h1 : last ≤ two62) :
    Calls Try.prog 43 #[cv, .int .i64 last] w fun e w' => RcdP N c last w e w' := by
  have HPn : Hid (body c last = none → ∀ W, Below w.heap.size w W → RcdP N c last w (.panicked (chain 260)) W) := Lib.hid (fun h W hb => ⟨hb, .inl ⟨rfl, h⟩⟩)
  have HPy : Hid (∀ r bv W, Below w.heap.size w W → RecR c last r → Bn N W bv r.bs → RcdP N c last w (.returned (.agg (rcl r bv).toArray)) W) := Lib.hid (fun r bv W hb hr hv => ⟨hb, .inr ⟨r, bv, rfl, hr, hv⟩⟩)
  have HBy := Lib.hid h.1.2
  obtain ⟨vo, vc, rfl, _, _⟩ := h.1.shape
  have kA := blk_new w #[.int .i64 0, .int .i64 0, .int .i64 0, .slice none 0 0] 42
  have bA := bel1 w (.cells #[.int .i64 0, .int .i64 0, .int .i64 0, .slice none 0 0] 42)
  have kL := blk_new (w.alloc (.cells #[.int .i64 0, .int .i64 0, .int .i64 0, .slice none 0 0] 42)) #[.slice vo c.length vc] 34
  have bL := bel1 (w.alloc (.cells #[.int .i64 0, .int .i64 0, .int .i64 0, .slice none 0 0] 42)) (.cells #[.slice vo c.length vc] 34)
  rw [World.size_alloc] at kL
  have HA := Lib.hid (kA.below bL)
  have HL := Lib.hid kL
  have HB := Lib.hid (belT bA bL)
  have HV := Lib.hid (h.keep ((belT bA bL).mono hN))
  have HN := Lib.hid (And.intro hN hl)
  have h62 : two62 = 4611686018427387904 := rfl
  clear kA bA kL bL h
  go_enter Try.func43, Try.ntmps43
  go_wp2_with fail
  refine (takerOf_any _ _).mono ?_
  rintro e W1 ⟨rfl, hW1⟩
  have hsz : ((w.alloc (.cells #[.int .i64 0, .int .i64 0, .int .i64 0, .slice none 0 0] 42)).alloc (.cells #[.slice vo c.length vc] 34)).heap.size = w.heap.size + 2 := by simp
  have HI : Hid (RcI N w w.heap.size (w.heap.size + 2) (w.heap.size + 1) c W1) := by
    have hb := bel1 ((w.alloc (.cells #[.int .i64 0, .int .i64 0, .int .i64 0, .slice none 0 0] 42)).alloc (.cells #[.slice vo c.length vc] 34)) (.cells #[.pointer (some ⟨w.heap.size + 1, 0, none⟩)] 92)
    have hk := blk_new ((w.alloc (.cells #[.int .i64 0, .int .i64 0, .int .i64 0, .slice none 0 0] 42)).alloc (.cells #[.slice vo c.length vc] 34)) #[.pointer (some ⟨w.heap.size + 1, 0, none⟩)] 92
    rw [hsz] at hk
    have hn := HN.out.1
    subst hW1
    exact Lib.hid ⟨belT HB.out hb, HA.out.below hb, ⟨⟨_, ⟨hk, HL.out.below hb⟩, HV.out.keep (hb.mono (by rw [hsz]; omega))⟩, by omega, by omega⟩⟩
  rw [hsz]
  clear hW1 hsz HA HL HB HV
  -- the kind
  have HS := Lib.hid (sure_any HI.out.t 1 260 (by omega))
  go_wp2_with fail
  refine HS.out.mono ?_
  rintro e W2 (⟨hlt, rfl, rfl⟩ | ⟨hle, v1, rfl, hv1, ht2, hu2⟩)
  · have HX := Lib.hid (HPn.out (rec_no (.inl (by omega))) _ HI.out.u)
    clear hlt HS HI HPn HPy
    go_wp2
    exact ⟨rfl, HX.out⟩
  obtain ⟨k, t, rfl⟩ : ∃ k t, c = k :: t := by
    cases c with
    | nil => simp at hle
    | cons k t => exact ⟨k, t, rfl⟩
  replace HI := Lib.hid (HI.out.step (by omega) (by omega) hu2 ht2)
  have hv2 : Bn N W2 v1 [k] := hv1
  obtain ⟨g1, o1, c1, y, e1, l1, hy, q1⟩ := hv2.1.at_ (k := 0) (by simp)
  simp at l1
  subst l1
  subst e1
  simp only [List.length_singleton, Nat.add_zero] at q1
  have hdr : (k :: t).drop (1 : Int).toNat = t := rfl
  rw [hdr] at HI
  have hlt1 : t.length ≤ 1000000 := by have := HN.out.2; simp at this; omega
  clear hv1 hv2 ht2 hu2 HS hdr hle
  -- above
  have HS := Lib.hid (sureN_any HI.out.t (by omega) 260)
  go_wp2_with fail
  refine HS.out.mono ?_
  rintro e W3 ⟨hu3, (⟨rfl, hle⟩ | ⟨n1, l1, rfl, ht3, p0, p1, p2, hn⟩)⟩
  · have HX := Lib.hid (HPn.out (rec_no (.inr (.inl hle))) W3 (HI.out.u.trans (hu3.below HI.out.u.size (fun k hk => by omega))))
    clear hle hu3 HS HI HPn HPy
    go_wp2
    exact ⟨rfl, HX.out⟩
  replace HI := Lib.hid (HI.out.step (by omega) (by omega) hu3 ht3)
  have HN1 := Lib.hid (And.intro hn p2)
  unfold maxI at p1
  clear ht3 hu3 HS hn p2 q1
  by_cases hab : n1 ≤ 4611686018427387904 - last
  rotate_left
  · have habd : decide (n1 ≤ 4611686018427387904 - last) = false := by simpa using hab
    have HX := Lib.hid (HPn.out (rec_no (by
      rcases HN1.out.1 with ⟨q1, q2, q3⟩ | ⟨q1, q2⟩
      · right; right; left
        show two62 - last < (tk 0 1 0 t).1
        rw [← q2]; omega
      · right; left
        show (tk 0 1 0 t).2 ≤ 0
        omega)) W3 HI.out.u)
    go_wp2_with fail
    refine (must_no 260 _).mono ?_
    rintro e W4 ⟨rfl, rfl⟩
    clear HI HPn HPy HN1
    go_wp2
    exact ⟨rfl, HX.out⟩
  have HT1 : Hid (0 < (tk 0 1 0 t).2 ∧ n1 = (tk 0 1 0 t).1 ∧ l1 = t.drop (tk 0 1 0 t).2.toNat) := by
    rcases HN1.out.1 with h | ⟨q1, q2⟩
    · exact Lib.hid h
    · have : maxI = 9223372036854775807 := rfl
      omega
  have hl1 : l1.length ≤ 1000000 := by have := HN1.out.2; omega
  go_wp2_with fail
  refine (must_yes 260 _).mono ?_
  rintro e W4 ⟨rfl, rfl⟩
  -- N
  have HS := Lib.hid (sureN_any HI.out.t (by omega) 260)
  clear HN1
  go_wp2_with fail
  refine HS.out.mono ?_
  rintro e W5 ⟨hu5, (⟨rfl, hle⟩ | ⟨n2, l2, rfl, ht5, r0, r1, r2, hn⟩)⟩
  · have HX := Lib.hid (HPn.out (rec_no (.inr (.inr (.inr (by
      have hd : (k :: t).drop (1 + (tk 0 1 0 ((k :: t).drop 1)).2.toNat) = l1 := by
        rw [HT1.out.2.2, Nat.add_comm, List.drop_succ_cons]; rfl
      rw [hd]; exact hle))))) W5 (HI.out.u.trans (hu5.below HI.out.u.size (fun k hk => by omega))))
    clear hle hu5 HS HI HPn HPy
    go_wp2
    exact ⟨rfl, HX.out⟩
  replace HI := Lib.hid (HI.out.step (by omega) (by omega) hu5 ht5)
  obtain ⟨⟨v2, hk2, hv2⟩, _, _⟩ := ht5
  have c2 := hk2.l.cell 0
  have c3 := HI.out.a.cell 0
  have z3 := HI.out.a.frozen 0
  simp only [List.getElem?_toArray, List.getElem?_cons_zero] at c2 c3
  have HV2 := Lib.hid hv2
  have HR : Hid (RecR (k :: t) last ⟨last + n1, k, n2, l2⟩) := by
    obtain ⟨q1, q2, q3⟩ := HT1.out
    rw [q2]
    rw [q2] at hab
    rw [q3] at hn r2
    exact Lib.hid (rec_ok HBy.out h0 q1 (by omega) hn (by rw [List.length_drop] at r2; omega) hv2.1.2 r0 r1)
  obtain ⟨xo, xc, rfl, _, _⟩ := hv2.1.shape
  have hsum : last + n1 ≤ 4611686018427387904 := by omega
  clear hk2 hv2 hu5 HS hn r2 HT1
  have hok : Ok1 4 #[.int .i64 (last + n1), .int .i64 k, .int .i64 n2, .slice xo l2.length xc] := ⟨rfl, by simp [Value.oneCell']⟩
  have hRf : Rf 42 4 W5 w.heap.size #[.int .i64 0, .int .i64 0, .int .i64 0, .slice none 0 0] := ⟨HI.out.a, rfl, by simp [Value.oneCell']⟩
  have HRf := Lib.hid (And.intro hRf hok)
  have hR9 := hRf.set hok
  have hT9 := turned_setRow W5 w.heap.size #[.int .i64 (last + n1), .int .i64 k, .int .i64 n2, .slice xo l2.length xc]
  have hb9 := HI.out.u.trans (hT9.below HI.out.u.size (fun k hk => by omega))
  have HX := Lib.hid (And.intro hR9 (HPy.out _ _ _ hb9 HR.out (HV2.out.keep ((hT9.below HI.out.u.size (fun k hk => by omega)).mono HN.out.1))))
  clear hok hRf hR9 hT9 hb9 HV2 HR HI HPn HPy c3 z3
  go_wp2_with ((with_reducible refine wp_store_R (#[.int .i64 (last + n1), .int .i64 k, .int .i64 n2, .slice xo l2.length xc]) rowRec HRf.out ?_ ?_ ?_); (kernel_rfl); (kernel_rfl))
  refine bodyPost_end (res_R rowRec (fn := Try.f43) rfl _ HX.out.1 rfl) rfl ?_
  exact HX.out.2
end Go.Proofs.Ytjffclcjijpmiaa.LG

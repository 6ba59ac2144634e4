/-
  Layer 16: reading a log off bytes, record by record: plain lists, no program. Layer 16: a clone of bytes; the closure that goes over records: walks. Layer 16: what Decode's walk knows of the world. No walk.
-/
import Derived.Test.YtjffclcjijpmiaaG23
import Derived.Test.YtjffclcjijpmiaaG14
import Derived.Test.YtjffclcjijpmiaaG16
import Derived.Test.YtjffclcjijpmiaaG17
import Derived.Test.YtjffclcjijpmiaaG22
import Derived.OwnWalkIn
set_option linter.unusedVariables false
set_option linter.unusedSimpArgs false
namespace Go.Proofs.Ytjffclcjijpmiaa.LG
open Go.RowKit
set_option linter.unusedVariables false
set_option linter.unusedSimpArgs false

theorem Stp.inv {l c rest : List Int} (h : Stp l c rest) (hb : By8 l) : l = num c.length ++ (c ++ rest) ∧ (tk 0 1 0 l).1.toNat = c.length ∧ (tk 0 1 0 l).2.toNat = (num c.length).length := by
  obtain ⟨h0, h1, h2, h3⟩ := h
  obtain ⟨m, r, e1, e2, e3, e4⟩ := tk0_inv hb h0
  rw [e2, e3] at h1 h2 h3
  simp only [Int.toNat_natCast] at h1 h2 h3
  have ed : l.drop (num m).length = r := by rw [e1, List.drop_left]
  rw [ed] at h1 h2 h3
  have hc : c.length = m := by rw [h2, List.length_take]; omega
  refine ⟨?_, by rw [e2, hc]; simp, by rw [e3, hc]; simp⟩
  rw [hc, h2, h3, List.take_append_drop]
  exact e1
theorem dec_true {en last : Int} {rs : List Rc} {at_ : Nat} {l : List Int} (h : l ≠ []) : dec true en last rs at_ l = none := by
  rw [dec, dif_neg h, if_pos (.inl rfl)]
theorem dec_stop {en last : Int} {rs : List Rc} {at_ : Nat} {l : List Int} (h : Stop l) : dec false en last rs at_ l = if (tk 0 1 0 l).2 < 0 then none else some (rs, false, en, at_) := by
  rw [dec]
  by_cases hl : l = []
  · subst hl; simp [tk]
  · rw [dif_neg hl]
    by_cases hn : (tk 0 1 0 l).2 < 0
    · rw [if_pos (.inr hn), if_pos hn]
    · rw [if_neg (by simp; omega), if_neg hn, dif_pos]
      rcases h with h | h
      · left; omega
      · rw [List.length_drop] at h; right; omega
theorem dec_stp {l c rest : List Int} (h : Stp l c rest) (hb : By8 l) (en last : Int) (rs : List Rc) (at_ : Nat) : dec false en last rs at_ l = match body c last with
    | none => none
    | some r => if r.kind = 8 then dec true r.tm r.tm rs (at_ + (l.length - rest.length)) rest else dec false en r.tm (rs ++ [r]) (at_ + (l.length - rest.length)) rest := by
  obtain ⟨e1, e2, e3⟩ := h.inv hb
  have hp := num_pos c.length
  have hlen := congrArg List.length e1
  rw [List.length_append, List.length_append] at hlen
  have hne : l ≠ [] := by rintro rfl; simp at hlen; omega
  have e4 : l.drop ((tk 0 1 0 l).2.toNat + (tk 0 1 0 l).1.toNat) = rest := by
    rw [e2, e3]
    conv => lhs; rw [e1]
    rw [← List.append_assoc, ← List.length_append, List.drop_left]
  have e5 : (l.drop (tk 0 1 0 l).2.toNat).take (tk 0 1 0 l).1.toNat = c := h.2.2.1.symm
  have hl2 : ((tk 0 1 0 l).1 : Int) ≤ ((l.drop (tk 0 1 0 l).2.toNat).length : Int) := h.2.1
  have h0 := h.1
  rw [List.length_drop] at hl2
  rw [dec, dif_neg hne, if_neg (by simp; omega), dif_neg (by omega), e5, e4, e2, e3, show (num c.length).length + c.length = l.length - rest.length by omega]
  cases body c last <;> rfl
/-- What a round of Decode begins with. -/
structure PI (b : List Int) (fr se mo : Int) (rs : List Rc) (wh : Bool) (en at_ : Int) (left : List Int) : Prop where
  hd : headOk fr se mo = true
  sp : b = encH fr se mo ++ (encR 0 rs ++ (encE (lastOf 0 rs) wh en ++ left))
  ch : Chain 0 rs
  t0 : 0 ≤ at_
  t1 : at_ ≤ two62
  e1 : wh = true → lastOf 0 rs ≤ en ∧ en ≤ two62
  e2 : wh = false → en = 0 ∧ at_ = lastOf 0 rs
  dc : dcL b = match dec wh en at_ rs (b.length - left.length) left with
    | none => (Lg.zero, 0, 260)
    | some (rs, wh, en, n) => (⟨fr, se, mo, rs, wh, en⟩, (n : Int), 0)
theorem PI.len {b : List Int} {fr se mo : Int} {rs : List Rc} {wh : Bool} {en at_ : Int} {left : List Int} (h : PI b fr se mo rs wh en at_ left) : left.length ≤ b.length := by
  have := congrArg List.length h.sp
  simp only [List.length_append] at this
  omega
theorem PI.by8 {b : List Int} {fr se mo : Int} {rs : List Rc} {wh : Bool} {en at_ : Int} {left : List Int} (h : PI b fr se mo rs wh en at_ left) (hb : By8 b) : By8 left := fun x hx => hb x (by rw [h.sp]; simp [hx])
/-- What is read so far. -/
theorem PI.take {b : List Int} {fr se mo : Int} {rs : List Rc} {wh : Bool} {en at_ : Int} {left : List Int} (h : PI b fr se mo rs wh en at_ left) : Lg.enc ⟨fr, se, mo, rs, wh, en⟩ = b.take (b.length - left.length) := by
  have e : b = Lg.enc ⟨fr, se, mo, rs, wh, en⟩ ++ left := by
    unfold Lg.enc
    simp only [List.append_assoc]
    exact h.sp
  have hl := congrArg List.length e
  rw [List.length_append] at hl
  rw [show b.length - left.length = (Lg.enc ⟨fr, se, mo, rs, wh, en⟩).length by omega]
  conv => rhs; rw [e]
  rw [List.take_left]
theorem PI.ok {b : List Int} {fr se mo : Int} {rs : List Rc} {wh : Bool} {en at_ : Int} {left : List Int} (h : PI b fr se mo rs wh en at_ left) : Lg.ok ⟨fr, se, mo, rs, wh, en⟩ = true ∧ Lg.By ⟨fr, se, mo, rs, wh, en⟩ := by
  have hc := chain_last rs 0 h.ch (by decide)
  refine ⟨?_, chain_by rs 0 h.ch⟩
  unfold Lg.ok
  simp only [Bool.and_eq_true, Bool.or_eq_true, decide_eq_true_eq, chain_iff rs 0 (chain_by rs 0 h.ch), Bool.not_eq_true']
  refine ⟨⟨⟨⟨h.hd, ?_⟩, ?_⟩, h.ch⟩, ?_⟩
  · cases wh with
    | true => have := h.e1 rfl; omega
    | false => rw [(h.e2 rfl).1]; decide
  · cases wh with
    | true => exact Or.inl rfl
    | false => exact Or.inr (h.e2 rfl).1
  · cases wh with
    | true => exact Or.inr (h.e1 rfl).1
    | false => exact Or.inl rfl
theorem hn_hd {b : List Int} {fr se mo : Int} {b3 : List Int} (hb : By8 b) (h : hdr b = some (fr, se, mo, b3)) : headOk fr se mo = true ∧ b = encH fr se mo ++ b3 := by
  unfold hdr at h
  split at h
  · cases h
  · rename_i h4
    have h4 : b.take 4 = pmdr := by simpa using h4
    have hb4 : ∀ x ∈ b.drop 4, 0 ≤ x ∧ x < 256 := fun x hx => hb x (List.mem_of_mem_drop hx)
    split at h
    · cases h
    · rename_i fr b1 g1
      obtain ⟨m1, rfl, q1, r1⟩ := hn_inv hb4 g1
      split at h
      · cases h
      · rename_i se b2 g2
        obtain ⟨m2, rfl, q2, r2⟩ := hn_inv (fun x hx => hb4 x (by rw [r1]; simp [hx])) g2
        split at h
        · cases h
        · rename_i mo b3 g3
          obtain ⟨m3, rfl, q3, r3⟩ := hn_inv (fun x hx => hb4 x (by rw [r1, r2]; simp [hx])) g3
          split at h
          · rename_i hok
            cases h
            refine ⟨hok, ?_⟩
            rw [← List.take_append_drop 4 b, h4, r1, r2, r3]
            unfold encH
            simp [List.append_assoc]
          · cases h
theorem PI.first {b : List Int} {fr se mo : Int} {b3 : List Int} (hb : By8 b) (h : hdr b = some (fr, se, mo, b3)) : PI b fr se mo [] false 0 0 b3 := by
  obtain ⟨h1, h2⟩ := hn_hd hb h
  refine ⟨h1, by simpa [encR, encE] using h2, trivial, by decide, by decide, (fun h => by cases h), fun _ => ⟨rfl, rfl⟩, ?_⟩
  rw [dcL_hdr, h]
  simp only
  generalize dec false 0 0 [] (b.length - b3.length) b3 = x
  cases x <;> rfl
/-- A record that may not be ends it. -/
theorem PI.bad {b : List Int} {fr se mo : Int} {rs : List Rc} {wh : Bool} {en at_ : Int} {left c rest : List Int} (h : PI b fr se mo rs wh en at_ left) (hb : By8 b) (hs : Stp left c rest) (hn : wh = true ∨ body c at_ = none) : dcL b = (Lg.zero, 0, 260) := by
  have hne : left ≠ [] := by rintro rfl; have := hs.1; simp [tk] at this
  rw [h.dc]
  cases wh with
  | true => rw [dec_true hne]
  | false =>
    rcases hn with hn | hn
    · cases hn
    · rw [dec_stp hs (h.by8 hb), hn]
/-- A record is read. -/
theorem PI.next {b : List Int} {fr se mo : Int} {rs : List Rc} {en at_ : Int} {left c rest : List Int} {r : Rc} (h : PI b fr se mo rs false en at_ left) (hb : By8 b) (hs : Stp left c rest) (hr : body c at_ = some r) :
    (r.kind = 8 → PI b fr se mo rs true r.tm r.tm rest) ∧ (r.kind ≠ 8 → PI b fr se mo (rs ++ [r]) false 0 r.tm rest) := by
  have hlb := h.by8 hb
  obtain ⟨i1, _, _⟩ := hs.inv hlb
  have hcb : By8 c := fun x hx => hlb x (by rw [i1]; simp [hx])
  obtain ⟨q1, q2, q3⟩ := body_inv hcb h.t0 h.t1 hr
  have hrb : left = rb r at_ ++ rest := by
    unfold rb
    rw [← q1, List.append_assoc]
    exact i1
  have hll := hs.less hlb
  have hbl := h.len
  obtain ⟨e0, ea⟩ := h.e2 rfl
  subst e0
  have hdc := h.dc
  rw [dec_stp hs hlb, hr] at hdc
  simp only at hdc
  rw [show b.length - left.length + (left.length - rest.length) = b.length - rest.length by omega] at hdc
  have hsp := h.sp
  rw [hrb] at hsp
  refine ⟨fun h8 => ?_, fun h8 => ?_⟩
  · rw [if_pos h8] at hdc
    have hr8 : r = endR r.tm := by
      rcases q2.2.2.1 with e | e
      · have := rOk_b e; omega
      · obtain ⟨tm, k, n', bs⟩ := r
        simp only at e
        obtain ⟨rfl, rfl, rfl⟩ := e
        rfl
    refine ⟨h.hd, ?_, h.ch, q2.1, q2.2.1, fun _ => ⟨by rw [← ea]; exact q3, q2.2.1⟩, (fun h => by cases h), hdc⟩
    rw [hsp, ea]
    show _ = encH fr se mo ++ (encR 0 rs ++ (rb (endR r.tm) (lastOf 0 rs) ++ rest))
    rw [← hr8]
    simp [encE]
  · rw [if_neg h8] at hdc
    have hrk : rOk r.kind r.n r.bs.length = true := by
      rcases q2.2.2.1 with e | e
      · exact e
      · exact absurd e.1 h8
    refine ⟨h.hd, ?_, (chain_snoc rs 0 r).2 ⟨h.ch, ⟨q2.2.1, q2.1, hrk, q2.2.2.2⟩, by rw [← ea]; exact q3⟩, q2.1, q2.2.1, (fun h => by cases h), fun _ => ⟨rfl, (lastOf_snoc rs 0 r).symm⟩, hdc⟩
    rw [hsp, ea, encR_snoc]
    simp [encE, List.append_assoc]
/-- Some number stands ahead that has a byte too many. -/
def Late (b : List Int) : Prop := ∃ (l : Lg) (rest : List Int), l.ok = true ∧ l.By ∧ l.wh = false ∧ b = l.enc ++ rest ∧ (tk 0 1 0 rest).2 < 0
/-- What reading says. -/
def DcR (b : List Int) (l : Lg) (n er : Int) : Prop := (l, n, er) = dcL b ∨ (dcL b = (Lg.zero, 0, 260) ∧ Late b ∧ er = 0 ∧ l.ok = true ∧ l.By ∧ ∃ k : Nat, n = k ∧ k ≤ b.length ∧ l.enc = b.take k)
/-- The end: all is read, or what is left ends too soon. -/
theorem PI.stop {b : List Int} {fr se mo : Int} {rs : List Rc} {wh : Bool} {en at_ : Int} {left : List Int} (h : PI b fr se mo rs wh en at_ left) (hs : Stop left) (hw : wh = true → left = []) : DcR b ⟨fr, se, mo, rs, wh, en⟩ ((b.length : Int) - (left.length : Int)) 0 := by
  have hl := h.len
  have hcast : ((b.length - left.length : Nat) : Int) = (b.length : Int) - (left.length : Int) := by omega
  cases wh with
  | true =>
    left
    have := hw rfl
    subst this
    rw [h.dc, dec_nil]
    simp
  | false =>
    have hdc := h.dc
    rw [dec_stop hs] at hdc
    by_cases hn : (tk 0 1 0 left).2 < 0
    · rw [if_pos hn] at hdc
      obtain ⟨k1, k2⟩ := h.ok
      refine .inr ⟨hdc, ⟨⟨fr, se, mo, rs, false, en⟩, left, k1, k2, rfl, ?_, hn⟩, rfl, k1, k2, b.length - left.length, hcast.symm, by omega, h.take⟩
      unfold Lg.enc
      simp only [List.append_assoc]
      exact h.sp
    · rw [if_neg hn] at hdc
      left
      rw [hdc]
      simp only [hcast]
theorem PI.left {b : List Int} {fr se mo : Int} {rs : List Rc} {en at_ : Int} {left : List Int} (h : PI b fr se mo rs true en at_ left) (hne : left ≠ []) : dcL b = (Lg.zero, 0, 260) := by rw [h.dc, dec_true hne]
theorem PI.late {b : List Int} {fr se mo : Int} {rs : List Rc} {wh : Bool} {en at_ : Int} {left : List Int} (h : PI b fr se mo rs wh en at_ left) (hn : (tk 0 1 0 left).2 = -1) : dcL b = (Lg.zero, 0, 260) := by
  have hne : left ≠ [] := by rintro rfl; simp [tk] at hn
  rw [h.dc, dec, dif_neg hne, if_pos (.inr (by omega))]
end Go.Proofs.Ytjffclcjijpmiaa.LG
namespace Go.Proofs.Ytjffclcjijpmiaa.LG
open Go.RowKit
set_option maxHeartbeats 8000000
set_option maxRecDepth 100000
set_option linter.unusedVariables false
set_option linter.unusedSimpArgs false

/-- What a clone of bytes is. -/
def ClnP (l : List Int) (w : World) (e : Ending) (w' : World) : Prop := Below w.heap.size w w' ∧ ∃ v, e = .returned v ∧ Og w' v l ∧ ∀ k, blkOf v = some k → w.heap.size ≤ k
theorem BClone_any {w : World} {v : Value} {l : List Int} (h : Bs w v l) (hl : l.length ≤ 1000000) : Calls Try.prog 45 #[v] w fun e w' => ClnP l w e w' := by
  have HB := Lib.hid h
  obtain ⟨ao, c, rfl, _, _⟩ := h.shape
  have hen : ∀ W, (binOp BinOp.eql 34 (.slice none 0 c) (.slice none 0 0)).run Try.prog W = .ok (.bool true) W := fun W => by rfl
  have hes : ∀ (a : Addr) W, (binOp BinOp.eql 34 (.slice (some a) l.length c) (.slice none 0 0)).run Try.prog W = .ok (.bool false) W := fun a W => by rfl
  cases ao with
  | none =>
    have hl0 : l = [] := by
      cases l with
      | nil => rfl
      | cons x t =>
        obtain ⟨g1, o1, c1, y, e1, _⟩ := HB.out.at_ (k := 0) (by simp)
        cases e1
    subst hl0
    clear h HB
    go_enter Try.func45, Try.ntmps45
    go_wp2
    go_ret
    exact ⟨Below.refl _ _, _, rfl, Og.nil _, fun k hk => by simp [blkOf] at hk⟩
  | some a =>
    have bw := bel1 w (.cells #[] 5)
    have HS := Lib.hid (src_bs (h.below bw))
    have HE : Hid (Gs 5 1 (w.alloc (.cells #[] 5)) (.slice (some ⟨w.heap.size, 0, none⟩) 0 0) 0 []) := Lib.hid (Gs.empty _ _ _ _)
    have HW := Lib.hid bw
    clear h HB bw
    go_enter Try.func45, Try.ntmps45
    go_wp2_with (refine wp_append_g rfl _ _ rfl Try.underlying34 infoU8 rfl (by omega) (by omega) rfl rfl HE.out HS.out (by omega) ?_)
    intro v6 w6 hg6 ht6 hn6
    have HP : Hid (ClnP l w (.returned v6) w6) := Lib.hid ⟨HW.out.trans (ht6.below HW.out.size (fun k hk => by simp [blkOf] at hk)), v6, rfl, hg6, fun k hk => by
      rcases hn6 k hk with e | e
      · simp [blkOf] at e
      · omega⟩
    obtain ⟨vo, vc, rfl, _, _⟩ := hg6.shape
    clear hg6 ht6 hn6 HE HS HW
    go_wp2
    go_ret
    exact HP.out
end Go.Proofs.Ytjffclcjijpmiaa.LG
namespace Go.Proofs.Ytjffclcjijpmiaa.LG
open Go.RowKit
set_option linter.unusedVariables false
set_option linter.unusedSimpArgs false
set_option maxRecDepth 100000

/-- An append in a round. -/
theorem wpListIn_append_g {F : Fence} {n0 : Nat} {P : Program} {sl sl2 e : TypeId} {sz bz : Nat} {z : Value} {ops : Array Oper} {rest : List Oper} {o : Oper} {a : Act} {Q : Exit → Act → World → Prop} {w : World} (hgd : o.guard = none) (s x : Operand)
    (ho : o.op = .call { callee := .builtin .append, args := #[s, x], argTypes := #[sl, sl2] })
    (hu : P.underlying sl = some (.slice e)) (hinf : (P.info? e).map (fun i => (i.zero, i.size, i.bytes)) = some (some z, sz, bz)) (hz : z.cells.size = sz) (hsz : 0 < sz) (hbz : bz ≤ 64)
    {v vx : Value} {n m : Nat} {cs ys : List Value} (hs : a.eval s = v) (hv : a.eval x = vx) (h : Gs e sz w v n cs) (hx : Src P sz sl2 vx m ys w) (hm : n + m ≤ 1000000)
    (hK : ∀ v' w', Gs e sz w' v' (n + m) (cs ++ ys) → Turned (fun k => blkOf v = some k) w w' → (∀ k, blkOf v' = some k → blkOf v = some k ∨ w.heap.size ≤ k) → wpListIn F n0 P ops Q rest (a.put o.dst v') w') : wpListIn F n0 P ops Q (o :: rest) a w := by
  refine wpListIn_plain hgd fun K hK' => ?_
  obtain ⟨v', w', hrun, r1, r2, r3⟩ := run_append_g hu hinf hz hsz hbz h hx hm o.type
  unfold Oper.wpIn
  refine ⟨?_, ?_⟩
  · simp [Oper.about, ho, resolve, Target.leads, Sem.run_pure]
  · rw [Oper.semAt_plain F _ _ (by rw [ho]; intro c hc'; cases hc')]
    simp [execOp, ho, resolve, invoke, builtin, hs, hv, hrun, Result.andThen]
    exact hK' _ _ (hK v' w' r1 r2 r3)
theorem infoRec : (Try.prog.info? 42).map (fun i => (i.zero, i.size, i.bytes)) = some (some (.agg #[.int .i64 0, .int .i64 0, .int .i64 0, .slice none 0 0]), 4, 48) := by kernel_rfl
theorem src_rec (w : World) (r : Rc) (ao : Option Addr) (k c : Nat) : Src Try.prog 4 24 (.slice (some ⟨w.heap.size, 0, none⟩) 1 1) 1 (rcl r (.slice ao k c)) (w.alloc (.cells #[.int .i64 r.tm, .int .i64 r.kind, .int .i64 r.n, .slice ao k c] 42)) := by
  refine Src.ofSlice _ Try.underlying24 _ 1 1 _ rfl (fun j u hj => ?_) (fun u hu => ?_)
  · rw [add_lit]
    have := (blk_new w #[.int .i64 r.tm, .int .i64 r.kind, .int .i64 r.n, .slice ao k c] 42).range 0 (rcl r (.slice ao k c)) rfl
    exact this j u hj
  · simp [rcl] at hu
    rcases hu with rfl | rfl | rfl | rfl <;> rfl
/-- Records' cells, their bytes of one's own, above a block. -/
def RcO (W : World) (M : Nat) : List Rc → List Value → Prop
  | [], cs => cs = []
  | r :: t, cs => ∃ bv cs', cs = rcl r bv ++ cs' ∧ (Og W bv r.bs ∧ ∀ k, blkOf bv = some k → M < k) ∧ RcO W M t cs'
theorem RcO.snoc {W : World} {M : Nat} {r : Rc} {bv : Value} (hb : Og W bv r.bs) (hk : ∀ k, blkOf bv = some k → M < k) : ∀ {l : List Rc} {cs : List Value}, RcO W M l cs → RcO W M (l ++ [r]) (cs ++ rcl r bv)
  | [], cs, h => by
    have : cs = [] := h
    subst this
    exact ⟨bv, [], by simp, ⟨hb, hk⟩, rfl⟩
  | x :: t, cs, ⟨v, cs', e, h1, h2⟩ => ⟨v, cs' ++ rcl r bv, by rw [e, List.append_assoc], h1, RcO.snoc hb hk h2⟩
theorem Og.turned {F : Nat → Prop} {W W' : World} {v : Value} {l : List Int} (h : Og W v l) (ht : Turned F W W') (hu : ∀ k, F k → ∀ cur, ¬ Blk W k cur 5) : Og W' v l := Gs.turned h ht (fun k hk hF => by
  obtain ⟨cur, hc⟩ := Gs.in_ h hk
  exact hu k hF cur hc)
theorem RcO.turned {F : Nat → Prop} {W W' : World} {M : Nat} (ht : Turned F W W') (hu : ∀ k, F k → ∀ cur, ¬ Blk W k cur 5) : ∀ {l : List Rc} {cs : List Value}, RcO W M l cs → RcO W' M l cs
  | [], _, h => h
  | _ :: _, _, ⟨v, cs', e, ⟨h1, h3⟩, h2⟩ => ⟨v, cs', e, ⟨Og.turned h1 ht hu, h3⟩, RcO.turned ht hu h2⟩
theorem RcO.rcC {W : World} {M : Nat} : ∀ {l : List Rc} {cs : List Value}, (∀ r ∈ l, By8 r.bs) → RcO W M l cs → RcC W l cs
  | [], _, _, h => h
  | r :: _, _, hb, ⟨v, cs', e, ⟨h1, _⟩, h2⟩ => ⟨v, cs', e, Og.bs h1 (hb r (by simp)), RcO.rcC (fun x hx => hb x (by simp [hx])) h2⟩
/-- A row of records, of one's own, above a block. -/
def RwO (W : World) (M : Nat) (rv : Value) (rs : List Rc) : Prop := ∃ cs, Gs 42 4 W rv rs.length cs ∧ RcO W M rs cs ∧ ∀ k, blkOf rv = some k → M < k
theorem RwO.nil (W : World) (M : Nat) : RwO W M (.slice none 0 0) [] := ⟨[], Gs.nil _ _ _, rfl, fun k hk => by simp [blkOf] at hk⟩
theorem RwO.shape {W : World} {M : Nat} {rv : Value} {rs : List Rc} (h : RwO W M rv rs) : ∃ ao c, rv = .slice ao rs.length c ∧ rs.length ≤ c ∧ rs.length ≤ maxLen := by
  obtain ⟨cs, h1, _⟩ := h
  exact h1.shape
theorem RwO.turned {F : Nat → Prop} {W W' : World} {M : Nat} {rv : Value} {rs : List Rc} (h : RwO W M rv rs) (ht : Turned F W W') (hr : ∀ k, F k → blkOf rv ≠ some k) (hu : ∀ k, F k → ∀ cur, ¬ Blk W k cur 5) : RwO W' M rv rs := by
  obtain ⟨cs, h1, h2, h3⟩ := h
  exact ⟨cs, Gs.turned h1 ht (fun k hk hF => hr k hF hk), RcO.turned ht hu h2, h3⟩
theorem RwO.below {W W' : World} {M : Nat} {rv : Value} {rs : List Rc} (h : RwO W M rv rs) (hb : Below W.heap.size W W') : RwO W' M rv rs := h.turned (Turned.of_below hb (fun _ => False)) (fun k hk => hk.elim) (fun k hk => hk.elim)
theorem RwO.rsIn {W : World} {M : Nat} {rv : Value} {rs : List Rc} (h : RwO W M rv rs) (hb : ∀ r ∈ rs, By8 r.bs) (hi : ∀ r ∈ rs, Ri r) : RsIn W rv rs := by
  obtain ⟨cs, h1, h2, _⟩ := h
  exact ⟨cs, Gs.rd h1, RcO.rcC hb h2, hi⟩
/-- The blocks, in their order. -/
def DcX (w : World) (T E LX NX O mb BB NB D : Nat) : Prop := T = w.heap.size ∧ E = T + 1 ∧ E < LX ∧ NX = LX + 1 ∧ NX < mb ∧ mb < O ∧ O < BB ∧ NB = BB + 1 ∧ NB < D
/-- What Decode's loop knows of the world. -/
structure DcI (w : World) (T E LX NX O mb BB NB D : Nat) (fr se mo : Int) (b : List Int) (bv : Value) (n0 : Nat) (lo : Loop) (rs : List Rc) (wh : Bool) (en nv at_ : Int) (ed : Bool) (W : World) : Prop where
  u : Below w.heap.size w W
  tb : Blk W T (lgc Lg.zero (.slice none 0 0)) 26
  er : Blk W E #[.int .i64 0] 30
  l : ∃ rv, Blk W LX (lgc ⟨fr, se, mo, rs, wh, en⟩ rv) 26 ∧ RwO W (D + 1) rv rs
  n : Blk W NX #[.int .i64 nv] 3
  o : Ord W O mb at_ ed
  bb : Blk W BB #[bv] 34
  nb : Blk W NB #[.int .i64 (n0 : Int)] 3
  bs : Bn w.heap.size W bv b
  lp : W.heap[D + 1]? = some (.loop lo)
  df : W.heap[D]? = some (.deferred (some []))
section
variable {w : World} {T E LX NX O mb BB NB D : Nat} {fr se mo : Int} {b : List Int} {bv : Value} {n0 : Nat} {lo : Loop} {rs : List Rc} {wh : Bool} {en nv at_ : Int} {ed : Bool} {W W' : World}
theorem DcI.turned {F : Nat → Prop} (h : DcI w T E LX NX O mb BB NB D fr se mo b bv n0 lo rs wh en nv at_ ed W) (hx : DcX w T E LX NX O mb BB NB D) (ht : Turned F W W') (hF : ∀ k, F k → D + 1 < k) (hr : ∀ k, F k → ∀ rv, Blk W LX (lgc ⟨fr, se, mo, rs, wh, en⟩ rv) 26 → blkOf rv ≠ some k) (hu : ∀ k, F k → ∀ cur, ¬ Blk W k cur 5) : DcI w T E LX NX O mb BB NB D fr se mo b bv n0 lo rs wh en nv at_ ed W' := by
  obtain ⟨x1, x2, x3, x4, x5, x6, x7, x8, x9⟩ := hx
  have nf : ∀ k, k ≤ D + 1 → ¬ F k := fun k hk hf => by have := hF k hf; omega
  obtain ⟨rv, l1, l2⟩ := h.l
  have hB : Below w.heap.size W W' := ht.below h.u.size (fun k hk => by have := hF k hk; omega)
  exact ⟨h.u.trans hB, h.tb.turned ht (nf _ (by omega)), h.er.turned ht (nf _ (by omega)), ⟨rv, l1.turned ht (nf _ (by omega)), l2.turned ht (fun k hk => hr k hk rv l1) hu⟩, h.n.turned ht (nf _ (by omega)), h.o.turned ht (nf _ (by omega)) (nf _ (by omega)), h.bb.turned ht (nf _ (by omega)), h.nb.turned ht (nf _ (by omega)), h.bs.keep hB, heap_turned h.lp ht (nf _ (by omega)), heap_turned h.df ht (nf _ (by omega))⟩
theorem DcI.below (h : DcI w T E LX NX O mb BB NB D fr se mo b bv n0 lo rs wh en nv at_ ed W) (hx : DcX w T E LX NX O mb BB NB D) (hb : Below W.heap.size W W') : DcI w T E LX NX O mb BB NB D fr se mo b bv n0 lo rs wh en nv at_ ed W' := h.turned hx (Turned.of_below hb (fun _ => False)) (fun k hk => hk.elim) (fun k hk => hk.elim) (fun k hk => hk.elim)
/-- A box of some type other than bytes' is turned, above. -/
theorem DcI.box (h : DcI w T E LX NX O mb BB NB D fr se mo b bv n0 lo rs wh en nv at_ ed W) (hx : DcX w T E LX NX O mb BB NB D) {X : Nat} {cs : Array Value} {ty : TypeId} (hX : Blk W X cs ty) (hD : D + 1 < X) (ht : Turned (fun k => k = X) W W') (hr : ty ≠ 42) (hu : ty ≠ 5) : DcI w T E LX NX O mb BB NB D fr se mo b bv n0 lo rs wh en nv at_ ed W' := by
  obtain ⟨rv, l1, cs', l2, _⟩ := h.l
  refine h.turned hx ht (fun k hk => by omega) (fun k hk rv' hb e => ?_) (fun k hk cur hc => ?_)
  · subst hk
    have e2 : rv' = rv := by
      have := hb.symm.trans l1
      simp [lgc] at this
      exact this
    subst e2
    obtain ⟨cur, hc⟩ := Gs.in_ l2 e
    have := hX.symm.trans hc
    simp at this
    exact hr this.2
  · subst hk
    have := hX.symm.trans hc
    simp at this
    exact hu this.2
/-- A new box is turned. -/
theorem DcI.fresh (h : DcI w T E LX NX O mb BB NB D fr se mo b bv n0 lo rs wh en nv at_ ed W) (hx : DcX w T E LX NX O mb BB NB D) {X : Nat} {cs : Array Value} {W1 : World} (hb : Below W.heap.size W W1) (hX : Blk W1 X cs 42) (hXs : W.heap.size ≤ X) (hn : ∀ rv, Blk W1 LX (lgc ⟨fr, se, mo, rs, wh, en⟩ rv) 26 → blkOf rv ≠ some X) (ht : Turned (fun k => k = X) W1 W') : DcI w T E LX NX O mb BB NB D fr se mo b bv n0 lo rs wh en nv at_ ed W' := by
  have hlt := (Array.getElem?_eq_some_iff.1 h.lp).1
  refine (h.below hx hb).turned hx ht (fun k hk => by omega) (fun k hk rv' hb e => ?_) (fun k hk cur hc => ?_)
  · subst hk; exact hn rv' hb e
  · subst hk
    have := hX.symm.trans hc
    simp at this
/-- The row's block is below. -/
theorem DcI.row (h : DcI w T E LX NX O mb BB NB D fr se mo b bv n0 lo rs wh en nv at_ ed W) {rv : Value} (hb : Blk W LX (lgc ⟨fr, se, mo, rs, wh, en⟩ rv) 26) : RwO W (D + 1) rv rs ∧ ∀ k, blkOf rv = some k → k < W.heap.size := by
  obtain ⟨rv', l1, l2⟩ := h.l
  have e2 : rv = rv' := by
    have := hb.symm.trans l1
    simp [lgc] at this
    exact this
  subst e2
  refine ⟨l2, fun k hk => ?_⟩
  obtain ⟨cs, g, _⟩ := l2
  exact Gs.lt g hk
theorem RcO.fixed {X M : Nat} (hX : X ≤ M) (ht : Turned (fun k => k = X) W W') : ∀ {l : List Rc} {cs : List Value}, RcO W M l cs → RcO W' M l cs
  | [], _, h => h
  | _ :: _, _, ⟨v, cs', e, ⟨h1, h3⟩, h2⟩ => ⟨v, cs', e, ⟨Gs.turned h1 ht (fun k hk hF => by have := h3 k hk; omega), h3⟩, RcO.fixed hX ht h2⟩
/-- A block at or below the loop's record is no row's and no bytes'. -/
theorem RwO.fixed {X M : Nat} (hX : X ≤ M) (ht : Turned (fun k => k = X) W W') {rv : Value} (hr : RwO W M rv rs) : RwO W' M rv rs := by
  obtain ⟨cs, h1, h2, h3⟩ := hr
  exact ⟨cs, Gs.turned h1 ht (fun k hk hF => by have := h3 k hk; omega), RcO.fixed hX ht h2, h3⟩
theorem DcI.setN (h : DcI w T E LX NX O mb BB NB D fr se mo b bv n0 lo rs wh en nv at_ ed W) (hx : DcX w T E LX NX O mb BB NB D) (ht : Turned (fun k => k = NX) W W') {nv' : Int} (hn : Blk W' NX #[.int .i64 nv'] 3) : DcI w T E LX NX O mb BB NB D fr se mo b bv n0 lo rs wh en nv' at_ ed W' := by
  obtain ⟨x1, x2, x3, x4, x5, x6, x7, x8, x9⟩ := hx
  obtain ⟨rv, l1, l2⟩ := h.l
  have hB : Below w.heap.size W W' := ht.below h.u.size (fun k hk => by omega)
  exact ⟨h.u.trans hB, h.tb.turned ht (by omega), h.er.turned ht (by omega), ⟨rv, l1.turned ht (by omega), l2.fixed (by omega) ht⟩, hn, h.o.turned ht (by omega) (by omega), h.bb.turned ht (by omega), h.nb.turned ht (by omega), h.bs.keep hB, heap_turned h.lp ht (by omega), heap_turned h.df ht (by omega)⟩
theorem DcI.setO (h : DcI w T E LX NX O mb BB NB D fr se mo b bv n0 lo rs wh en nv at_ ed W) (hx : DcX w T E LX NX O mb BB NB D) (ht : Turned (fun k => k = O) W W') {at' : Int} {ed' : Bool} (ho : Ord W' O mb at' ed') : DcI w T E LX NX O mb BB NB D fr se mo b bv n0 lo rs wh en nv at' ed' W' := by
  obtain ⟨x1, x2, x3, x4, x5, x6, x7, x8, x9⟩ := hx
  obtain ⟨rv, l1, l2⟩ := h.l
  have hB : Below w.heap.size W W' := ht.below h.u.size (fun k hk => by omega)
  exact ⟨h.u.trans hB, h.tb.turned ht (by omega), h.er.turned ht (by omega), ⟨rv, l1.turned ht (by omega), l2.fixed (by omega) ht⟩, h.n.turned ht (by omega), ho, h.bb.turned ht (by omega), h.nb.turned ht (by omega), h.bs.keep hB, heap_turned h.lp ht (by omega), heap_turned h.df ht (by omega)⟩
theorem DcI.setL (h : DcI w T E LX NX O mb BB NB D fr se mo b bv n0 lo rs wh en nv at_ ed W) (hx : DcX w T E LX NX O mb BB NB D) (ht : Turned (fun k => k = LX) W W') {wh' : Bool} {en' : Int} (hl : ∀ rv, Blk W LX (lgc ⟨fr, se, mo, rs, wh, en⟩ rv) 26 → Blk W' LX (lgc ⟨fr, se, mo, rs, wh', en'⟩ rv) 26) : DcI w T E LX NX O mb BB NB D fr se mo b bv n0 lo rs wh' en' nv at_ ed W' := by
  obtain ⟨x1, x2, x3, x4, x5, x6, x7, x8, x9⟩ := hx
  obtain ⟨rv, l1, l2⟩ := h.l
  have hB : Below w.heap.size W W' := ht.below h.u.size (fun k hk => by omega)
  exact ⟨h.u.trans hB, h.tb.turned ht (by omega), h.er.turned ht (by omega), ⟨rv, hl rv l1, l2.fixed (by omega) ht⟩, h.n.turned ht (by omega), h.o.turned ht (by omega) (by omega), h.bb.turned ht (by omega), h.nb.turned ht (by omega), h.bs.keep hB, heap_turned h.lp ht (by omega), heap_turned h.df ht (by omega)⟩
theorem DcI.setLp (h : DcI w T E LX NX O mb BB NB D fr se mo b bv n0 lo rs wh en nv at_ ed W) (hx : DcX w T E LX NX O mb BB NB D) (lo' : Loop) : DcI w T E LX NX O mb BB NB D fr se mo b bv n0 lo' rs wh en nv at_ ed (W.putObj (D + 1) (.loop lo')) := by
  obtain ⟨x1, x2, x3, x4, x5, x6, x7, x8, x9⟩ := hx
  have ht := turned_putObj W (D + 1) (.loop lo')
  obtain ⟨rv, l1, l2⟩ := h.l
  have hB : Below w.heap.size W (W.putObj (D + 1) (.loop lo')) := ht.below h.u.size (fun k hk => by omega)
  exact ⟨h.u.trans hB, h.tb.turned ht (by omega), h.er.turned ht (by omega), ⟨rv, l1.turned ht (by omega), l2.fixed (by omega) ht⟩, h.n.turned ht (by omega), h.o.turned ht (by omega) (by omega), h.bb.turned ht (by omega), h.nb.turned ht (by omega), h.bs.keep hB, World.putObj_heap_same (Array.getElem?_eq_some_iff.1 h.lp).1, heap_turned h.df ht (by omega)⟩
/-- A record is put behind. -/
theorem DcI.push (h : DcI w T E LX NX O mb BB NB D fr se mo b bv n0 lo rs wh en nv at_ ed W) (hx : DcX w T E LX NX O mb BB NB D) {rv v' xv : Value} {r : Rc} {cs : List Value} {W2 : World} (hl : Blk W LX (lgc ⟨fr, se, mo, rs, wh, en⟩ rv) 26) (hc : RcO W (D + 1) rs cs) (hg0 : Gs 42 4 W rv rs.length cs) (hxb : Og W xv r.bs) (hxk : ∀ k, blkOf xv = some k → D + 1 < k)
    (hg : Gs 42 4 W2 v' (rs.length + 1) (cs ++ rcl r xv)) (ht : Turned (fun k => blkOf rv = some k) W W2) (hn : ∀ k, blkOf v' = some k → blkOf rv = some k ∨ W.heap.size ≤ k) (ht2 : Turned (fun k => k = LX) W2 W') (hl2 : Blk W2 LX (lgc ⟨fr, se, mo, rs, wh, en⟩ rv) 26 → Blk W' LX (lgc ⟨fr, se, mo, rs ++ [r], wh, en⟩ v') 26) : DcI w T E LX NX O mb BB NB D fr se mo b bv n0 lo (rs ++ [r]) wh en nv at_ ed W' := by
  obtain ⟨hrw, hlt⟩ := h.row hl
  have hD := (Array.getElem?_eq_some_iff.1 h.lp).1
  obtain ⟨x1, x2, x3, x4, x5, x6, x7, x8, x9⟩ := hx
  have hk : ∀ k, blkOf rv = some k → D + 1 < k := by
    obtain ⟨_, _, _, h3⟩ := hrw
    exact h3
  have hT : Turned (fun k => blkOf rv = some k ∨ k = LX) W W' := (ht.mono (fun k hk => .inl hk)).trans ht2 (fun k hk => .inl (.inr hk))
  have hB : Below w.heap.size W W' := hT.below h.u.size (fun k hk' => by
    rcases hk' with e | e
    · have := hk k e; omega
    · omega)
  have nf : ∀ k, k ≤ D + 1 → k ≠ LX → ¬ (blkOf rv = some k ∨ k = LX) := fun k h1 h2 e => by
    rcases e with e | e
    · have := hk k e; omega
    · exact h2 e
  have hu : ∀ k, blkOf rv = some k → ∀ cur, ¬ Blk W k cur 5 := fun k e cur hc => by
    obtain ⟨cur', h'⟩ := Gs.in_ hg0 e
    have := hc.symm.trans h'
    simp at this
  have hv' : ∀ k, blkOf v' = some k → D + 1 < k := fun k e => by
    rcases hn k e with e | e
    · exact hk k e
    · omega
  have l2 : RwO W2 (D + 1) v' (rs ++ [r]) := by
    refine ⟨cs ++ rcl r xv, ?_, RcO.snoc (Og.turned hxb ht hu) hxk (RcO.turned ht hu hc), hv'⟩
    rw [List.length_append, List.length_singleton]
    exact hg
  exact ⟨h.u.trans hB, h.tb.turned hT (nf _ (by omega) (by omega)), h.er.turned hT (nf _ (by omega) (by omega)), ⟨v', hl2 (hl.turned ht (fun e => by have := hk _ e; omega)), l2.fixed (by omega) ht2⟩, h.n.turned hT (nf _ (by omega) (by omega)), h.o.turned hT (nf _ (by omega) (by omega)) (nf _ (by omega) (by omega)), h.bb.turned hT (nf _ (by omega) (by omega)), h.nb.turned hT (nf _ (by omega) (by omega)), h.bs.keep hB, heap_turned h.lp hT (nf _ (by omega) (by omega)), heap_turned h.df hT (nf _ (by omega) (by omega))⟩
end
theorem Tk.turned {N B L : Nat} {l : List Int} {F : Nat → Prop} {W W' : World} (h : Tk N W B L l) (hN : N ≤ W.heap.size) (ht : Turned F W W') (hB : ¬ F B) (hL : ¬ F L) (hF : ∀ k, F k → N ≤ k) : Tk N W' B L l := by
  obtain ⟨⟨v, h1, h2⟩, h3, h4⟩ := h
  exact ⟨⟨v, ⟨h1.b.turned ht hB, h1.l.turned ht hL⟩, h2.keep (ht.below hN hF)⟩, h3, h4⟩
/-- What Decode leaves. -/
def DecP (b : List Int) (w : World) (e : Ending) (w' : World) : Prop := Below w.heap.size w w' ∧ ∃ l n er rv, e = .returned (.tuple #[.agg (lgc l rv), .int .i64 n, .int .i64 er]) ∧ RsIn w' rv l.rs ∧ DcR b l n er
theorem zip2 (p q : Tmp) (T : Array Value) (u v : Value) : ((#[p, q] : Array Tmp).zip #[u, v]).foldl (fun tmps (t, a) => tmps.setIfInBounds t a) T = (T.setIfInBounds p u).setIfInBounds q v := by
  rw [← Array.foldl_toList, Array.toList_zip]; rfl
end Go.Proofs.Ytjffclcjijpmiaa.LG

/-
  Layer 16: records in the world; the document's record, head, Right: walks. Layer 16: records in the world. No walk. Layer 16: a log in the world; the document's Bound: walk.
-/
import Derived.Test.YtjffclcjijpmiaaG05
import Derived.Test.YtjffclcjijpmiaaG03
set_option linter.unusedVariables false
set_option linter.unusedSimpArgs false
namespace Go.Proofs.Ytjffclcjijpmiaa.LG
open Go.RowKit
set_option maxHeartbeats 4000000
set_option maxRecDepth 100000
set_option linter.unusedVariables false
set_option linter.unusedSimpArgs false

theorem u8s_one (l : List Int) : ∀ u ∈ u8s l, u.oneCell' = true := by
  intro u hu
  obtain ⟨x, _, rfl⟩ := List.mem_map.1 hu
  rfl
section
variable {w W W' : World} {v ov v' : Value} {out l : List Int}
theorem Og.src (h : Og W v l) : Src Try.prog 1 34 v l.length (u8s l) W := Gs.src Try.underlying34 h (u8s_one l)
theorem Bs.src (h : Bs w v l) : Src Try.prog 1 34 v l.length (u8s l) w := by
  obtain ⟨h0, ao, c, rfl, h2, h3, h4⟩ := h.1
  rcases Nat.eq_zero_or_pos l.length with e0 | e0
  · have : l = [] := List.eq_nil_of_length_eq_zero e0
    subst this
    cases ao with
    | none => exact Src.ofNil w Try.underlying34 c
    | some a => exact Src.ofSlice w Try.underlying34 a 0 c [] (by simp) (by intro j u hj; simp at hj) (by simp)
  · obtain ⟨g, o, rfl, hr⟩ := h4 e0
    exact Src.ofSlice w Try.underlying34 ⟨g, o, none⟩ l.length c (u8s l) h0 (fun j u hj => by rw [add_lit]; exact hr j u hj) (u8s_one l)
theorem NuI.after (h : NuI w ov out W) (hb : Below W.heap.size W W') : NuI w ov out W' := ⟨h.b.trans (hb.mono h.b.size), h.g.below hb, h.lo⟩
theorem NuI.more (h : NuI w ov out W) (hg : Gs 5 1 W' v' (out.length + l.length) (u8s out ++ u8s l)) (ht : Turned (fun k => blkOf ov = some k) W W') (hn : ∀ k, blkOf v' = some k → blkOf ov = some k ∨ W.heap.size ≤ k) : NuI w v' (out ++ l) W' := by
  have hz := h.b.size
  refine ⟨h.b.trans (ht.below hz (fun k e => h.lo k e)), ?_, fun k hk => ?_⟩
  · show Gs 5 1 W' v' (out ++ l).length (u8s (out ++ l))
    rw [List.length_append, u8s, List.map_append]; exact hg
  · rcases hn k hk with e | e
    · exact h.lo k e
    · omega
theorem NuI.lit (w : World) (x : Int) : NuI w (.slice (some ⟨w.heap.size, 0, none⟩) 1 1) [x] (w.alloc (.cells #[.int .u8 x] 5)) := by
  refine ⟨bel1 w _, ?_, fun k hk => by simp [blkOf] at hk; omega⟩
  exact Gs.lit (n := 1) (sz := 1) w 5 (cs := #[.int .u8 x]) rfl (by simp [maxLen])
theorem NuI.of (h : Og W' v l) (hb : Below W.heap.size W W') (hl : ∀ k, blkOf v = some k → W.heap.size ≤ k) (h0 : Below w.heap.size w W) : NuI w v l W' := ⟨h0.trans (hb.mono h0.size), h, fun k hk => by have := hl k hk; have := h0.size; omega⟩
end

/-! ### record -/
theorem record_any {w : World} {kind last at_ n : Int} {bv : Value} {bs : List Int} (hk : 0 ≤ kind ∧ kind < 256) (h0 : 0 ≤ last) (h1 : last ≤ at_) (h2 : at_ ≤ two62) (hn : 0 ≤ n ∧ n ≤ 65535) (hb : Bs w bv bs) (hl : bs.length ≤ 100000) :
    Calls Try.prog 38 #[.int .i64 kind, .int .i64 last, .int .i64 at_, .int .i64 n, bv] w fun e w' => ∃ v, e = .returned v ∧ Og w' v (rb ⟨at_, kind, n, bs⟩ last) ∧ Below w.heap.size w w' ∧ ∀ k, blkOf v = some k → w.heap.size ≤ k := by
  have h62 : two62 = 4611686018427387904 := rfl
  have N1 := Lib.hid (fun W => number_any (at_ - last).toNat (by omega) W)
  have e1 : (((at_ - last).toNat : Nat) : Int) = at_ - last := by omega
  rw [e1] at N1
  have N2 := Lib.hid (fun W => number_any n.toNat (by omega) W)
  have e2 : ((n.toNat : Nat) : Int) = n := by omega
  rw [e2] at N2
  have L1 := num_len 8 (n := (at_ - last).toNat) (by omega)
  have L2 := num_len 2 (n := n.toNat) (by omega)
  have HB := Lib.hid (fun W (h : Below w.heap.size w W) => (show Bs W bv bs from hb.below h))
  have HD : Hid (bd ⟨at_, kind, n, bs⟩ last = ([kind] ++ num (at_ - last).toNat ++ num n.toNat) ++ bs) := Lib.hid (by unfold bd; simp)
  have H0 := Lib.hid (NuI.lit w kind)
  obtain ⟨ao, ca, rfl, _, _⟩ := hb.shape
  generalize num (at_ - last).toNat = q1 at *
  generalize num n.toNat = q2 at *
  clear hb e1 e2
  go_enter Try.func38, Try.ntmps38
  go_wp2_with fail
  refine (N1.out _).mono ?_
  rintro e w2 ⟨v18, rfl, g18, b18, l18⟩
  have H2 := Lib.hid (H0.out.after b18)
  have S18 := Lib.hid (g18.src)
  clear g18 b18 l18 H0
  go_wp2_with (refine wp_append_g rfl _ _ rfl Try.underlying34 infoU8 rfl (by omega) (by omega) rfl rfl H2.out.g S18.out (by simp; omega) ?_)
  intro v19 w3 hg ht hn'
  have H3 := Lib.hid (H2.out.more hg ht hn')
  clear hg ht hn' H2 S18
  go_wp2_with fail
  refine (N2.out _).mono ?_
  rintro e w4 ⟨v22, rfl, g22, b22, l22⟩
  have H4 := Lib.hid (H3.out.after b22)
  have S22 := Lib.hid (g22.src)
  clear g22 b22 l22 H3
  go_wp2_with (refine wp_append_g rfl _ _ rfl Try.underlying34 infoU8 rfl (by omega) (by omega) rfl rfl H4.out.g S22.out (by simp; omega) ?_)
  intro v23 w5 hg ht hn'
  have H5 := Lib.hid (H4.out.more hg ht hn')
  have SB := Lib.hid ((HB.out _ H5.out.b).src)
  clear hg ht hn' H4 S22
  have L5 : ([kind] ++ q1 ++ q2).length ≤ 20 := by simp; omega
  generalize [kind] ++ q1 ++ q2 = o5 at *
  go_wp2_with (refine wp_append_g rfl _ _ rfl Try.underlying34 infoU8 rfl (by omega) (by omega) rfl rfl H5.out.g SB.out (by omega) ?_)
  intro v25 w6 hg ht hn'
  have H6 := Lib.hid (H5.out.more hg ht hn')
  clear hg ht hn' H5 SB
  rw [← HD.out] at H6
  have L6 : (bd ⟨at_, kind, n, bs⟩ last).length ≤ 200000 := by rw [HD.out]; simp; omega
  have N6 := Lib.hid (number_any (bd ⟨at_, kind, n, bs⟩ last).length (by omega) w6)
  have HR : Hid (rb ⟨at_, kind, n, bs⟩ last = num (bd ⟨at_, kind, n, bs⟩ last).length ++ bd ⟨at_, kind, n, bs⟩ last) := Lib.hid rfl
  generalize bd ⟨at_, kind, n, bs⟩ last = dd at *
  obtain ⟨o6, c6, e6, _⟩ := H6.out.g.shape
  subst e6
  have L7 := num_len 8 (n := dd.length) (by omega)
  go_wp2_with fail
  refine N6.out.mono ?_
  rintro e w7 ⟨v28, rfl, g28, b28, l28⟩
  have H7 := Lib.hid (NuI.of g28 b28 l28 H6.out.b)
  have S7 := Lib.hid ((H6.out.g.below b28).src)
  clear g28 b28 l28 H6 N6
  go_wp2_with (refine wp_append_g rfl _ _ rfl Try.underlying34 infoU8 rfl (by omega) (by omega) rfl rfl H7.out.g S7.out (by omega) ?_)
  intro v30 w8 hg ht hn'
  have H8 := Lib.hid (H7.out.more hg ht hn')
  clear hg ht hn' H7 S7
  go_wp2
  go_ret
  exact ⟨_, rfl, by rw [HR.out]; exact H8.out.g, H8.out.b, H8.out.lo⟩

/-! ### head -/
theorem headR_any (fr se mo : Int) (w : World) : Calls Try.prog 28 #[.agg #[.int .i64 fr, .int .i64 se], .int .i64 mo] w fun e w' => e = .returned (.bool (headOk fr se mo)) ∧ Below w.heap.size w w' := by
  have hb := Lib.hid (bel1 w (.cells #[.int .i64 fr, .int .i64 se] 23))
  have hw := Lib.hid (fun n a b W => within_any n a b W)
  have e : Hid (headOk fr se mo = (if (decide (1 ≤ fr ∧ fr ≤ 32) && decide (1 ≤ se ∧ se ≤ 32)) = true then decide (1 ≤ mo ∧ mo ≤ 65536) else false)) := Lib.hid (by
    unfold headOk; by_cases a : 1 ≤ fr ∧ fr ≤ 32 <;> by_cases b : 1 ≤ se ∧ se ≤ 32 <;> by_cases c : 1 ≤ mo ∧ mo ≤ 65536 <;> simp [a, b, c])
  cases h1 : decide (1 ≤ fr ∧ fr ≤ 32) with
  | false =>
    rw [h1] at e
    go_enter Try.func28, Try.ntmps28
    go_wp2_with fail
    refine (hw.out _ _ _ _).mono ?_
    rintro e' w2 ⟨rfl, rfl⟩
    rw [h1]
    go_wp2
    go_ret
    exact ⟨by rw [e.out]; rfl, hb.out⟩
  | true =>
    cases h2 : decide (1 ≤ se ∧ se ≤ 32) with
    | false =>
      rw [h1, h2] at e
      go_enter Try.func28, Try.ntmps28
      go_wp2_with fail
      refine (hw.out _ _ _ _).mono ?_
      rintro e' w2 ⟨rfl, rfl⟩
      rw [h1]
      go_wp2_with fail
      refine (hw.out _ _ _ _).mono ?_
      rintro e' w2 ⟨rfl, rfl⟩
      rw [h2]
      go_wp2
      go_ret
      exact ⟨by rw [e.out]; rfl, hb.out⟩
    | true =>
      rw [h1, h2] at e
      have e : Hid (headOk fr se mo = decide (1 ≤ mo ∧ mo ≤ 65536)) := Lib.hid (by rw [e.out]; rfl)
      generalize headOk fr se mo = hh at *
      go_enter Try.func28, Try.ntmps28
      go_wp2_with fail
      refine (hw.out _ _ _ _).mono ?_
      rintro e' w2 ⟨rfl, rfl⟩
      rw [h1]
      go_wp2_with fail
      refine (hw.out _ _ _ _).mono ?_
      rintro e' w2 ⟨rfl, rfl⟩
      rw [h2]
      go_wp2_with fail
      refine (hw.out _ _ _ _).mono ?_
      rintro e' w2 ⟨rfl, rfl⟩
      rw [← e.out]
      go_wp2
      go_ret
      exact ⟨rfl, hb.out⟩
end Go.Proofs.Ytjffclcjijpmiaa.LG
namespace Go.Proofs.Ytjffclcjijpmiaa.LG
open Go.RowKit
set_option linter.unusedVariables false

/-- A record's cells: bv: its bytes. -/
def rcl (r : Rc) (bv : Value) : List Value := [.int .i64 r.tm, .int .i64 r.kind, .int .i64 r.n, bv]
def Ri (r : Rc) : Prop := I64 r.tm ∧ I64 r.kind ∧ I64 r.n
/-- The cells of records. -/
def RcC (w : World) : List Rc → List Value → Prop
  | [], cs => cs = []
  | r :: t, cs => ∃ v cs', cs = rcl r v ++ cs' ∧ Bs w v r.bs ∧ RcC w t cs'
def RsIn (w : World) (v : Value) (l : List Rc) : Prop := ∃ cs, Rd 4 w v l.length cs ∧ RcC w l cs ∧ ∀ r ∈ l, Ri r
section
variable {w w' : World} {v : Value} {l : List Rc}
theorem RcC.below (hb : Below w.heap.size w w') : ∀ (l : List Rc) (cs : List Value), RcC w l cs → RcC w' l cs
  | [], _, h => h
  | _ :: r, _, ⟨v, cs', e, hp, hr⟩ => ⟨v, cs', e, hp.below hb, RcC.below hb r cs' hr⟩
theorem RcC.at_ : ∀ (l : List Rc) (cs : List Value) (k : Nat) (r : Rc), RcC w l cs → l[k]? = some r → ∃ v, (cs.drop (k * 4)).take 4 = rcl r v ∧ Bs w v r.bs
  | [], _, k, t, _, h => by simp at h
  | y :: r, _, 0, t, ⟨v, cs', e, hp, hr⟩, h => by
    simp at h; subst h
    exact ⟨v, by rw [e]; rfl, hp⟩
  | y :: r, _, k + 1, t, ⟨v, cs', e, hp, hr⟩, h => by
    rw [List.getElem?_cons_succ] at h
    obtain ⟨v', h1, h2⟩ := RcC.at_ r cs' k t hr h
    refine ⟨v', ?_, h2⟩
    rw [e, show (k + 1) * 4 = k * 4 + 4 by omega]
    exact h1
theorem RsIn.below (h : RsIn w v l) (hb : Below w.heap.size w w') : RsIn w' v l := by
  obtain ⟨cs, h1, h2, h3⟩ := h
  exact ⟨cs, h1.below hb, RcC.below hb _ _ h2, h3⟩
theorem RsIn.shape (h : RsIn w v l) : ∃ ao c, v = .slice ao l.length c ∧ l.length ≤ c ∧ l.length ≤ maxLen := by
  obtain ⟨cs, h1, _⟩ := h
  exact h1.shape
theorem RsIn.at_ (h : RsIn w v l) {k : Nat} (hk : k < l.length) : ∃ g o c r bv, v = .slice (some ⟨g, o, none⟩) l.length c ∧ l[k]? = some r ∧ Ri r ∧ Bs w bv r.bs ∧ w.rangeAt g (o + k * 4) (rcl r bv) := by
  obtain ⟨cs, h1, h2, h3⟩ := h
  obtain ⟨g, o, c, e, _, hr⟩ := h1.elem hk
  have ht : l[k]? = some l[k] := List.getElem?_eq_getElem hk
  obtain ⟨fv, h4, h5⟩ := RcC.at_ l cs k _ h2 ht
  rw [h4] at hr
  exact ⟨g, o, c, _, fv, e, ht, h3 _ (List.getElem_mem hk), h5, hr⟩
theorem rng4 {w : World} {g o : Nat} {a b c d : Value} (h : w.rangeAt g o [a, b, c, d]) : w.cell? ⟨g, o, none⟩ = some a ∧ w.cell? ⟨g, o + 1, none⟩ = some b ∧ w.cell? ⟨g, o + 2, none⟩ = some c ∧ w.cell? ⟨g, o + 3, none⟩ = some d := ⟨h 0 a rfl, h 1 b rfl, h 2 c rfl, h 3 d rfl⟩
end
end Go.Proofs.Ytjffclcjijpmiaa.LG
namespace Go.Proofs.Ytjffclcjijpmiaa.LG
open Go.RowKit
set_option maxHeartbeats 4000000
set_option maxRecDepth 100000
set_option linter.unusedVariables false
set_option linter.unusedSimpArgs false

/-- A log's cells: rv: its records. -/
def lgc (l : Lg) (rv : Value) : Array Value := #[.int .i64 l.fr, .int .i64 l.se, .int .i64 l.mo, rv, .bool l.wh, .int .i64 l.en]
structure LgIn (w : World) (rv : Value) (l : Lg) : Prop where
  r : RsIn w rv l.rs
  i : I64 l.fr ∧ I64 l.se ∧ I64 l.mo ∧ I64 l.en
theorem LgIn.below {w w' : World} {rv : Value} {l : Lg} (h : LgIn w rv l) (hb : Below w.heap.size w w') : LgIn w' rv l := ⟨h.r.below hb, h.i⟩
theorem RsIn.one {w : World} {v : Value} {l : List Rc} (h : RsIn w v l) : v.oneCell' = true := by
  obtain ⟨cs, h1, _⟩ := h
  exact h1.one
def bdN (l : List Rc) : Int := l.foldl (fun n r => n + 16 + (r.bs.length : Int)) 32
theorem bdN_succ {l : List Rc} {k : Nat} {r : Rc} (h : l[k]? = some r) : bdN (l.take (k + 1)) = bdN (l.take k) + 16 + (r.bs.length : Int) := by
  unfold bdN
  rw [List.take_add_one, h]
  simp [List.foldl_append]
theorem bdN_pos (l : List Rc) : 32 ≤ bdN l := by
  have : ∀ (l : List Rc) (a : Int), 32 ≤ a → 32 ≤ l.foldl (fun n r => n + 16 + (r.bs.length : Int)) a := by
    intro l
    induction l with
    | nil => intro a h; exact h
    | cons x r ih => intro a h; rw [List.foldl_cons]; exact ih _ (by omega)
  exact this l 32 (by omega)
theorem Bound_any {w : World} {l : Lg} {rv : Value} (h : LgIn w rv l) (hl : ∀ k, bdN (l.rs.take k) ≤ 4611686018427387904) : Calls Try.prog 19 #[.agg (lgc l rv)] w fun e w' => e = .returned (.int .i64 l.bound) ∧ Below w.heap.size w w' := by
  obtain ⟨fr, se, mo, rs, wh, en⟩ := l
  have HA := Lib.hid (fun W (hb : Below w.heap.size w W) => (show RsIn W rv rs from h.r.below hb))
  obtain ⟨ao, ca, rfl, _, hla⟩ := h.r.shape
  unfold maxLen at hla
  have HL := Lib.hid hl
  have hb1 := bel1 w (.cells #[.int .i64 fr, .int .i64 se, .int .i64 mo, .slice ao rs.length ca, .bool wh, .int .i64 en] 26)
  have c3 := (blk_new w #[.int .i64 fr, .int .i64 se, .int .i64 mo, .slice ao rs.length ca, .bool wh, .int .i64 en] 26).cell 3
  simp only [List.getElem?_toArray, List.getElem?_cons_zero, List.getElem?_cons_succ] at c3
  have HB := Lib.hid hb1
  have HC := Lib.hid c3
  have HR : Hid (Lg.bound ⟨fr, se, mo, rs, wh, en⟩ = bdN rs) := Lib.hid rfl
  simp only at hla
  clear h hl hb1 c3
  simp only [lgc]
  go_enter Try.func19, Try.ntmps19
  go_wp2
  generalize w.alloc (.cells #[.int .i64 fr, .int .i64 se, .int .i64 mo, .slice ao rs.length ca, .bool wh, .int .i64 en] 26) = W at HB HC ⊢
  have hC := HC.out
  go_loopw [3, 4] (fun nv iv wr => ∃ (k : Nat), k ≤ rs.length ∧ nv = .int .i64 (bdN (rs.take k)) ∧ iv = .int .i64 (k : Int) ∧ W = wr) (fun _ iv _ => rs.length + 1 - (intOf iv).toNat)
  case atStart => exact ⟨0, by omega, rfl, rfl, rfl⟩
  case round =>
    obtain ⟨k, hk, rfl, rfl, rfl⟩ := hrel
    by_cases hlt : k < rs.length
    · have hi : (k : Int) < (rs.length : Int) := by omega
      obtain ⟨g1, o1, c1, x, bv, e1, l1, hx, hxb, q⟩ := (HA.out _ HB.out).at_ hlt
      simp only [Value.slice.injEq] at e1
      obtain ⟨rfl, _, rfl⟩ := e1
      obtain ⟨q0, q1, q2, q3⟩ := rng4 q
      obtain ⟨bo, cb, rfl, _, hlb⟩ := hxb.shape
      unfold maxLen at hlb
      have hn := bdN_succ l1
      have b0 := bdN_pos (rs.take k)
      have b1 := HL.out (k + 1)
      have b2 : (0 : Int) ≤ (x.bs.length : Int) := by omega
      rw [hn] at b1
      clear l1 q hx
      try simp only at b1
      generalize bdN (rs.take k) = z at *
      go_wp2
      refine ⟨⟨k + 1, by omega, by rw [hn], by first | rfl | go_num, by first | rfl | trivial⟩, ?_⟩
      simp [intOf]; omega
    · obtain rfl : k = rs.length := by omega
      have hn : Hid (bdN (rs.take rs.length) = bdN rs) := Lib.hid (by rw [List.take_length])
      go_wp2
      go_ret
      exact ⟨by rw [HR.out, ← hn.out]; rfl, HB.out⟩
end Go.Proofs.Ytjffclcjijpmiaa.LG

/-
  Layer 9: the walk of NetCopies. Written by gen_laws6.py.
-/
import Derived.Test.YtepimbebodmajaaLaws5
import Derived.Test.YtepimbebodmajaaSame
namespace Go.Proofs.Ytepimbebodmajaa
open Go.RowKit
set_option maxHeartbeats 16000000
set_option linter.unusedVariables false
set_option linter.unusedSimpArgs false

theorem acts_lit (w : World) (s : Ac) (bv : Value) (h : NumsIn .u8 w bv s.b) (hf : s.Fit) : ActsIn (w.alloc (.cells #[.int .i64 s.k, bv] 36)) (.slice (some ⟨w.heap.size, 0, none⟩) 1 1) [s] := by
  have hb := blk_new w #[.int .i64 s.k, bv] 36
  refine .inr ⟨⟨w.heap.size, 0, none⟩, 1, rfl, Nat.le_refl _, by simp [maxLen], fun i t hi => ?_⟩
  have hi0 : i = 0 := by have := (List.getElem?_eq_some_iff.1 hi).1; simp at this; omega
  subst hi0
  simp at hi
  subst hi
  refine ⟨hf, bv, ?_, ?_, h.below ((Below.refl _ _).alloc (Nat.le_refl _) _)⟩
  · rw [add_lit, hb.cell]; rfl
  · rw [add_lit]; show World.cell? _ ⟨w.heap.size, 0 + 0 * 2 + 1, none⟩ = _; rw [hb.cell]; rfl
/-- Three nets: n, and two copies c and d of how it stood; the document's of how it stood. -/
structure Cy (w0 : World) (S Sc Sd B : Nat) (n n1 n2 : Nt) (F Fc Fd : Nat → Prop) (cv sv : Value) (cl sl : List Pk) (W : World) : Prop where
  an : At W S n1 F
  ac : At W Sc n Fc
  ad : At W Sd n2 Fd
  rv : RvIs W n cv sv cl sl
  box : Rf 28 3 W B (rcL n cv sv)
  sepn : ∀ k, F k → ¬ rvG cv sv cl sl k
  sepd : ∀ k, Fd k → ¬ rvG cv sv cl sl k
  nB : ¬ F B ∧ ¬ Fd B
  nc : ∀ k, F k → ¬ Fc k
  nd : ∀ k, F k → ¬ Fd k
  dc : ∀ k, Fd k → ¬ Fc k
  loF : ∀ k, F k → w0.heap.size + 1 ≤ k
  loD : ∀ k, Fd k → w0.heap.size + 1 ≤ k
  below : Below w0.heap.size w0 W
section
variable {w0 W W' : World} {S Sc Sd B : Nat} {n n1 n2 n1' : Nt} {F Fc Fd : Nat → Prop} {cv sv : Value} {cl sl : List Pk}
theorem Cy.after (h : Cy w0 S Sc Sd B n n1 n2 F Fc Fd cv sv cl sl W) (hb : Below W.heap.size W W') : Cy w0 S Sc Sd B n n1 n2 F Fc Fd cv sv cl sl W' :=
  ⟨h.an.below hb, h.ac.below hb, h.ad.below hb, h.rv.below hb, h.box.below hb, h.sepn, h.sepd, h.nB, h.nc, h.nd, h.dc, h.loF, h.loD, h.below.trans (hb.mono h.below.size)⟩
/-- A call by n and by the document's. -/
theorem Cy.actN {pv : Value} {c' : Array Value} (h : Cy w0 S Sc Sd B n n1 n2 F Fc Fd cv sv cl sl W) (hc : ActC W S n1' F (rvG cv sv cl sl) pv c' W') (hp : ∀ k, rdBlk pv = some k → k < w0.heap.size) :
    ∃ F' G1, Cy w0 S Sc Sd B n n1' n2 F' Fc Fd cv sv cl sl W' ∧ Rv W' n1' c' G1 ∧ ∀ k, G1 k → ¬ Fd k := by
  obtain ⟨F', G', hp'⟩ := hc
  have ht := hp'.t
  have hf := hp'.fF
  refine ⟨F', G', ⟨hp'.at_, h.ac.turned ht (fun k hk e => h.nc k e hk), h.ad.turned ht (fun k hk e => h.nd k e hk), h.rv.keep (fun k hk => ht.block k (h.rv.lt k hk) (fun e => h.sepn k e hk)), h.box.turned ht h.nB.1, fun k hk hG => ?_, h.sepd, ⟨fun hk => ?_, h.nB.2⟩, fun k hk hc => ?_, fun k hk hd => ?_, h.dc, fun k hk => ?_, h.loD, h.below.trans (ht.below h.below.size (fun k hk => by have := h.loF k hk; omega))⟩, hp'.rv, fun k hk hd => ?_⟩
  · rcases hf k hk with e | e
    · exact h.sepn k e hG
    · have := h.rv.lt k hG; omega
  · rcases hf _ hk with e | e
    · exact h.nB.1 e
    · have := h.box.lt; omega
  · rcases hf k hk with e | e
    · exact h.nc k e hc
    · have := h.ac.lt k hc; omega
  · rcases hf k hk with e | e
    · exact h.nd k e hd
    · have := h.ad.lt k hd; omega
  · rcases hf k hk with e | e
    · exact h.loF k e
    · have := h.below.size; have := h.ad.lt; have := h.an.lt _ h.an.mem; have := h.loF _ h.an.mem; omega
  · rcases hp'.gG k hk with e | e | e
    · exact h.sepd k hd e
    · have := hp k e; have := h.loD k hd; omega
    · have := h.ad.lt k hd; omega
/-- A call by d and by the document's: all that stands behind it. -/
theorem Cy.actD {pv : Value} {c' : Array Value} {n2' : Nt} (h : Cy w0 S Sc Sd B n n1 n2 F Fc Fd cv sv cl sl W) (hc : ActC W Sd n2' Fd (rvG cv sv cl sl) pv c' W') :
    ∃ Fd' G2, At W' S n1 F ∧ At W' Sc n Fc ∧ At W' Sd n2' Fd' ∧ RvIs W' n cv sv cl sl ∧ Rf 28 3 W' B (rcL n cv sv) ∧ Rv W' n2' c' G2 ∧ Below w0.heap.size w0 W' ∧ Turned Fd W W' := by
  obtain ⟨F', G', hp'⟩ := hc
  have ht := hp'.t
  exact ⟨F', G', h.an.turned ht (fun k hk e => h.nd k hk e), h.ac.turned ht (fun k hk e => h.dc k e hk), hp'.at_, h.rv.keep (fun k hk => ht.block k (h.rv.lt k hk) (fun e => h.sepd k e hk)), h.box.turned ht h.nB.2, hp'.rv, h.below.trans (ht.below h.below.size (fun k hk => by have := h.loD k hk; omega)), ht⟩
end
theorem Nt.same_self (n : Nt) : n.same n = true := by simp [Nt.same]
theorem Nt.same_symm (a b : Nt) : a.same b = b.same a := by
  unfold Nt.same
  simp only [eq_comm]
def Wb (W : World) (B : Nat) (n : Nt) (c : Array Value) : Prop := ∃ cv sv cl sl, c = rcL n cv sv ∧ Rf 28 3 W B c ∧ RvIs W n cv sv cl sl
/-- Behind all calls by the nets. -/
structure Cz (w0 : World) (S Sc Sd B B1 B2 : Nat) (n n1 n2 : Nt) (c0 c1 c2 : Array Value) (W : World) : Prop where
  an : ∃ F, At W S n1 F
  ac : ∃ F, At W Sc n F
  ad : ∃ F, At W Sd n2 F
  r0 : Wb W B n c0
  r1 : Wb W B1 n1 c1
  r2 : Wb W B2 n2 c2
  below : Below w0.heap.size w0 W
section
variable {w0 W W' : World} {S Sc Sd B B1 B2 : Nat} {n n1 n2 : Nt} {c0 c1 c2 : Array Value}
theorem Wb.below (h : Wb W B n c0) (hb : Below W.heap.size W W') : Wb W' B n c0 := by
  obtain ⟨cv, sv, cl, sl, e, h1, h2⟩ := h
  exact ⟨cv, sv, cl, sl, e, h1.below hb, h2.below hb⟩
theorem Wb.rf (h : Wb W B n c0) : Rf 28 3 W B c0 := by obtain ⟨cv, sv, cl, sl, e, h1, h2⟩ := h; exact h1
theorem Cz.after (h : Cz w0 S Sc Sd B B1 B2 n n1 n2 c0 c1 c2 W) (hb : Below W.heap.size W W') : Cz w0 S Sc Sd B B1 B2 n n1 n2 c0 c1 c2 W' := by
  obtain ⟨⟨F, h1⟩, ⟨Fc, h2⟩, ⟨Fd, h3⟩, h4, h5, h6, h7⟩ := h
  exact ⟨⟨F, h1.below hb⟩, ⟨Fc, h2.below hb⟩, ⟨Fd, h3.below hb⟩, h4.below hb, h5.below hb, h6.below hb, h7.trans (hb.mono h7.size)⟩
theorem Wb.is (h : Wb W B n c0) (ha : ∃ F, At W S n F) (hok : n.Ok) (hsz : n.sz ≤ 90000) : Calls Try.prog 14 #[.pointer (some ⟨S, 0, none⟩), .agg c0] W fun e w' => e = .returned (.bool true) ∧ Below W.heap.size W w' := by
  obtain ⟨cv, sv, cl, sl, rfl, h1, h2⟩ := h
  obtain ⟨F, ha⟩ := ha
  exact is_any ha h2 hok hsz
theorem Wb.same (h : Wb W B n c0) (k : Wb W B1 n1 c1) (oa : n.Ok) (ob : n1.Ok) (za : n.sz ≤ 90000) (zb : n1.sz ≤ 90000) : Calls Try.prog 24 #[.agg c0, .agg c1] W fun e w' => e = .returned (.bool (n.same n1)) ∧ Below W.heap.size W w' := by
  obtain ⟨cv, sv, cl, sl, rfl, h1, h2⟩ := h
  obtain ⟨cv', sv', cl', sl', rfl, k1, k2⟩ := k
  exact RSame_any h2 k2 oa ob za zb
theorem at_same (h : ∃ F, At W S n F) (k : ∃ F, At W Sc n1 F) : Calls Try.prog 20 #[.pointer (some ⟨S, 0, none⟩), .pointer (some ⟨Sc, 0, none⟩)] W fun e w' => e = .returned (.bool (n.same n1)) ∧ Below W.heap.size W w' := by
  obtain ⟨F, h⟩ := h
  obtain ⟨G, k⟩ := k
  exact Same_any h k
end
/-- Bytes of one's own, one of which is written (it may be another's). -/
theorem Qs.any_set {w : World} {v : Value} {xs : List Int} (h : Qs w v xs) (g o : Nat) {y : Int} (hy : 0 ≤ y ∧ y < 256) : ∃ ys, Qs (w.setCell ⟨g, o, none⟩ (.int .u8 y)) v ys := by
  by_cases hg : blkOf v = some g
  · obtain ⟨h0, h1, ao, c, rfl, h2, h3, h4⟩ := h
    have hc : 0 < c := by
      rcases Nat.eq_zero_or_pos c with e | e
      · subst e; cases ao <;> simp [blkOf] at hg
      · exact e
    obtain ⟨g', o', cur, rfl, e2, e3, e4⟩ := h4 hc
    obtain rfl : g' = g := by
      have : blkOf (.slice (some ⟨g', o', none⟩) xs.length c) = some g' := by simp [blkOf]; omega
      rw [this] at hg; simpa using hg
    have e5 : (cur.setIfInBounds o (.int .u8 y)).toList = cur.toList.set o (.int .u8 y) := by simp
    have e6 : ∀ i, bv (xs.set i y) = (bv xs).set i (.int .u8 y) := fun i => by simp [bv, List.map_set]
    by_cases ho : o < o'
    · refine ⟨xs, h0, h1, _, c, rfl, h2, h3, fun _ => ⟨g', o', _, rfl, e2.setCell o _, by simpa using e3, ?_⟩⟩
      rw [e5, List.drop_set, if_pos ho, e4]
    · refine ⟨xs.set (o - o') y, h0.set _ hy, by simp [bv], _, c, by simp, by simpa using h2, h3, fun _ => ⟨g', o', _, rfl, e2.setCell o _, by simpa using e3, ?_⟩⟩
      rw [e5, List.drop_set, if_neg ho, List.take_set, e6, List.length_set, e4]
  · exact ⟨xs, h.keep fun k hk => Below.heap_setCell _ _ _ _ (fun e => hg (by rw [hk, e]))⟩
/-- A slice of one's own slices of bytes, all above L. -/
structure Lz (L : Nat) (W0 : World) (v : Value) (m : Nat) (us : List Value) (W : World) : Prop where
  g : Gs 32 1 W v m us
  lo : ∀ k, blkOf v = some k → L ≤ k
  el : ∀ u ∈ us, ∃ ys, Qs W u ys
  le : ∀ u ∈ us, ∀ k, blkOf u = some k → L ≤ k
  below : Below L W0 W
theorem Lz.set {L : Nat} {W0 W : World} {v : Value} {m : Nat} {us : List Value} (h : Lz L W0 v m us W) {u : Value} (hu : u ∈ us) {g : Nat} (hg : blkOf u = some g) (o : Nat) {y : Int} (hy : 0 ≤ y ∧ y < 256) : Lz L W0 v m us (W.setCell ⟨g, o, none⟩ (.int .u8 y)) := by
  obtain ⟨ys, hq⟩ := h.el u hu
  obtain ⟨cur, hb⟩ := hq.2.in_ hg
  refine ⟨h.g.keep fun k hk => Below.heap_setCell _ _ _ _ (h.g.ne hb (by decide) hk), h.lo, fun u' hu' => ?_, h.le, h.below.setCell (p := ⟨g, o, none⟩) (h.le u hu g hg) _⟩
  obtain ⟨zs, hz⟩ := h.el u' hu'
  exact hz.any_set g o hy
theorem Lz.drew {L : Nat} {W0 W : World} {v : Value} {m : Nat} {us : List Value} (h : Lz L W0 v m us W) : Lz L W0 v m us W.drew :=
  ⟨h.g.keep fun _ _ => rfl, h.lo, fun u hu => by obtain ⟨ys, hq⟩ := h.el u hu; exact ⟨ys, hq.keep fun _ _ => rfl⟩, h.le, h.below.drew⟩
/-- The start: two lists joined. -/
theorem Lz.join {L : Nat} {W0 W1 W2 W3 W4 : World} {v1 v2 v3 : Value} {x1 x2 : List (List Int)} {b1 b2 : List Pk} (h0 : Below L W0 W1) (hL : L ≤ W1.heap.size) (m1 : Ml W1 v1 x1 b1 W2) (m2 : Ml W2 v2 x2 b2 W3) (hg : Gs 32 1 W4 v3 (b1.length + b2.length) (b1.map Pk.v ++ b2.map Pk.v))
    (ht : Turned (fun k => blkOf v1 = some k) W3 W4) (hn : ∀ k, blkOf v3 = some k → blkOf v1 = some k ∨ W3.heap.size ≤ k) : Lz L W0 v3 (b1.length + b2.length) (b1.map Pk.v ++ b2.map Pk.v) W4 := by
  have z1 := m1.below.size
  have z2 := m2.below.size
  have l1 := m1.ls.below m2.below
  refine ⟨hg, fun k hk => ?_, fun u hu => ?_, fun u hu k hk => ?_, ?_⟩
  · rcases hn k hk with e | e
    · have := m1.lo k (.inl e); omega
    · omega
  · have key : ∀ (p : Pk), Qs W3 p.v p.x → ∃ ys, Qs W4 p.v ys := fun p hq => ⟨p.x, hq.turned ht (fun k hk e => by
      obtain ⟨cur, hb⟩ := l1.g.in_ e
      exact hq.2.ne hb (by decide) hk rfl)⟩
    rcases List.mem_append.1 hu with hu | hu
    · obtain ⟨p, hp, rfl⟩ := List.mem_map.1 hu
      exact key p (l1.q p hp)
    · obtain ⟨p, hp, rfl⟩ := List.mem_map.1 hu
      exact key p (m2.ls.q p hp)
  · rcases List.mem_append.1 hu with hu | hu
    · obtain ⟨p, hp, rfl⟩ := List.mem_map.1 hu
      have := m1.lo k (.inr ⟨p, hp, hk⟩); omega
    · obtain ⟨p, hp, rfl⟩ := List.mem_map.1 hu
      have := m2.lo k (.inr ⟨p, hp, hk⟩); omega
  · have hb3 := (h0.trans (m1.below.mono hL)).trans (m2.below.mono (by omega))
    exact hb3.trans (ht.below (by omega) (fun k hk => by have := m1.lo k (.inl hk); omega))
/-- Behind the writes to one's own bytes. -/
structure Pw (L : Nat) (W0 : World) (v : Value) (m : Nat) (W : World) : Prop where
  q : ∃ xs, xs.length = m ∧ Qs W v xs
  lo : ∀ k, blkOf v = some k → L ≤ k
  below : Below L W0 W
theorem o_load_u8 {d : Option Tmp} {op : Oper} {a : Act} {w : World} {K : Act → World → Prop} {Q : Exit → Act → World → Prop} {x : Operand} {p : Addr} {v : Int} (hd : op.dst = d) (hc : w.cell? p = some (.int .u8 v)) (ho : op.op = .load 5 x) (hx : a.eval x = .pointer (some p))
    (h : K (a.put d (.int .u8 v)) w) : op.wp Try.prog a w K Q := by
  subst hd
  unfold Oper.wp execOp
  simp only [ho, hx]
  go_simp
  exact h
theorem o_store_u8 {d : Option Tmp} {op : Oper} {a : Act} {w : World} {K : Act → World → Prop} {Q : Exit → Act → World → Prop} {x y : Operand} {p : Addr} {u : Value} {v : Int} (hd : op.dst = d) (hc : w.cell? p = some u) (hf : w.frozen? p = false) (ho : op.op = .store 5 x y) (hx : a.eval x = .pointer (some p)) (hy : a.eval y = .int .u8 v)
    (h : K (a.put d undef) (w.setCell p (.int .u8 v))) : op.wp Try.prog a w K Q := by
  subst hd
  unfold Oper.wp execOp
  simp only [ho, hx, hy]
  go_simp
  exact h

set_option maxRecDepth 100000 in
theorem NetCopies_in (v : Value) (xs : List Ac) (s : Ac) (bv : Value) (w : World) (h : ActsIn w v xs) (hnb : NumsIn .u8 w bv s.b) (hfit : s.Fit) : Calls Try.prog 6 #[v, .agg #[.int .i64 s.k, bv]] w fun e w' => e = .returned (.bool true) ∧ Below w.heap.size w w' := by
  have hba : Below w.heap.size w (w.alloc (.cells #[.int .i64 s.k, bv] 36)) := (Below.refl _ _).alloc (Nat.le_refl _) _
  have hx1 : Ok1 2 #[.int .i64 s.k, bv] := ⟨rfl, by simp [hnb.one]; rfl⟩
  have HX0 := Lib.hid (hx1.new 36 w)
  have HI0 := Lib.hid (h.below hba)
  have HNB0 := Lib.hid (hnb.below hba)
  have HBl0 := Lib.hid hba
  have HF1 := Lib.hid (few_any HI0.out)
  have HF2 := Lib.hid (few_any (acts_lit _ s bv HNB0.out hfit))
  have hzw : (w.alloc (.cells #[.int .i64 s.k, bv] 36)).heap.size = w.heap.size + 1 := by simp
  have HZ0 := Lib.hid hzw
  have HBlt := Lib.hid (show ∀ k, rdBlk bv = some k → k < w.heap.size from fun k hk => hnb.lt hk)
  obtain ⟨o, cc, rfl, hc, hm, -⟩ := h.form
  obtain ⟨ob, cb, rfl, -, -, -⟩ := hnb.form
  have HFit := Lib.hid hfit.bl
  unfold maxLen at hm
  clear h hnb hfit hba hx1 hzw
  go_enter Try.func6, Try.ntmps6
  simp only [List.append]
  go_wp2_with fail
  generalize w.alloc (.cells #[.int .i64 s.k, .slice ob s.b.length cb] 36) = w1 at *
  refine HF1.out.mono ?_
  rintro e w2 ⟨q, rfl, rfl, hq⟩
  cases q with
  | false =>
    clear hq
    go_wp2_with (go_at_call 10; refine (works_any _).mono ?_; rintro e w' ⟨rfl, hb⟩)
    have H9 := HBl0.out.trans (hb.mono HBl0.out.size)
    go_ret; exact ⟨rfl, H9⟩
  | true =>
    have HC := Lib.hid (hq rfl)
    clear hq
    go_wp2_with ((with_reducible apply wp_load_Rg); (kernel_rfl); (exact rowA); (exact HX0.out); (rfl))
    refine HF2.out.mono ?_
    rintro e w2 ⟨q, rfl, rfl, hq⟩
    clear hq HF1 HF2
    have hba : Below w1.heap.size w1 (w1.alloc (.cells #[.int .i64 s.k, .slice ob s.b.length cb] 36)) := (Below.refl _ _).alloc (Nat.le_refl _) _
    have HX2 := Lib.hid (HX0.out.below hba)
    have HI2 := Lib.hid (HI0.out.below hba)
    have HNB2 := Lib.hid (HNB0.out.below hba)
    have HBl2 := Lib.hid (HBl0.out.trans (hba.mono HBl0.out.size))
    have hz2 : w1.heap.size ≤ (w1.alloc (.cells #[.int .i64 s.k, .slice ob s.b.length cb] 36)).heap.size := hba.size
    have HZ2 := Lib.hid hz2
    clear hba HX0 HI0 HNB0 HBl0 hz2
    generalize w1.alloc (.cells #[.int .i64 s.k, .slice ob s.b.length cb] 36) = w2 at *
    cases q with
    | false =>
      go_wp2_with (go_at_call 10; refine (works_any _).mono ?_; rintro e w' ⟨rfl, hb⟩)
      have H9 := HBl2.out.trans (hb.mono HBl2.out.size)
      go_ret; exact ⟨rfl, H9⟩
    | true =>
      go_wp2_with fail
      refine (played_any HI2.out HC.out).mono ?_
      rintro e w3 ⟨c, rfl, cv, sv, cl, sl, F, rfl, hP⟩
      have HOK := Lib.hid (plN_ok xs)
      have HSZ : Hid ((plN xs).sz ≤ 400) := by have := plN_sz xs; have := cost_len xs; have := HC.out; show _ ≤ _; omega
      have HRN := Lib.hid (show zR.size = 3 ∧ Ok1 3 (rcL (plN xs) cv sv) from ⟨rfl, hP.r.ok _⟩)
      have hbn : Below w3.heap.size w3 (w3.alloc (.cells (rcL (plN xs) cv sv) 28)) := (Below.refl _ _).alloc (Nat.le_refl _) _
      have HBx := Lib.hid (Ok1.new (show Ok1 3 (rcL (plN xs) cv sv) from hP.r.ok _) 28 w3)
      have HP := Lib.hid hP
      have hlt3 : ∀ k, F k → k < w3.heap.size := hP.at_.lt
      have hlg3 : ∀ k, rvG cv sv cl sl k → k < w3.heap.size := hP.r.lt
      have HLt := Lib.hid hlt3
      have HLg := Lib.hid hlg3
      have HAt := Lib.hid (hP.at_.below hbn)
      have HRv := Lib.hid (hP.r.below hbn)
      have HBl4 := Lib.hid ((HBl2.out.trans (hP.below.mono HBl2.out.size)).trans (hbn.mono (by have := HBl2.out.size; have := hP.below.size; omega)))
      have HX4 := Lib.hid ((HX2.out.below hP.below).below hbn)
      have HNB4 := Lib.hid ((HNB2.out.below hP.below).below hbn)
      have hz4 : (w3.alloc (.cells (rcL (plN xs) cv sv) 28)).heap.size = w3.heap.size + 1 := by simp
      have HZ4 := Lib.hid hz4
      have HZ3 := Lib.hid hP.below.size
      have HSp := Lib.hid hP.sep
      have HLo := Lib.hid hP.loF
      clear hP hbn hlt3 hlg3 hz4 HI2 HP HX2 HNB2
      generalize plN xs = n at *
      go_wp2_with ((with_reducible apply wp_store_Rn _ rowR); (exact HRN.out); (rfl); (rfl))
      generalize w3.alloc (.cells (rcL n cv sv) 28) = w4 at *
      refine (Copy_any HAt.out HOK.out (by have := HSZ.out; omega)).mono ?_
      rintro e w5 ⟨Sc, Fc, rfl, hc5, hfc, hb5⟩
      have HAt5 := Lib.hid (HAt.out.below hb5)
      have HC5 := Lib.hid hc5
      have HFc := Lib.hid hfc
      have HB5 := Lib.hid hb5
      clear hc5 hfc hb5
      go_wp2_with fail
      refine (Copy_any HAt5.out HOK.out (by have := HSZ.out; omega)).mono ?_
      rintro e w6 ⟨Sd, Fd, rfl, hd6, hfd, hb6⟩
      have z1 := HZ0.out
      have z2 := HZ2.out
      have z3 := HZ3.out
      have z4 := HZ4.out
      have z5 := HB5.out.size
      have z6 := hb6.size
      have HY := Lib.hid (show Cy w (w2.heap.size + 1) Sc Sd w3.heap.size n n n F Fc Fd cv sv cl sl w6 from
        ⟨HAt5.out.below hb6, HC5.out.below hb6, hd6, (HRv.out.below HB5.out).below hb6, (HBx.out.below HB5.out).below hb6, HSp.out,
          fun k hk hG => by have := hfd k hk; have := HLg.out k hG; omega,
          ⟨fun hk => by have := HLt.out _ hk; omega, fun hk => by have := hfd _ hk; omega⟩,
          fun k hk hc => by have := HLt.out k hk; have := HFc.out k hc; omega,
          fun k hk hd => by have := HLt.out k hk; have := hfd k hd; omega,
          fun k hk hc => by have := hfd k hk; have := HC5.out.lt k hc; omega,
          fun k hk => by have := HLo.out k hk; omega,
          fun k hk => by have := hfd k hk; omega,
          (HBl4.out.trans (HB5.out.mono (by omega))).trans (hb6.mono (by omega))⟩)
      have HX6 := Lib.hid ((HX4.out.below HB5.out).below hb6)
      have HNB6 := Lib.hid ((HNB4.out.below HB5.out).below hb6)
      clear hd6 hfd hb6 z1 z2 z3 z4 z5 z6 HAt5 HC5 HFc HB5 HX4 HNB4 HAt HRv HBl4 HZ4 HZ3 HSp HLo HLt HLg HZ0 HZ2 HBl2 HBx HRN
      go_wp2_with fail
      refine (at_same ⟨_, HY.out.an⟩ ⟨_, HY.out.ac⟩).mono ?_
      rintro e w7 ⟨rfl, hb7⟩
      rw [Nt.same_self]
      have HY7 := Lib.hid (HY.out.after hb7)
      have HX7 := Lib.hid (HX6.out.below hb7)
      have HNB7 := Lib.hid (HNB6.out.below hb7)
      clear hb7 HY HX6 HNB6
      generalize w2.heap.size + 1 = S at *
      generalize w3.heap.size = B at *
      go_wp2_with (first | ((with_reducible apply wp_load_R rowR); (exact HY7.out.box); (rfl)) | ((with_reducible apply wp_load_R rowA); (exact HX7.out); (rfl)))
      refine (act_any ⟨HY7.out.an, HY7.out.rv, HY7.out.sepn, HOK.out, by have := HSZ.out; omega⟩ s _ HNB7.out HFit.out (fun k hk hF => by have := HBlt.out k hk; have := HY7.out.loF k hF; omega)).mono ?_
      rintro e w8 ⟨c1, rfl, hact⟩
      obtain ⟨F', G1, hy8, hrv1, hg1⟩ := HY7.out.actN hact HBlt.out
      have hk1 : Ok1 3 c1 := by obtain ⟨_, _, _, _, rfl, _, hr⟩ := hrv1; exact hr.ok _
      have HRN1 := Lib.hid (show zR.size = 3 ∧ Ok1 3 c1 from ⟨rfl, hk1⟩)
      have HK1 := Lib.hid hk1
      have HV1 := Lib.hid hrv1
      have HG1 := Lib.hid hg1
      have hbn : Below w8.heap.size w8 (w8.alloc (.cells c1 28)) := (Below.refl _ _).alloc (Nat.le_refl _) _
      have HY9 := Lib.hid (hy8.after hbn)
      have HLd := Lib.hid hy8.ad.lt
      have HBn1 := Lib.hid hbn
      have hcs := conv_lit (w8.alloc (.cells c1 28))
      simp only [World.size_alloc] at hcs
      clear hact hy8 hrv1 hg1 hk1 hbn HY7 HX7 HNB7
      go_wp2_with (first | ((with_reducible apply wp_store_Rn _ rowR); (exact HRN1.out); (rfl); (rfl)) | ((with_reducible apply wp_load_R rowR); (exact HY9.out.box); (rfl)))
      have hbl9 : Below (w8.alloc (.cells c1 28)).heap.size (w8.alloc (.cells c1 28)) ((w8.alloc (.cells c1 28)).alloc (.cells #[.int .u8 122] 5 (1, 2))) := (Below.refl _ _).alloc (Nat.le_refl _) _
      have HY10 := Lib.hid (HY9.out.after hbl9)
      have HL3 := Lib.hid (nums_lit (w8.alloc (.cells c1 28)) (1, 2) (xs := [122]) (by intro x hx; simp at hx; omega) (by simp [maxLen]))
      have HBx1 := Lib.hid (((HK1.out.new 28 w8)).below hbl9)
      have HBn2 := Lib.hid (HBn1.out.trans (hbl9.mono HBn1.out.size))
      rw [World.size_alloc] at HL3
      clear hbl9 hcs
      refine (act_any ⟨HY10.out.ad, HY10.out.rv, HY10.out.sepd, HOK.out, by have := HSZ.out; omega⟩ ⟨0, [122]⟩ _ HL3.out (by simp) (fun k hk hF => by simp [rdBlk] at hk; have := HLd.out k hF; omega)).mono ?_
      rintro e w10 ⟨c2, rfl, hact⟩
      obtain ⟨Fd', G2, a1, a2, a3, a4, a5, a6, a7, ht⟩ := HY10.out.actD hact
      have hk2 : Ok1 3 c2 := by obtain ⟨_, _, _, _, rfl, _, hr⟩ := a6; exact hr.ok _
      have hbn : Below w10.heap.size w10 (w10.alloc (.cells c2 28)) := (Below.refl _ _).alloc (Nat.le_refl _) _
      have hw1 : Wb w10 w8.heap.size (n.act s) c1 := by
        have hx := HBx1.out.turned ht (fun hF => by have := HLd.out _ hF; omega)
        obtain ⟨cv1, sv1, cl1, sl1, rfl, rfl, hr⟩ := HV1.out
        have hr2 := hr.below HBn2.out
        exact ⟨cv1, sv1, cl1, sl1, rfl, hx, hr2.keep (fun k hk => ht.block k (hr2.lt k hk) (fun e => HG1.out k hk e))⟩
      have HCz := Lib.hid (show Cz w S Sc Sd B w8.heap.size w10.heap.size n (n.act s) (n.act ⟨0, [122]⟩) (rcL n cv sv) c1 c2 (w10.alloc (.cells c2 28)) from
        ⟨⟨_, a1.below hbn⟩, ⟨_, a2.below hbn⟩, ⟨_, a3.below hbn⟩, ⟨cv, sv, cl, sl, rfl, a5.below hbn, a4.below hbn⟩, hw1.below hbn, by
          have hb2 := hk2.new 28 w10
          obtain ⟨cv1, sv1, cl1, sl1, rfl, rfl, hr⟩ := a6
          exact ⟨cv1, sv1, cl1, sl1, rfl, hb2, hr.below hbn⟩, a7.trans (hbn.mono a7.size)⟩)
      have HRN2 := Lib.hid (show zR.size = 3 ∧ Ok1 3 c2 from ⟨rfl, hk2⟩)
      have HOK1 := Lib.hid (HOK.out.act s)
      have HOK2 := Lib.hid (HOK.out.act ⟨0, [122]⟩)
      have HSZ1 : Hid ((n.act s).sz ≤ 401) := by have := n.sz_act s; have := HSZ.out; show _ ≤ _; omega
      have HSZ2 : Hid ((n.act ⟨0, [122]⟩).sz ≤ 401) := by have := n.sz_act ⟨0, [122]⟩; have := HSZ.out; show _ ≤ _; omega
      clear hact a1 a2 a3 a4 a5 a6 a7 ht hk2 hbn hw1 HY10 HY9 HL3 HBx1 HBn2 HBn1 HLd HV1 HG1 HK1 HRN1
      go_wp2_with ((with_reducible apply wp_store_Rn _ rowR); (exact HRN2.out); (rfl); (rfl))
      generalize rcL n cv sv = c0 at *
      generalize w10.alloc (.cells c2 28) = W0 at *
      generalize w10.heap.size = B2 at *
      generalize w8.heap.size = B1 at *
      generalize n.act s = n1 at *
      generalize n.act ⟨0, [122]⟩ = n2 at *
      obtain ⟨Fz, hcz⟩ := HCz.out.ac
      refine (Next_any hcz HOK.out).mono ?_
      rintro e w11 ⟨vp, rfl, hcl⟩
      obtain ⟨ap, cp, rfl, -, hpl⟩ := hcl.q.shape
      have HP0 : Hid (Pw W0.heap.size W0 (.slice ap n.nextB.length cp) n.nextB.length w11) := ⟨⟨_, rfl, hcl.q⟩, hcl.lo, hcl.below⟩
      unfold maxLen at hpl
      clear hcz hcl HRN2
      go_wp2
      go_loopw [17] (fun q wr => ∃ k : Nat, k ≤ n.nextB.length ∧ q = .int .i64 (k : Int) ∧ Hid (Pw W0.heap.size W0 (.slice ap n.nextB.length cp) n.nextB.length wr)) (fun q _ => n.nextB.length + 1 - (intOf q).toNat)
      case atStart => exact ⟨0, by omega, rfl, HP0.out⟩
      case round =>
        obtain ⟨k, hk, rfl, HPs⟩ := hrel
        clear HP0
        by_cases hlt : k < n.nextB.length
        · obtain ⟨⟨ys, hxl, hq⟩, hlo, hbw⟩ := HPs.out
          obtain ⟨g, o, c, e, hbk, r1, f1, hpoke⟩ := hq.poke (k := k) (by omega)
          rw [hxl] at e
          simp at e
          obtain ⟨rfl, rfl⟩ := e
          have hi : (k : Int) < (n.nextB.length : Int) := by omega
          generalize at0 ys k = x at r1
          obtain ⟨y, hy, hy0, hy1⟩ := wrap_u8 (x + 1)
          have HP1 : Hid (Pw W0.heap.size W0 (.slice (some ⟨g, o, none⟩) n.nextB.length cp) n.nextB.length (wr.setCell ⟨g, o + k, none⟩ (.int .u8 y))) := ⟨⟨_, by simpa using hxl, hpoke y ⟨hy0, hy1⟩⟩, hlo, hbw.setCell (p := ⟨g, o + k, none⟩) (hlo g hbk) _⟩
          clear hq hbw hpoke hbk hxl HPs
          go_wp2
          go_roundw
          case rel => exact ⟨k + 1, by omega, by go_num, HP1.out⟩
          case measure => simp [intOf]; omega
        · obtain rfl : k = n.nextB.length := by omega
          have hb15 := HPs.out.below
          have HC15 := Lib.hid (HCz.out.after hb15)
          obtain ⟨Fz, hcz⟩ := HC15.out.ac
          go_wp2_with fail
          refine (Queue_any hcz HOK.out).mono ?_
          rintro e w12 ⟨v1, b1, rfl, hm1⟩
          have hcz2 := hcz.below hm1.below
          obtain ⟨av1, cv1, e1, -, -⟩ := hm1.ls.g.shape
          subst e1
          have HM1 := Lib.hid hm1
          have HB15 := Lib.hid hb15
          have HAt := Lib.hid hcz2
          clear hm1 hcz hcz2 hb15 HPs HC15
          go_wp2_with fail
          refine (Sent_any HAt.out HOK.out (by have := HSZ.out; omega)).mono ?_
          rintro e w13 ⟨v2, b2, rfl, hm2⟩
          obtain ⟨av2, cv2, e2, -, -⟩ := hm2.ls.g.shape
          subst e2
          have HM2 := Lib.hid hm2
          have HG1 := Lib.hid (HM1.out.ls.below hm2.below).g
          have HSr := Lib.hid (hm2.ls.g.src Try.underlying26 hm2.ls.ones)
          have hl1 : b1.length ≤ 256 := by have h1 := congrArg List.length HM1.out.xs; have := HOK.out.wt; simp at h1; omega
          have hl2 : b2.length ≤ 400 := by have h1 := congrArg List.length HM2.out.xs; have := HSZ.out; unfold Nt.sz at this; simp at h1; omega
          clear hm2 HAt
          go_wp2_with (at_builtin; refine wp_append_g rfl _ _ rfl Try.underlying26 infoBs rfl (by omega) (by omega) rfl rfl HG1.out HSr.out (by omega) ?_)
          intro v3 w14 hg3 ht3 hn3
          obtain ⟨a3, c3, e3, -, -⟩ := hg3.shape
          subst e3
          have HL0 := Lib.hid (Lz.join HB15.out HB15.out.size HM1.out HM2.out hg3 ht3 hn3)
          have hm3 : b1.length + b2.length ≤ 700 := by omega
          generalize b1.map Pk.v ++ b2.map Pk.v = us at *
          generalize b1.length + b2.length = m at *
          clear hg3 ht3 hn3 HG1 HSr HM1 HM2 HB15 hl1 hl2
          go_wp2
          go_loopw [19] (fun q wr => ∃ i : Nat, i ≤ m ∧ q = .int .i64 (i : Int) ∧ Hid (Lz W0.heap.size W0 (.slice a3 m c3) m us wr)) (fun q _ => m + 1 - (intOf q).toNat)
          case atStart => exact ⟨0, by omega, rfl, HL0.out⟩
          case round =>
            obtain ⟨i, hi, rfl, HLi⟩ := hrel
            clear HL0
            by_cases hil : i < m
            · have hin : (i : Int) < (m : Int) := by omega
              obtain ⟨u, hu⟩ : ∃ u, us[i]? = some u := ⟨_, List.getElem?_eq_getElem (by have := HLi.out.g.len; omega)⟩
              have hmu : u ∈ us := List.mem_of_getElem? hu
              obtain ⟨g, o, c', e, -, -⟩ := HLi.out.g.cell hu
              simp at e
              obtain ⟨rfl, rfl⟩ := e
              obtain ⟨ys, hq⟩ := HLi.out.el u hmu
              obtain ⟨au, cu, rfl, -, hyl⟩ := hq.shape
              unfold maxLen at hyl
              have HU := Lib.hid hu
              have HMu := Lib.hid hmu
              generalize ys.length = len at *
              generalize (⟨g, o, none⟩ : Addr) = a at *
              clear hq hu hmu
              go_wp2
              go_loopw [20] (fun q wr => ∃ k : Nat, k ≤ len ∧ q = .int .i64 (k : Int) ∧ Hid (Lz W0.heap.size W0 (.slice (some a) m c3) m us wr)) (fun q _ => len + 1 - (intOf q).toNat)
              case atStart => exact ⟨0, by omega, rfl, HLi.out⟩
              case round =>
                obtain ⟨k, hk, rfl, HLk⟩ := hrel
                clear HLi
                have r0 := HLk.out.g.read rfl i _ HU.out
                by_cases hkl : k < len
                · have hkn : (k : Int) < (len : Int) := by omega
                  obtain ⟨zs, hq⟩ := HLk.out.drew.el _ HMu.out
                  have hzl : zs.length = len := by
                    obtain ⟨_, _, e, _, _⟩ := hq.shape
                    simp at e
                    exact e.2.1.symm
                  obtain ⟨g2, o2, c2', e, hbk, r1, f1, -⟩ := hq.poke (k := k) (by omega)
                  rw [hzl] at e
                  simp at e
                  obtain ⟨rfl, rfl⟩ := e
                  generalize at0 zs k = x at r1
                  obtain ⟨y, hy, hy0, hy1⟩ := wrap_u8 (x + 1)
                  have HL1 := Lib.hid (HLk.out.drew.set HMu.out hbk (o2 + k) ⟨hy0, hy1⟩)
                  have HK := Lib.hid (show wr.drew.cell? (a.add i) = some (.slice (some ⟨g2, o2, none⟩) len cu) from HLk.out.drew.g.read rfl i _ HU.out)
                  have HR1 := Lib.hid r1
                  have HFz := Lib.hid f1
                  have HYw : Hid (IntKind.u8.wrap (x + 1) = y) := hy
                  clear hq hbk r1 f1 HLk
                  go_wp2
                  have hK0 := HK.out
                  refine wp_region_held_drew (S := fun W => W.cell? (a.add i) = some (.slice (some ⟨g2, o2, none⟩) len cu)) (by kernel_rfl) hK0 (fun _ => ?_)
                  have hS := hK0
                  refine take_d (i := 0) (d := some 116) (v := ?_) rfl rfl (by kernel_rfl) (by kernel_rfl) (by kernel_rfl) (fun _ _ _ h => h) (.inl ⟨by rfl, ?_⟩) hS ?_
                  rotate_left
                  · intro W hW
                    go_simp
                    try with_reducible rfl
                  try simp only [Act.put, List.setIfInBounds_toArray, List.set_cons_zero, List.set_cons_succ]
                  refine take_d (i := 1) (d := some 117) (v := ?_) rfl rfl (by kernel_rfl) (by kernel_rfl) (by kernel_rfl) (fun _ _ _ h => h) (.inl ⟨by rfl, ?_⟩) hS ?_
                  rotate_left
                  · intro W hW
                    go_simp
                    try with_reducible rfl
                  try simp only [Act.put, List.setIfInBounds_toArray, List.set_cons_zero, List.set_cons_succ]
                  refine take_d (i := 2) (d := some 118) (v := .pointer (some (a.add i))) rfl rfl (by kernel_rfl) (by kernel_rfl) (by kernel_rfl) (fun _ _ _ h => h) (.inl ⟨by rfl, fun W hW => by have q := hin; go_simp⟩) hS ?_
                  try simp only [Act.put, List.setIfInBounds_toArray, List.set_cons_zero, List.set_cons_succ]
                  refine take_d (i := 3) (d := some 119) (v := .slice (some ⟨g2, o2, none⟩) len cu) rfl rfl (by kernel_rfl) (by kernel_rfl) (by kernel_rfl) (fun _ _ _ h => h) (.inl ⟨by rfl, fun W hW => by have q := hW; go_simp⟩) hS ?_
                  try simp only [Act.put, List.setIfInBounds_toArray, List.set_cons_zero, List.set_cons_succ]
                  refine take_d (i := 4) (d := some 120) (v := ?_) rfl rfl (by kernel_rfl) (by kernel_rfl) (by kernel_rfl) (fun _ _ _ h => h) (.inl ⟨by rfl, ?_⟩) hS ?_
                  rotate_left
                  · intro W hW
                    go_simp
                    try with_reducible rfl
                  try simp only [Act.put, List.setIfInBounds_toArray, List.set_cons_zero, List.set_cons_succ]
                  refine take_d (i := 5) (d := some 121) (v := ?_) rfl rfl (by kernel_rfl) (by kernel_rfl) (by kernel_rfl) (fun _ _ _ h => h) (.inl ⟨by rfl, ?_⟩) hS ?_
                  rotate_left
                  · intro W hW
                    go_simp
                    try with_reducible rfl
                  try simp only [Act.put, List.setIfInBounds_toArray, List.set_cons_zero, List.set_cons_succ]
                  refine take_d (i := 6) (d := some 122) (v := ?_) rfl rfl (by kernel_rfl) (by kernel_rfl) (by kernel_rfl) (fun _ _ _ h => h) (.inl ⟨by rfl, ?_⟩) hS ?_
                  rotate_left
                  · intro W hW
                    go_simp
                    try with_reducible rfl
                  try simp only [Act.put, List.setIfInBounds_toArray, List.set_cons_zero, List.set_cons_succ]
                  refine take_d (i := 7) (d := some 123) (v := .pointer (some (a.add i))) rfl rfl (by kernel_rfl) (by kernel_rfl) (by kernel_rfl) (fun _ _ _ h => h) (.inl ⟨by rfl, fun W hW => by have q := hin; go_simp⟩) hS ?_
                  try simp only [Act.put, List.setIfInBounds_toArray, List.set_cons_zero, List.set_cons_succ]
                  refine take_d (i := 8) (d := some 124) (v := .slice (some ⟨g2, o2, none⟩) len cu) rfl rfl (by kernel_rfl) (by kernel_rfl) (by kernel_rfl) (fun _ _ _ h => h) (.inl ⟨by rfl, fun W hW => by have q := hW; go_simp⟩) hS ?_
                  try simp only [Act.put, List.setIfInBounds_toArray, List.set_cons_zero, List.set_cons_succ]
                  refine take_d (i := 9) (d := some 125) (v := ?_) rfl rfl (by kernel_rfl) (by kernel_rfl) (by kernel_rfl) (fun _ _ _ h => h) (.inl ⟨by rfl, ?_⟩) hS ?_
                  rotate_left
                  · intro W hW
                    go_simp
                    try with_reducible rfl
                  try simp only [Act.put, List.setIfInBounds_toArray, List.set_cons_zero, List.set_cons_succ]
                  refine take_d (i := 10) (d := some 126) (v := .pointer (some ⟨g2, o2 + k, none⟩)) rfl rfl (by kernel_rfl) (by kernel_rfl) (by kernel_rfl) (fun _ _ _ h => h) (.inl ⟨by rfl, fun W hW => by have q := hkn; go_simp; try simp only [add_lit]⟩) hS ?_
                  try simp only [Act.put, List.setIfInBounds_toArray, List.set_cons_zero, List.set_cons_succ]
                  refine wpAnyH_all (rs := [11]) (by kernel_rfl) (by simp) (fun i hi => ?_)
                  simp only [List.mem_cons, List.not_mem_nil, or_false] at hi
                  subst hi
                  refine .inl ?_
                  refine o_load_u8 (d := some 127) rfl HR1.out rfl rfl ?_
                  refine ⟨hS, ?_⟩
                  try simp only [Act.put, List.setIfInBounds_toArray, List.set_cons_zero, List.set_cons_succ]
                  refine take_d (i := 12) (d := some 128) (v := .int .u8 y) rfl rfl (by kernel_rfl) (by kernel_rfl) (by kernel_rfl) (fun _ _ _ h => h) (.inl ⟨by rfl, fun W hW => by have q := HYw.out; go_simp⟩) hS ?_
                  try simp only [Act.put, List.setIfInBounds_toArray, List.set_cons_zero, List.set_cons_succ]
                  refine take_d (i := 13) (d := some 129) (v := .pointer (some ⟨g2, o2 + k, none⟩)) rfl rfl (by kernel_rfl) (by kernel_rfl) (by kernel_rfl) (fun _ _ _ h => h) (.inl ⟨by rfl, fun W hW => by have q := hkn; go_simp; try simp only [add_lit]⟩) hS ?_
                  try simp only [Act.put, List.setIfInBounds_toArray, List.set_cons_zero, List.set_cons_succ]
                  refine wpAnyH_all (rs := [14]) (by kernel_rfl) (by simp) (fun i hi => ?_)
                  simp only [List.mem_cons, List.not_mem_nil, or_false] at hi
                  subst hi
                  refine .inl ?_
                  refine o_store_u8 (d := none) rfl HR1.out HFz.out rfl rfl rfl ?_
                  have hS2 := HL1.out.g.read rfl i _ HU.out
                  refine ⟨hS2, ?_⟩
                  try simp only [Act.put, List.setIfInBounds_toArray, List.set_cons_zero, List.set_cons_succ]
                  refine wpAnyH_done (by kernel_rfl) ?_ _
                  clear hK0 HK
                  go_wp2
                  go_roundw
                  case rel => exact ⟨k + 1, by omega, by go_num, HL1.out⟩
                  case measure => simp [intOf]; omega
                · obtain rfl : k = len := by omega
                  go_wp2
                  go_roundw
                  case rel => exact ⟨i + 1, by omega, by go_num, HLk.out⟩
                  case measure => simp [intOf]; omega
            · obtain rfl : i = m := by omega
              have HZ := Lib.hid (HCz.out.after HLi.out.below)
              clear HCz HLi
              go_wp2_with (first | ((with_reducible apply wp_load_R rowR); (exact HZ.out.r0.rf); (rfl)) | ((with_reducible apply wp_load_R rowR); (exact HZ.out.r1.rf); (rfl)))
              refine (HZ.out.r0.same HZ.out.r1 HOK.out HOK1.out (by have := HSZ.out; omega) (by have := HSZ1.out; omega)).mono ?_
              rintro e w20 ⟨rfl, hb⟩
              have HZ1 := Lib.hid (HZ.out.after hb)
              have HQ1 := Lib.hid (Nt.same_symm n1 n)
              obtain ⟨q, hq⟩ : ∃ q, n.same n1 = q := ⟨_, rfl⟩
              have HQ := Lib.hid hq
              rw [hq]
              clear hb HZ hq
              go_wp2_with (first | (go_at_call 16; refine (num_any _ _).mono ?_; rintro e w' ⟨rfl, rfl⟩) | (go_at_call 17; refine (Take_nil _).mono ?_; rintro e w' ⟨rfl, rfl⟩) | (go_at_call 18; refine (Waits_nil _).mono ?_; rintro e w' ⟨rfl, rfl⟩) | (go_at_call 22; refine (Queue_nil _).mono ?_; rintro e w' ⟨rfl, rfl⟩) | (go_at_call 23; refine (Sent_nil _).mono ?_; rintro e w' ⟨rfl, rfl⟩) | (go_at_call 19; refine (Copy_nil _).mono ?_; rintro e w' ⟨rfl, rfl⟩) | (go_at_call 21; refine (Next_nil _).mono ?_; rintro e w' ⟨rfl, rfl⟩) | (go_at_call 26; refine (Count_nil _).mono ?_; rintro e w' ⟨rfl, rfl⟩) | (go_at_call 15; refine (Push_nil _ [] _ (.inl ⟨rfl, rfl⟩)).mono ?_; rintro e w' ⟨rfl, rfl⟩) | (go_at_call 25; refine (Send_nil _ [] _ (.inl ⟨rfl, rfl⟩)).mono ?_; rintro e w' ⟨rfl, rfl⟩) | ((with_reducible apply wp_load_Rg); (kernel_rfl); (exact rowR); (exact HZ1.out.r0.rf); (rfl)) | ((with_reducible apply wp_load_Rg); (kernel_rfl); (exact rowR); (exact HZ1.out.r1.rf); (rfl)) | ((with_reducible apply wp_load_Rg); (kernel_rfl); (exact rowR); (exact HZ1.out.r2.rf); (rfl)))
              refine (HZ1.out.r0.is HZ1.out.ac HOK.out (by have := HSZ.out; omega)).mono ?_
              rintro e w21 ⟨rfl, hb⟩
              have HZ2 := Lib.hid (HZ1.out.after hb)
              clear hb HZ1
              have HZ1 := Lib.hid HZ2.out
              clear HZ2
              go_wp2_with (first | (go_at_call 16; refine (num_any _ _).mono ?_; rintro e w' ⟨rfl, rfl⟩) | (go_at_call 17; refine (Take_nil _).mono ?_; rintro e w' ⟨rfl, rfl⟩) | (go_at_call 18; refine (Waits_nil _).mono ?_; rintro e w' ⟨rfl, rfl⟩) | (go_at_call 22; refine (Queue_nil _).mono ?_; rintro e w' ⟨rfl, rfl⟩) | (go_at_call 23; refine (Sent_nil _).mono ?_; rintro e w' ⟨rfl, rfl⟩) | (go_at_call 19; refine (Copy_nil _).mono ?_; rintro e w' ⟨rfl, rfl⟩) | (go_at_call 21; refine (Next_nil _).mono ?_; rintro e w' ⟨rfl, rfl⟩) | (go_at_call 26; refine (Count_nil _).mono ?_; rintro e w' ⟨rfl, rfl⟩) | (go_at_call 15; refine (Push_nil _ [] _ (.inl ⟨rfl, rfl⟩)).mono ?_; rintro e w' ⟨rfl, rfl⟩) | (go_at_call 25; refine (Send_nil _ [] _ (.inl ⟨rfl, rfl⟩)).mono ?_; rintro e w' ⟨rfl, rfl⟩) | ((with_reducible apply wp_load_Rg); (kernel_rfl); (exact rowR); (exact HZ1.out.r0.rf); (rfl)) | ((with_reducible apply wp_load_Rg); (kernel_rfl); (exact rowR); (exact HZ1.out.r1.rf); (rfl)) | ((with_reducible apply wp_load_Rg); (kernel_rfl); (exact rowR); (exact HZ1.out.r2.rf); (rfl)))
              refine (HZ1.out.r1.is HZ1.out.an HOK1.out (by have := HSZ1.out; omega)).mono ?_
              rintro e w22 ⟨rfl, hb⟩
              have HZ2 := Lib.hid (HZ1.out.after hb)
              clear hb HZ1
              have HZ1 := Lib.hid HZ2.out
              clear HZ2
              go_wp2_with (first | (go_at_call 16; refine (num_any _ _).mono ?_; rintro e w' ⟨rfl, rfl⟩) | (go_at_call 17; refine (Take_nil _).mono ?_; rintro e w' ⟨rfl, rfl⟩) | (go_at_call 18; refine (Waits_nil _).mono ?_; rintro e w' ⟨rfl, rfl⟩) | (go_at_call 22; refine (Queue_nil _).mono ?_; rintro e w' ⟨rfl, rfl⟩) | (go_at_call 23; refine (Sent_nil _).mono ?_; rintro e w' ⟨rfl, rfl⟩) | (go_at_call 19; refine (Copy_nil _).mono ?_; rintro e w' ⟨rfl, rfl⟩) | (go_at_call 21; refine (Next_nil _).mono ?_; rintro e w' ⟨rfl, rfl⟩) | (go_at_call 26; refine (Count_nil _).mono ?_; rintro e w' ⟨rfl, rfl⟩) | (go_at_call 15; refine (Push_nil _ [] _ (.inl ⟨rfl, rfl⟩)).mono ?_; rintro e w' ⟨rfl, rfl⟩) | (go_at_call 25; refine (Send_nil _ [] _ (.inl ⟨rfl, rfl⟩)).mono ?_; rintro e w' ⟨rfl, rfl⟩) | ((with_reducible apply wp_load_Rg); (kernel_rfl); (exact rowR); (exact HZ1.out.r0.rf); (rfl)) | ((with_reducible apply wp_load_Rg); (kernel_rfl); (exact rowR); (exact HZ1.out.r1.rf); (rfl)) | ((with_reducible apply wp_load_Rg); (kernel_rfl); (exact rowR); (exact HZ1.out.r2.rf); (rfl)))
              refine (HZ1.out.r2.is HZ1.out.ad HOK2.out (by have := HSZ2.out; omega)).mono ?_
              rintro e w23 ⟨rfl, hb⟩
              have HZ2 := Lib.hid (HZ1.out.after hb)
              clear hb HZ1
              have HZ1 := Lib.hid HZ2.out
              clear HZ2
              go_wp2_with (first | (go_at_call 16; refine (num_any _ _).mono ?_; rintro e w' ⟨rfl, rfl⟩) | (go_at_call 17; refine (Take_nil _).mono ?_; rintro e w' ⟨rfl, rfl⟩) | (go_at_call 18; refine (Waits_nil _).mono ?_; rintro e w' ⟨rfl, rfl⟩) | (go_at_call 22; refine (Queue_nil _).mono ?_; rintro e w' ⟨rfl, rfl⟩) | (go_at_call 23; refine (Sent_nil _).mono ?_; rintro e w' ⟨rfl, rfl⟩) | (go_at_call 19; refine (Copy_nil _).mono ?_; rintro e w' ⟨rfl, rfl⟩) | (go_at_call 21; refine (Next_nil _).mono ?_; rintro e w' ⟨rfl, rfl⟩) | (go_at_call 26; refine (Count_nil _).mono ?_; rintro e w' ⟨rfl, rfl⟩) | (go_at_call 15; refine (Push_nil _ [] _ (.inl ⟨rfl, rfl⟩)).mono ?_; rintro e w' ⟨rfl, rfl⟩) | (go_at_call 25; refine (Send_nil _ [] _ (.inl ⟨rfl, rfl⟩)).mono ?_; rintro e w' ⟨rfl, rfl⟩) | ((with_reducible apply wp_load_Rg); (kernel_rfl); (exact rowR); (exact HZ1.out.r0.rf); (rfl)) | ((with_reducible apply wp_load_Rg); (kernel_rfl); (exact rowR); (exact HZ1.out.r1.rf); (rfl)) | ((with_reducible apply wp_load_Rg); (kernel_rfl); (exact rowR); (exact HZ1.out.r2.rf); (rfl)))
              refine (at_same HZ1.out.an HZ1.out.ac).mono ?_
              rintro e w24 ⟨rfl, hb⟩
              rw [show n1.same n = q from HQ1.out.trans HQ.out]
              have HZ2 := Lib.hid (HZ1.out.after hb)
              clear hb HZ1
              have HZ1 := Lib.hid HZ2.out
              clear HZ2
              go_wp2_with (first | (go_at_call 16; refine (num_any _ _).mono ?_; rintro e w' ⟨rfl, rfl⟩) | (go_at_call 17; refine (Take_nil _).mono ?_; rintro e w' ⟨rfl, rfl⟩) | (go_at_call 18; refine (Waits_nil _).mono ?_; rintro e w' ⟨rfl, rfl⟩) | (go_at_call 22; refine (Queue_nil _).mono ?_; rintro e w' ⟨rfl, rfl⟩) | (go_at_call 23; refine (Sent_nil _).mono ?_; rintro e w' ⟨rfl, rfl⟩) | (go_at_call 19; refine (Copy_nil _).mono ?_; rintro e w' ⟨rfl, rfl⟩) | (go_at_call 21; refine (Next_nil _).mono ?_; rintro e w' ⟨rfl, rfl⟩) | (go_at_call 26; refine (Count_nil _).mono ?_; rintro e w' ⟨rfl, rfl⟩) | (go_at_call 15; refine (Push_nil _ [] _ (.inl ⟨rfl, rfl⟩)).mono ?_; rintro e w' ⟨rfl, rfl⟩) | (go_at_call 25; refine (Send_nil _ [] _ (.inl ⟨rfl, rfl⟩)).mono ?_; rintro e w' ⟨rfl, rfl⟩) | ((with_reducible apply wp_load_Rg); (kernel_rfl); (exact rowR); (exact HZ1.out.r0.rf); (rfl)) | ((with_reducible apply wp_load_Rg); (kernel_rfl); (exact rowR); (exact HZ1.out.r1.rf); (rfl)) | ((with_reducible apply wp_load_Rg); (kernel_rfl); (exact rowR); (exact HZ1.out.r2.rf); (rfl)))
              refine (at_same HZ1.out.ac HZ1.out.an).mono ?_
              rintro e w25 ⟨rfl, hb⟩
              rw [show n.same n1 = q from HQ.out]
              have HZ2 := Lib.hid (HZ1.out.after hb)
              clear hb HZ1
              have HZ1 := Lib.hid HZ2.out
              clear HZ2
              obtain ⟨Fq, hcq⟩ := HZ1.out.ac
              have HAq := Lib.hid hcq
              clear hcq
              go_wp2_with (first | (go_at_call 16; refine (num_any _ _).mono ?_; rintro e w' ⟨rfl, rfl⟩) | (go_at_call 17; refine (Take_nil _).mono ?_; rintro e w' ⟨rfl, rfl⟩) | (go_at_call 18; refine (Waits_nil _).mono ?_; rintro e w' ⟨rfl, rfl⟩) | (go_at_call 22; refine (Queue_nil _).mono ?_; rintro e w' ⟨rfl, rfl⟩) | (go_at_call 23; refine (Sent_nil _).mono ?_; rintro e w' ⟨rfl, rfl⟩) | (go_at_call 19; refine (Copy_nil _).mono ?_; rintro e w' ⟨rfl, rfl⟩) | (go_at_call 21; refine (Next_nil _).mono ?_; rintro e w' ⟨rfl, rfl⟩) | (go_at_call 26; refine (Count_nil _).mono ?_; rintro e w' ⟨rfl, rfl⟩) | (go_at_call 15; refine (Push_nil _ [] _ (.inl ⟨rfl, rfl⟩)).mono ?_; rintro e w' ⟨rfl, rfl⟩) | (go_at_call 25; refine (Send_nil _ [] _ (.inl ⟨rfl, rfl⟩)).mono ?_; rintro e w' ⟨rfl, rfl⟩))
              refine (Same_nils _).mono ?_
              rintro e w' ⟨rfl, rfl⟩
              go_wp2_with (first | (go_at_call 16; refine (num_any _ _).mono ?_; rintro e w' ⟨rfl, rfl⟩) | (go_at_call 17; refine (Take_nil _).mono ?_; rintro e w' ⟨rfl, rfl⟩) | (go_at_call 18; refine (Waits_nil _).mono ?_; rintro e w' ⟨rfl, rfl⟩) | (go_at_call 22; refine (Queue_nil _).mono ?_; rintro e w' ⟨rfl, rfl⟩) | (go_at_call 23; refine (Sent_nil _).mono ?_; rintro e w' ⟨rfl, rfl⟩) | (go_at_call 19; refine (Copy_nil _).mono ?_; rintro e w' ⟨rfl, rfl⟩) | (go_at_call 21; refine (Next_nil _).mono ?_; rintro e w' ⟨rfl, rfl⟩) | (go_at_call 26; refine (Count_nil _).mono ?_; rintro e w' ⟨rfl, rfl⟩) | (go_at_call 15; refine (Push_nil _ [] _ (.inl ⟨rfl, rfl⟩)).mono ?_; rintro e w' ⟨rfl, rfl⟩) | (go_at_call 25; refine (Send_nil _ [] _ (.inl ⟨rfl, rfl⟩)).mono ?_; rintro e w' ⟨rfl, rfl⟩))
              refine (Same_left HAq.out).mono ?_
              rintro e w' ⟨rfl, rfl⟩
              go_wp2_with (first | (go_at_call 16; refine (num_any _ _).mono ?_; rintro e w' ⟨rfl, rfl⟩) | (go_at_call 17; refine (Take_nil _).mono ?_; rintro e w' ⟨rfl, rfl⟩) | (go_at_call 18; refine (Waits_nil _).mono ?_; rintro e w' ⟨rfl, rfl⟩) | (go_at_call 22; refine (Queue_nil _).mono ?_; rintro e w' ⟨rfl, rfl⟩) | (go_at_call 23; refine (Sent_nil _).mono ?_; rintro e w' ⟨rfl, rfl⟩) | (go_at_call 19; refine (Copy_nil _).mono ?_; rintro e w' ⟨rfl, rfl⟩) | (go_at_call 21; refine (Next_nil _).mono ?_; rintro e w' ⟨rfl, rfl⟩) | (go_at_call 26; refine (Count_nil _).mono ?_; rintro e w' ⟨rfl, rfl⟩) | (go_at_call 15; refine (Push_nil _ [] _ (.inl ⟨rfl, rfl⟩)).mono ?_; rintro e w' ⟨rfl, rfl⟩) | (go_at_call 25; refine (Send_nil _ [] _ (.inl ⟨rfl, rfl⟩)).mono ?_; rintro e w' ⟨rfl, rfl⟩))
              refine (Same_right HAq.out).mono ?_
              rintro e w' ⟨rfl, rfl⟩
              go_wp2_with (first | (go_at_call 16; refine (num_any _ _).mono ?_; rintro e w' ⟨rfl, rfl⟩) | (go_at_call 17; refine (Take_nil _).mono ?_; rintro e w' ⟨rfl, rfl⟩) | (go_at_call 18; refine (Waits_nil _).mono ?_; rintro e w' ⟨rfl, rfl⟩) | (go_at_call 22; refine (Queue_nil _).mono ?_; rintro e w' ⟨rfl, rfl⟩) | (go_at_call 23; refine (Sent_nil _).mono ?_; rintro e w' ⟨rfl, rfl⟩) | (go_at_call 19; refine (Copy_nil _).mono ?_; rintro e w' ⟨rfl, rfl⟩) | (go_at_call 21; refine (Next_nil _).mono ?_; rintro e w' ⟨rfl, rfl⟩) | (go_at_call 26; refine (Count_nil _).mono ?_; rintro e w' ⟨rfl, rfl⟩) | (go_at_call 15; refine (Push_nil _ [] _ (.inl ⟨rfl, rfl⟩)).mono ?_; rintro e w' ⟨rfl, rfl⟩) | (go_at_call 25; refine (Send_nil _ [] _ (.inl ⟨rfl, rfl⟩)).mono ?_; rintro e w' ⟨rfl, rfl⟩))
              refine (works_any _).mono ?_
              rintro e w30 ⟨rfl, hb⟩
              have H9 := HZ1.out.below.trans (hb.mono HZ1.out.below.size)
              clear hb HZ1 HAq
              go_wp2
              go_ret; exact ⟨rfl, H9⟩
theorem NetCopies_walk (v : Value) (xs : List Ac) (s : Ac) (bv : Value) (w : World) (h : ActsIn w v xs) (hf : s.Fit) (hn : NumsIn .u8 w bv s.b) : Calls Try.prog 6 #[v, .agg #[.int .i64 s.k, bv]] w fun e w' => e = .returned (.bool true) ∧ Below w.heap.size w w' := NetCopies_in v xs s bv w h hn hf
end Go.Proofs.Ytepimbebodmajaa

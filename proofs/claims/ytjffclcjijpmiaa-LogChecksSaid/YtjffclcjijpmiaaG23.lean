/-
  Layer 16: the records' bytes gone over: walk. Layer 16: a head off bytes: walk. Written by gen_head.py.
-/
import Derived.Test.YtjffclcjijpmiaaG16
import Derived.Test.YtjffclcjijpmiaaG14
import Derived.Test.YtjffclcjijpmiaaG22
import Derived.Test.YtjffclcjijpmiaaG10
import Derived.Test.YtjffclcjijpmiaaG11
set_option linter.unusedVariables false
set_option linter.unusedSimpArgs false
namespace Go.Proofs.Ytjffclcjijpmiaa.LG
open Go.RowKit
set_option maxHeartbeats 8000000
set_option maxRecDepth 100000
set_option linter.unusedVariables false
set_option linter.unusedSimpArgs false

theorem contents_any {w : World} {ao : Option Addr} {k c : Nat} {n : Int} : Calls Try.prog 42 #[.slice ao k c, .int .i64 n] w fun e w' => e = .returned (.func (.func 57) #[] #[.pointer (some ⟨w.heap.size, 0, none⟩), .pointer (some ⟨w.heap.size + 1, 0, none⟩)]) ∧ w' = (w.alloc (.cells #[.slice ao k c] 34)).alloc (.cells #[.int .i64 n] 3) := by
  have hmf : ∀ (fn : Fn) (first cap : Array Value) (w : World), (Instr.makeFunc fn first cap).run Try.prog w = .ok (.func fn first cap) w := fun _ _ _ _ => rfl
  go_enter Try.func42, Try.ntmps42
  go_wp2
  go_ret
  exact ⟨rfl, rfl⟩
/-- A record's bytes stand there whole: they, and what is behind. -/
def Stp (l c rest : List Int) : Prop := 0 < (tk 0 1 0 l).2 ∧ (tk 0 1 0 l).1 ≤ ((l.drop (tk 0 1 0 l).2.toNat).length : Int) ∧ c = (l.drop (tk 0 1 0 l).2.toNat).take (tk 0 1 0 l).1.toNat ∧ rest = (l.drop (tk 0 1 0 l).2.toNat).drop (tk 0 1 0 l).1.toNat
/-- No more records' bytes stand there whole. -/
def Stop (l : List Int) : Prop := (tk 0 1 0 l).2 ≤ 0 ∨ ((l.drop (tk 0 1 0 l).2.toNat).length : Int) < (tk 0 1 0 l).1
/-- What going over the records' bytes leaves. -/
def ConP (J : List Int → World → Prop) (Jp : List PanicEntry → World → Prop) (e : Ending) (W' : World) : Prop :=
  (∃ v rest, e = .returned v ∧ J rest W' ∧ Stop rest) ∨ (∃ rest, e = .panicked (chain 260) ∧ J rest W' ∧ (tk 0 1 0 rest).2 = -1) ∨ (∃ ch, e = .panicked ch ∧ Jp ch W')
/-- The length of the slice in a box. -/
def lenAt (L : Nat) (W : World) : Nat := match W.cell? ⟨L, 0, none⟩ with
  | some (.slice _ n _) => n
  | _ => 0
theorem Tk.len {N B L : Nat} {l : List Int} {W : World} (h : Tk N W B L l) : lenAt L W = l.length := by
  obtain ⟨⟨v, h1, h2⟩, _, _⟩ := h
  obtain ⟨ao, c, rfl, _, _⟩ := h2.1.shape
  unfold lenAt
  rw [h1.l.cell 0]
  rfl
theorem Stp.less {l c rest : List Int} (h : Stp l c rest) (hb : By8 l) : rest.length < l.length := by
  have := tk_end h.1 hb
  rw [h.2.2.2, List.length_drop, List.length_drop]
  omega
theorem contents1_any {n yl BB NB N n0 : Nat} {W0 : World} {bv : Value} {b : List Int} (J : List Int → World → Prop) (Jp : List PanicEntry → World → Prop)
    (hl : b.length ≤ 1000000) (hn0 : n0 ≤ b.length) (hb0 : 0 < b.length) (hN : N ≤ W0.heap.size)
    (hJb : ∀ l W, J l W → Blk W BB #[bv] 34 ∧ Blk W NB #[.int .i64 (n0 : Int)] 3 ∧ Bn N W bv b ∧ l.length ≤ b.length)
    (hJa : ∀ l W W', J l W → Below W.heap.size W W' → J l W')
    (hJt : ∀ l W W' v, J l W → Blk W W0.heap.size #[v] 34 → Turned (fun k => k = W0.heap.size) W W' → J l W')
    (hy : ∀ m l c rest cv W1, Stp l c rest → J l W1 → Tk N W1 (W0.heap.size + 1) W0.heap.size rest → Bn N W1 cv c → YieldAt Fence.wide m Try.prog yl #[.int .i64 ((b.length : Int) - (rest.length : Int)), cv] W1 fun e W' => (e = .returned (.bool true) ∧ J rest W' ∧ Tk N W' (W0.heap.size + 1) W0.heap.size rest) ∨ (∃ ch, e = .panicked ch ∧ Jp ch W'))
    (h0 : J (b.drop n0) W0) : CallsIn Fence.wide n Try.prog 57 (#[.func (.yield yl) #[] #[]] ++ #[.pointer (some ⟨BB, 0, none⟩), .pointer (some ⟨NB, 0, none⟩)]) W0 fun e W' => ConP J Jp e W' := by
  have HJb := Lib.hid hJb
  have HJa := Lib.hid hJa
  have HJt := Lib.hid hJt
  have HY := Lib.hid hy
  have H0 := Lib.hid h0
  obtain ⟨hbb, hnb, hbv, _⟩ := hJb _ _ h0
  obtain ⟨_, ao, c, rfl, hlc, hlm, h9⟩ := hbv.1.1
  obtain ⟨g, o, rfl, _⟩ := h9 hb0
  have c1 := hbb.cell 0
  have c2 := hnb.cell 0
  simp only [List.getElem?_toArray, List.getElem?_cons_zero] at c1 c2
  have hni : (n0 : Int) ≤ (b.length : Int) := by omega
  have HBV := Lib.hid hbv
  clear hJb hJa hJt hy h0 hbb hnb hbv h9
  refine callsIn_of_wp Try.func57 rfl trivial ?_ rfl
  simp only [Try.ntmps57, List.size_toArray, List.length_cons, List.length_nil, Nat.reduceAdd, Nat.reduceSub, Array.replicate_succ, Array.replicate_zero, List.push_toArray, List.append_toArray, List.nil_append, List.cons_append]
  by_cases hcn : c = n0
  · have hv := bn_drop HBV.out hn0
    rw [if_pos hcn, hcn, Nat.sub_self, show b.length - n0 = 0 by omega] at hv
    have HV := Lib.hid hv
    subst hcn
    clear hv
    gi_wp2_with fail
    refine ⟨trivial, fun hd => (by cases hd), ?_⟩
    refine (callsIn_wide.2 (takerOf_any _ _)).mono ?_
    rintro e W1 ⟨rfl, hW1⟩
    have hT : Tk N W1 (W0.heap.size + 1) W0.heap.size (b.drop c) ∧ J (b.drop c) W1 := by
      have b1 := bel1 W0 (.cells #[.slice (some ⟨g, o, none⟩) 0 0] 34)
      have k1 := blk_new W0 #[.slice (some ⟨g, o, none⟩) 0 0] 34
      have b2 := bel1 (W0.alloc (.cells #[.slice (some ⟨g, o, none⟩) 0 0] 34)) (.cells #[.pointer (some ⟨W0.heap.size, 0, none⟩)] 92)
      have k2 := blk_new (W0.alloc (.cells #[.slice (some ⟨g, o, none⟩) 0 0] 34)) #[.pointer (some ⟨W0.heap.size, 0, none⟩)] 92
      rw [World.size_alloc] at k2
      subst hW1
      have bb := belT b1 b2
      exact ⟨⟨⟨_, ⟨k2, k1.below b2⟩, HV.out.keep (bb.mono hN)⟩, by omega, by omega⟩, HJa.out _ _ _ H0.out bb⟩
    have HT := Lib.hid hT
    rw [World.size_alloc]
    clear hW1 hT HV H0 c1 c2 HBV
    gi_wp2_with fail
    gi_loopw [9] (fun tv wr => ∃ l, Hid (Tk N wr (W0.heap.size + 1) W0.heap.size l ∧ J l wr)) (fun _ wr => lenAt W0.heap.size wr)
    case atStart => exact ⟨_, HT⟩
    case round =>
      obtain ⟨l, HI⟩ := hrel
      clear HT
      obtain ⟨hbb, hnb, hbv, hll⟩ := HJb.out _ _ HI.out.2
      clear hbb hnb
      have HLn := Lib.hid HI.out.1.len
      have HL8 : Hid (By8 l) := by
        obtain ⟨⟨v, _, h2⟩, _, _⟩ := HI.out.1
        exact Lib.hid h2.1.2
      have HC := Lib.hid (tnum_any HI.out.1 (by omega))
      clear hbv
      gi_wp2_with fail
      refine ⟨trivial, fun hd => (by cases hd), ?_⟩
      refine (callsIn_wide.2 HC.out).mono ?_
      rintro e W2 ⟨n, le, th, l', rfl, ht2, hu2, hr, hn, hnm, hl'⟩
      have HJ2 : Hid (J l W2) := by
        obtain ⟨⟨v, h1, h2⟩, _, _⟩ := HI.out.1
        exact Lib.hid (HJt.out _ _ _ v HI.out.2 h1.l hu2)
      have HT2 := Lib.hid ht2
      have HR := Lib.hid hr
      have HN2 := Lib.hid (And.intro hn (And.intro hnm hl'))
      clear hu2 ht2 hr hl' HC HI
      cases th with
      | false =>
        have HS : Hid (Stop l) := by
          rcases HR.out with ⟨_, h⟩ | ⟨h, _⟩ | ⟨h, _⟩
          · exact Lib.hid (.inl h)
          · cases h
          · cases h
        clear HR HT2 HN2 HLn hn hnm
        gi_wp2
        go_end0
        exact .inl ⟨_, l, rfl, HJ2.out, HS.out⟩
      | true =>
        have HC := Lib.hid (take1_any HT2.out n hn)
        gi_wp2_with fail
        refine ⟨trivial, fun hd => (by cases hd), ?_⟩
        refine (callsIn_wide.2 HC.out).mono ?_
        rintro e W3 (⟨hlt, rfl, rfl⟩ | ⟨hle, v1, rfl, hv1, ht3, hu3⟩)
        · have HS : Hid (Stop l) := by
            rcases HR.out with ⟨h, _⟩ | ⟨_, _, _, h3, h4⟩ | ⟨_, h, _⟩
            · cases h
            · rw [h3, h4] at hlt; exact Lib.hid (.inr hlt)
            · exact Lib.hid (.inl (by omega))
          clear HR HT2 HN2 HLn hn hnm hlt HC
          gi_wp2
          go_end0
          exact .inl ⟨_, l, rfl, HJ2.out, HS.out⟩
        have HJ3 : Hid (J l W3) := by
          obtain ⟨⟨v, h1, h2⟩, _, _⟩ := HT2.out
          exact Lib.hid (HJt.out _ _ _ v HJ2.out h1.l hu3)
        cases le with
        | false =>
          have HS : Hid ((tk 0 1 0 l).2 = -1) := by
            rcases HR.out with ⟨h, _⟩ | ⟨_, h, _⟩ | ⟨_, h, _⟩
            · cases h
            · cases h
            · exact Lib.hid h
          clear HR HT2 HN2 HLn hn hnm hle HC hv1 ht3 hu3 HJ2
          gi_wp2_with fail
          refine ⟨trivial, fun hd => (by cases hd), ?_⟩
          refine (callsIn_wide.2 (must_no 260 _)).mono ?_
          rintro e W4 ⟨rfl, rfl⟩
          gi_wp2
          exact ⟨rfl, .inr (.inl ⟨l, rfl, HJ3.out, HS.out⟩)⟩
        | true =>
          have HS : Hid (Stp l (l'.take n.toNat) (l'.drop n.toNat)) := by
            rcases HR.out with ⟨h, _⟩ | ⟨_, _, h2, h3, h4⟩ | ⟨_, _, h⟩
            · cases h
            · subst h3; subst h4; exact Lib.hid ⟨h2, hle, rfl, rfl⟩
            · rcases h with h | h
              · cases h
              · have := HN2.out.2.2
                rw [h] at hle
                have : maxI = 9223372036854775807 := rfl
                omega
          have HV1 := Lib.hid hv1
          have HT3 := Lib.hid ht3
          clear HR HT2 HN2 hn hnm hle HC hv1 ht3 hu3 HJ2
          generalize l'.take n.toNat = cc at *
          generalize l'.drop n.toNat = rest at *
          have hrl := HS.out.less HL8.out
          gi_wp2_with fail
          refine ⟨trivial, fun hd => (by cases hd), ?_⟩
          refine (callsIn_wide.2 (must_yes 260 _)).mono ?_
          rintro e W4 ⟨rfl, rfl⟩
          obtain ⟨hbb, hnb, hbv, _⟩ := HJb.out _ _ HJ3.out
          have c1 := hbb.cell 0
          obtain ⟨⟨cv, hck, hcv⟩, _, _⟩ := HT3.out
          obtain ⟨co, cw, rfl, _, _⟩ := hcv.1.shape
          have c2 := hck.l.cell 0
          simp only [List.getElem?_toArray, List.getElem?_cons_zero] at c1 c2
          obtain ⟨vo, vc, rfl, _, _⟩ := HV1.out.1.shape
          have hwr : IntKind.i64.wrap ((b.length : Int) - (rest.length : Int)) = (b.length : Int) - (rest.length : Int) := by rw [IntKind.wrap_i64]; omega
          have hYj := fun m => HY.out m l cc rest _ W3 HS.out HJ3.out HT3.out HV1.out
          obtain ⟨f0, t0, a0, b0, hy0, hR0⟩ := hYj 0
          have HRa := Lib.hid (fun m' : Nat => (show RoundIn Fence.wide m' Try.prog yl f0 t0 a0 b0 _ _ from ⟨hR0.1, fun c cs _ => hR0.2 c cs (room_wide _)⟩))
          clear hR0 hYj hbb hnb hbv hck hcv HV1
          gi_wp2_with fail
          refine ⟨fun hd => (by cases hd), (HRa.out _).mono ?_⟩
          rintro e W5 (⟨rfl, hj, ht⟩ | ⟨ch, rfl, hp⟩)
          · have HTJ := Lib.hid (And.intro ht hj)
            have hln := Lib.hid ht.len
            clear hj ht hy0 HRa c1 c2 hwr
            gi_wp2
            refine ⟨⟨rest, HTJ⟩, ?_⟩
            rw [HLn.out, hln.out]; exact hrl
          · have HP := Lib.hid hp
            clear hp hy0 HRa c1 c2
            gi_wp2
            exact ⟨rfl, .inr (.inr ⟨ch, rfl, HP.out⟩)⟩
  · have hv := bn_drop HBV.out hn0
    rw [if_neg hcn] at hv
    have HV := Lib.hid hv
    clear hv
    gi_wp2_with fail
    refine ⟨trivial, fun hd => (by cases hd), ?_⟩
    refine (callsIn_wide.2 (takerOf_any _ _)).mono ?_
    rintro e W1 ⟨rfl, hW1⟩
    have hT : Tk N W1 (W0.heap.size + 1) W0.heap.size (b.drop n0) ∧ J (b.drop n0) W1 := by
      have b1 := bel1 W0 (.cells #[.slice (some ⟨g, o + n0, none⟩) (b.length - n0) (c - n0)] 34)
      have k1 := blk_new W0 #[.slice (some ⟨g, o + n0, none⟩) (b.length - n0) (c - n0)] 34
      have b2 := bel1 (W0.alloc (.cells #[.slice (some ⟨g, o + n0, none⟩) (b.length - n0) (c - n0)] 34)) (.cells #[.pointer (some ⟨W0.heap.size, 0, none⟩)] 92)
      have k2 := blk_new (W0.alloc (.cells #[.slice (some ⟨g, o + n0, none⟩) (b.length - n0) (c - n0)] 34)) #[.pointer (some ⟨W0.heap.size, 0, none⟩)] 92
      rw [World.size_alloc] at k2
      subst hW1
      have bb := belT b1 b2
      exact ⟨⟨⟨_, ⟨k2, k1.below b2⟩, HV.out.keep (bb.mono hN)⟩, by omega, by omega⟩, HJa.out _ _ _ H0.out bb⟩
    have HT := Lib.hid hT
    rw [World.size_alloc]
    clear hW1 hT HV H0 c1 c2 HBV
    gi_wp2_with fail
    gi_loopw [9] (fun tv wr => ∃ l, Hid (Tk N wr (W0.heap.size + 1) W0.heap.size l ∧ J l wr)) (fun _ wr => lenAt W0.heap.size wr)
    case atStart => exact ⟨_, HT⟩
    case round =>
      obtain ⟨l, HI⟩ := hrel
      clear HT
      obtain ⟨hbb, hnb, hbv, hll⟩ := HJb.out _ _ HI.out.2
      clear hbb hnb
      have HLn := Lib.hid HI.out.1.len
      have HL8 : Hid (By8 l) := by
        obtain ⟨⟨v, _, h2⟩, _, _⟩ := HI.out.1
        exact Lib.hid h2.1.2
      have HC := Lib.hid (tnum_any HI.out.1 (by omega))
      clear hbv
      gi_wp2_with fail
      refine ⟨trivial, fun hd => (by cases hd), ?_⟩
      refine (callsIn_wide.2 HC.out).mono ?_
      rintro e W2 ⟨n, le, th, l', rfl, ht2, hu2, hr, hn, hnm, hl'⟩
      have HJ2 : Hid (J l W2) := by
        obtain ⟨⟨v, h1, h2⟩, _, _⟩ := HI.out.1
        exact Lib.hid (HJt.out _ _ _ v HI.out.2 h1.l hu2)
      have HT2 := Lib.hid ht2
      have HR := Lib.hid hr
      have HN2 := Lib.hid (And.intro hn (And.intro hnm hl'))
      clear hu2 ht2 hr hl' HC HI
      cases th with
      | false =>
        have HS : Hid (Stop l) := by
          rcases HR.out with ⟨_, h⟩ | ⟨h, _⟩ | ⟨h, _⟩
          · exact Lib.hid (.inl h)
          · cases h
          · cases h
        clear HR HT2 HN2 HLn hn hnm
        gi_wp2
        go_end0
        exact .inl ⟨_, l, rfl, HJ2.out, HS.out⟩
      | true =>
        have HC := Lib.hid (take1_any HT2.out n hn)
        gi_wp2_with fail
        refine ⟨trivial, fun hd => (by cases hd), ?_⟩
        refine (callsIn_wide.2 HC.out).mono ?_
        rintro e W3 (⟨hlt, rfl, rfl⟩ | ⟨hle, v1, rfl, hv1, ht3, hu3⟩)
        · have HS : Hid (Stop l) := by
            rcases HR.out with ⟨h, _⟩ | ⟨_, _, _, h3, h4⟩ | ⟨_, h, _⟩
            · cases h
            · rw [h3, h4] at hlt; exact Lib.hid (.inr hlt)
            · exact Lib.hid (.inl (by omega))
          clear HR HT2 HN2 HLn hn hnm hlt HC
          gi_wp2
          go_end0
          exact .inl ⟨_, l, rfl, HJ2.out, HS.out⟩
        have HJ3 : Hid (J l W3) := by
          obtain ⟨⟨v, h1, h2⟩, _, _⟩ := HT2.out
          exact Lib.hid (HJt.out _ _ _ v HJ2.out h1.l hu3)
        cases le with
        | false =>
          have HS : Hid ((tk 0 1 0 l).2 = -1) := by
            rcases HR.out with ⟨h, _⟩ | ⟨_, h, _⟩ | ⟨_, h, _⟩
            · cases h
            · cases h
            · exact Lib.hid h
          clear HR HT2 HN2 HLn hn hnm hle HC hv1 ht3 hu3 HJ2
          gi_wp2_with fail
          refine ⟨trivial, fun hd => (by cases hd), ?_⟩
          refine (callsIn_wide.2 (must_no 260 _)).mono ?_
          rintro e W4 ⟨rfl, rfl⟩
          gi_wp2
          exact ⟨rfl, .inr (.inl ⟨l, rfl, HJ3.out, HS.out⟩)⟩
        | true =>
          have HS : Hid (Stp l (l'.take n.toNat) (l'.drop n.toNat)) := by
            rcases HR.out with ⟨h, _⟩ | ⟨_, _, h2, h3, h4⟩ | ⟨_, _, h⟩
            · cases h
            · subst h3; subst h4; exact Lib.hid ⟨h2, hle, rfl, rfl⟩
            · rcases h with h | h
              · cases h
              · have := HN2.out.2.2
                rw [h] at hle
                have : maxI = 9223372036854775807 := rfl
                omega
          have HV1 := Lib.hid hv1
          have HT3 := Lib.hid ht3
          clear HR HT2 HN2 hn hnm hle HC hv1 ht3 hu3 HJ2
          generalize l'.take n.toNat = cc at *
          generalize l'.drop n.toNat = rest at *
          have hrl := HS.out.less HL8.out
          gi_wp2_with fail
          refine ⟨trivial, fun hd => (by cases hd), ?_⟩
          refine (callsIn_wide.2 (must_yes 260 _)).mono ?_
          rintro e W4 ⟨rfl, rfl⟩
          obtain ⟨hbb, hnb, hbv, _⟩ := HJb.out _ _ HJ3.out
          have c1 := hbb.cell 0
          obtain ⟨⟨cv, hck, hcv⟩, _, _⟩ := HT3.out
          obtain ⟨co, cw, rfl, _, _⟩ := hcv.1.shape
          have c2 := hck.l.cell 0
          simp only [List.getElem?_toArray, List.getElem?_cons_zero] at c1 c2
          obtain ⟨vo, vc, rfl, _, _⟩ := HV1.out.1.shape
          have hwr : IntKind.i64.wrap ((b.length : Int) - (rest.length : Int)) = (b.length : Int) - (rest.length : Int) := by rw [IntKind.wrap_i64]; omega
          have hYj := fun m => HY.out m l cc rest _ W3 HS.out HJ3.out HT3.out HV1.out
          obtain ⟨f0, t0, a0, b0, hy0, hR0⟩ := hYj 0
          have HRa := Lib.hid (fun m' : Nat => (show RoundIn Fence.wide m' Try.prog yl f0 t0 a0 b0 _ _ from ⟨hR0.1, fun c cs _ => hR0.2 c cs (room_wide _)⟩))
          clear hR0 hYj hbb hnb hbv hck hcv HV1
          gi_wp2_with fail
          refine ⟨fun hd => (by cases hd), (HRa.out _).mono ?_⟩
          rintro e W5 (⟨rfl, hj, ht⟩ | ⟨ch, rfl, hp⟩)
          · have HTJ := Lib.hid (And.intro ht hj)
            have hln := Lib.hid ht.len
            clear hj ht hy0 HRa c1 c2 hwr
            gi_wp2
            refine ⟨⟨rest, HTJ⟩, ?_⟩
            rw [HLn.out, hln.out]; exact hrl
          · have HP := Lib.hid hp
            clear hp hy0 HRa c1 c2
            gi_wp2
            exact ⟨rfl, .inr (.inr ⟨ch, rfl, HP.out⟩)⟩
end Go.Proofs.Ytjffclcjijpmiaa.LG
namespace Go.Proofs.Ytjffclcjijpmiaa.LG
open Go.RowKit
set_option maxHeartbeats 8000000
set_option maxRecDepth 100000
set_option linter.unusedVariables false
set_option linter.unusedSimpArgs false

/-- A head, and what is behind it. -/
def hdr (b : List Int) : Option (Int × Int × Int × List Int) :=
  if b.take 4 ≠ pmdr then none
  else match hn (b.drop 4) with
    | none => none
    | some (fr, b1) => match hn b1 with
      | none => none
      | some (se, b2) => match hn b2 with
        | none => none
        | some (mo, b3) => if headOk fr se mo = true then some (fr, se, mo, b3) else none
theorem dcL_hdr (b : List Int) : dcL b = match hdr b with
    | none => (Lg.zero, 0, 261)
    | some (fr, se, mo, b3) => match dec false 0 0 [] (b.length - b3.length) b3 with
      | none => (Lg.zero, 0, 260)
      | some (rs, wh, en, n) => (⟨fr, se, mo, rs, wh, en⟩, n, 0) := by
  unfold dcL hdr
  by_cases h4 : b.take 4 ≠ pmdr
  · rw [if_pos h4, if_pos h4]
  · rw [if_neg h4, if_neg h4]
    cases h1 : hn (b.drop 4) with
    | none => simp
    | some x => obtain ⟨fr, b1⟩ := x; cases h2 : hn b1 with
      | none => simp [h2]
      | some x => obtain ⟨se, b2⟩ := x; cases h3 : hn b2 with
        | none => simp [h2, h3]
        | some x =>
          obtain ⟨mo, b3⟩ := x
          simp only [h2, h3]
          by_cases hh : headOk fr se mo = true
          · simp only [hh, if_true]
            generalize dec false 0 0 [] (b.length - b3.length) b3 = x
            cases x <;> rfl
          · simp only [hh]; simp
/-- What a number that must be there tells. -/
def SN (l : List Int) (v : Int) (l' : List Int) : Prop := (0 < (tk 0 1 0 l).2 ∧ v = (tk 0 1 0 l).1 ∧ l' = l.drop (tk 0 1 0 l).2.toNat) ∨ ((tk 0 1 0 l).2 = -1 ∧ v = maxI)
theorem SN.hn {l l' : List Int} {v : Int} (h : SN l v l') : hn l = if 65536 < v then none else some (v, l') := by
  unfold LG.hn
  rcases h with ⟨h1, h2, h3⟩ | ⟨h1, h2⟩
  · rw [← h2, ← h3]
    by_cases h : 65536 < v
    · rw [if_pos (.inr h), if_pos h]
    · rw [if_neg (by omega), if_neg h]
  · rw [if_pos (.inl (by omega)), if_pos (by rw [h2]; decide)]
theorem hn_no {l : List Int} (h : (tk 0 1 0 l).2 ≤ 0) : hn l = none := by unfold hn; rw [if_pos (.inl h)]
theorem hdr_0 {b : List Int} (h : b.take 4 ≠ pmdr) : hdr b = none := by unfold hdr; rw [if_pos h]
theorem hdr_1 {b : List Int} (h1 : (tk 0 1 0 (b.drop 4)).2 ≤ 0) : hdr b = none := by
  unfold hdr; rw [hn_no h1]; simp
theorem hdr_2 {b l1 : List Int} {v1 : Int} (h1 : SN (b.drop 4) v1 l1) (h2 : (tk 0 1 0 l1).2 ≤ 0) : hdr b = none := by
  unfold hdr; rw [h1.hn]; by_cases c1 : 65536 < v1 <;> simp [c1, hn_no h2]
theorem hdr_3 {b l1 l2 : List Int} {v1 v2 : Int} (h1 : SN (b.drop 4) v1 l1) (h2 : SN l1 v2 l2) (h3 : (tk 0 1 0 l2).2 ≤ 0) : hdr b = none := by
  unfold hdr; rw [h1.hn]; by_cases c1 : 65536 < v1 <;> simp [c1, h2.hn]; by_cases c2 : 65536 < v2 <;> simp [c2, hn_no h3]
theorem hdr_4 {b l1 l2 l3 : List Int} {v1 v2 v3 : Int} (h0 : b.take 4 = pmdr) (h1 : SN (b.drop 4) v1 l1) (h2 : SN l1 v2 l2) (h3 : SN l2 v3 l3) : hdr b = if headOk v1 v2 v3 = true then some (v1, v2, v3, l3) else none := by
  unfold hdr
  rw [if_neg (by rw [h0]; simp), h1.hn]
  by_cases c1 : 65536 < v1
  · have : headOk v1 v2 v3 = false := by unfold headOk; simp; omega
    simp [c1, this]
  · simp only [c1, if_false, h2.hn]
    by_cases c2 : 65536 < v2
    · have : headOk v1 v2 v3 = false := by unfold headOk; simp; omega
      simp [c2, this]
    · simp only [c2, if_false, h3.hn]
      by_cases c3 : 65536 < v3
      · have : headOk v1 v2 v3 = false := by unfold headOk; simp; omega
        simp [c3, this]
      · simp [c3]
/-- What head leaves. -/
def HedP (b : List Int) (w : World) (e : Ending) (w' : World) : Prop :=
  Below w.heap.size w w' ∧ ((e = .panicked (chain 261) ∧ hdr b = none) ∨ (∃ fr se mo b3, e = .returned (.tuple #[.agg (lgc ⟨fr, se, mo, [], false, 0⟩ (.slice none 0 0)), .int .i64 ((b.length : Int) - (b3.length : Int))]) ∧ hdr b = some (fr, se, mo, b3) ∧ b3.length ≤ b.length))
/-- What head's walk knows. -/
structure HdI (N : Nat) (w : World) (A B L : Nat) (c : List Int) (W : World) : Prop where
  u : Below w.heap.size w W
  a : Blk W A #[.int .i64 0, .int .i64 0, .int .i64 0, .slice none 0 0, .bool false, .int .i64 0] 26
  t : Tk N W B L c
theorem HdI.step {N : Nat} {w : World} {A B L : Nat} {c c' : List Int} {W W' : World} (h : HdI N w A B L c W) (hL : w.heap.size ≤ L) (hAL : A ≠ L) (ht : Turned (fun k => k = L) W W') (hk : Tk N W' B L c') : HdI N w A B L c' W' :=
  ⟨h.u.trans (ht.below h.u.size (fun k hk => by omega)), h.a.turned ht hAL, hk⟩
theorem HdI.below {N : Nat} {w : World} {A B L : Nat} {c : List Int} {W W' : World} (h : HdI N w A B L c W) (hN : N ≤ w.heap.size) (hb : Below W.heap.size W W') : HdI N w A B L c W' := ⟨belT h.u hb, h.a.below hb, h.t.below (Nat.le_trans hN h.u.size) hb⟩
/-- In the loop: the numbers so far, the log's box, the row of its parts. -/
structure HeI (N : Nat) (w : World) (A B L LB PB : Nat) (b : List Int) (k : Nat) (W : World) : Prop where
  i : ∃ c x y z, HdI N w A B L c W ∧ Blk W LB #[.int .i64 x, .int .i64 y, .int .i64 z, .slice none 0 0, .bool false, .int .i64 0] 26 ∧ Blk W PB #[.pointer (some ⟨LB, 0, none⟩), .pointer (some ⟨LB, 1, none⟩), .pointer (some ⟨LB, 2, none⟩)] 94 ∧ c.length ≤ b.length ∧
    ((k = 0 ∧ x = 0 ∧ y = 0 ∧ z = 0 ∧ c = b.drop 4) ∨ (k = 1 ∧ y = 0 ∧ z = 0 ∧ SN (b.drop 4) x c) ∨ (k = 2 ∧ z = 0 ∧ ∃ l1, SN (b.drop 4) x l1 ∧ SN l1 y c) ∨ (k = 3 ∧ ∃ l1 l2, SN (b.drop 4) x l1 ∧ SN l1 y l2 ∧ SN l2 z c))
/-- A number is put into the log's box. -/
theorem HdI.put {N : Nat} {w : World} {A B L LB : Nat} {c : List Int} {W W' : World} {cs : Array Value} (h : HdI N w A B L c W) (hN : N ≤ w.heap.size) (hb : Blk W LB cs 26) (hw : w.heap.size ≤ LB) (hA : A ≠ LB) (ht : Turned (fun k => k = LB) W W') : HdI N w A B L c W' := by
  obtain ⟨v, hk, hv⟩ := h.t.t
  refine ⟨h.u.trans (ht.below h.u.size (fun k hk => by omega)), h.a.turned ht hA, ⟨⟨v, ⟨hk.b.turned ht ?_, hk.l.turned ht ?_⟩, hv.keep (ht.below (by have := h.u.size; omega) (fun k hk => by omega))⟩, h.t.nB, h.t.nL⟩⟩
  · rintro rfl
    have := hk.b.symm.trans hb
    simp at this
  · rintro rfl
    have := hk.l.symm.trans hb
    simp at this
/-- What is held while the end is walked. -/
structure HdF (B L LB : Nat) (cs : Array Value) (v : Value) (W : World) : Prop where
  l : Blk W LB cs 26
  k : Tkr W B L v
theorem HdF.stb (B L LB : Nat) (cs : Array Value) (v : Value) : Free.Stb (HdF B L LB cs v) := fun _ _ h hb => ⟨h.l.below hb, h.k.below hb⟩
theorem HdF.cells {B L LB : Nat} {x y z : Int} {v : Value} {W : World} (h : HdF B L LB #[.int .i64 x, .int .i64 y, .int .i64 z, .slice none 0 0, .bool false, .int .i64 0] v W) : W.cell? ⟨LB, 0, none⟩ = some (.int .i64 x) ∧ W.cell? ⟨LB, 1, none⟩ = some (.int .i64 y) ∧ W.cell? ⟨LB, 2, none⟩ = some (.int .i64 z) ∧ W.cell? ⟨LB, 3, none⟩ = some (.slice none 0 0) ∧ W.cell? ⟨LB, 4, none⟩ = some (.bool false) ∧ W.cell? ⟨LB, 5, none⟩ = some (.int .i64 0) ∧ W.cell? ⟨L, 0, none⟩ = some v := ⟨h.l.cell 0, h.l.cell 1, h.l.cell 2, h.l.cell 3, h.l.cell 4, h.l.cell 5, h.k.l.cell 0⟩
theorem head_P {w : World} {bv : Value} {b : List Int} (h : Bs w bv b) (hl : b.length ≤ 1000000) :
    Calls Try.prog 40 #[bv] w fun e w' => HedP b w e w' := by
  have HPn : Hid (hdr b = none → ∀ W, Below w.heap.size w W → HedP b w (.panicked (chain 261)) W) := Lib.hid (fun h W hb => ⟨hb, .inl ⟨rfl, h⟩⟩)
  have HPy : Hid (∀ fr se mo b3 W, Below w.heap.size w W → hdr b = some (fr, se, mo, b3) → b3.length ≤ b.length → HedP b w (.returned (.tuple #[.agg (lgc ⟨fr, se, mo, [], false, 0⟩ (.slice none 0 0)), .int .i64 ((b.length : Int) - (b3.length : Int))])) W) := Lib.hid (fun fr se mo b3 W hb hr hv => ⟨hb, .inr ⟨fr, se, mo, b3, rfl, hr, hv⟩⟩)
  have HBy := Lib.hid h.2
  obtain ⟨vo, vc, rfl, _, _⟩ := h.shape
  have kA := blk_new w #[.int .i64 0, .int .i64 0, .int .i64 0, .slice none 0 0, .bool false, .int .i64 0] 26
  have bA := bel1 w (.cells #[.int .i64 0, .int .i64 0, .int .i64 0, .slice none 0 0, .bool false, .int .i64 0] 26)
  have kL := blk_new (w.alloc (.cells #[.int .i64 0, .int .i64 0, .int .i64 0, .slice none 0 0, .bool false, .int .i64 0] 26)) #[.slice vo b.length vc] 34
  have bL := bel1 (w.alloc (.cells #[.int .i64 0, .int .i64 0, .int .i64 0, .slice none 0 0, .bool false, .int .i64 0] 26)) (.cells #[.slice vo b.length vc] 34)
  rw [World.size_alloc] at kL
  have HA := Lib.hid (kA.below bL)
  have HL := Lib.hid kL
  have HB := Lib.hid (belT bA bL)
  have HV := Lib.hid (h.bn.keep (belT bA bL))
  clear kA bA kL bL h
  go_enter Try.func40, Try.ntmps40
  go_wp2_with fail
  refine (takerOf_any _ _).mono ?_
  rintro e W1 ⟨rfl, hW1⟩
  have hsz : ((w.alloc (.cells #[.int .i64 0, .int .i64 0, .int .i64 0, .slice none 0 0, .bool false, .int .i64 0] 26)).alloc (.cells #[.slice vo b.length vc] 34)).heap.size = w.heap.size + 2 := by simp
  have HI : Hid (HdI w.heap.size w w.heap.size (w.heap.size + 2) (w.heap.size + 1) b W1) := by
    have hb := bel1 ((w.alloc (.cells #[.int .i64 0, .int .i64 0, .int .i64 0, .slice none 0 0, .bool false, .int .i64 0] 26)).alloc (.cells #[.slice vo b.length vc] 34)) (.cells #[.pointer (some ⟨w.heap.size + 1, 0, none⟩)] 92)
    have hk := blk_new ((w.alloc (.cells #[.int .i64 0, .int .i64 0, .int .i64 0, .slice none 0 0, .bool false, .int .i64 0] 26)).alloc (.cells #[.slice vo b.length vc] 34)) #[.pointer (some ⟨w.heap.size + 1, 0, none⟩)] 92
    rw [hsz] at hk
    subst hW1
    exact Lib.hid ⟨belT HB.out hb, HA.out.below hb, ⟨⟨_, ⟨hk, HL.out.below hb⟩, HV.out.keep (hb.mono (by rw [hsz]; omega))⟩, by omega, by omega⟩⟩
  rw [hsz]
  clear hW1 hsz HA HL HB HV
  have HS := Lib.hid (sure_any HI.out.t 4 261 (by omega))
  go_wp2_with fail
  refine HS.out.mono ?_
  rintro e W2 (⟨hlt, rfl, rfl⟩ | ⟨hle, v1, rfl, hv1, ht2, hu2⟩)
  · have HX := Lib.hid (HPn.out (hdr_0 (by intro e; have := congrArg List.length e; rw [List.length_take] at this; simp [pmdr] at this; omega)) _ HI.out.u)
    clear hlt HS HI HPn HPy
    go_wp2
    exact ⟨rfl, HX.out⟩
  replace HI := Lib.hid (HI.out.step (by omega) (by omega) hu2 ht2)
  have q1 := str_conv hv1.1
  have HQ := str_eq (xs := b.take 4) (ys := pmdr) (fun x hx => HBy.out x (List.mem_of_mem_take hx)) (by intro x hx; simp [pmdr] at hx; omega)
  obtain ⟨xo, xc, rfl, _, _⟩ := hv1.1.shape
  have h4 : (4 : Int).toNat = 4 := rfl
  rw [h4] at HI q1 hv1
  rw [List.length_take, Nat.min_eq_left (by omega)] at q1
  have hlen4 : (List.take (4 : Int).toNat b).length = 4 := by rw [h4, List.length_take]; omega
  rw [hlen4]
  clear hv1 ht2 hu2 HS hle hlen4 h4
  have hpm : (strOfNums pmdr).toList = [80, 77, 68, 82] := by rw [toList_strOf]; rfl
  rw [hpm] at HQ
  generalize strOfNums (b.take 4) = s1 at *
  have hll : (b.drop 4).length ≤ b.length := by rw [List.length_drop]; omega
  by_cases hp : b.take 4 = pmdr
  rotate_left
  · have hpd : decide (List.take 4 b = pmdr) = false := by simpa using hp
    rw [hpd] at HQ
    have HX := Lib.hid (HPn.out (hdr_0 hp) _ HI.out.u)
    clear HI HPn HPy hp hpd hpm
    go_wp2_with fail
    refine (must_no 261 _).mono ?_
    rintro e W3 ⟨rfl, rfl⟩
    go_wp2
    exact ⟨rfl, HX.out⟩
  have hpd : decide (List.take 4 b = pmdr) = true := by simpa using hp
  rw [hpd] at HQ
  replace hp := Lib.hid hp
  go_wp2_with fail
  refine (must_yes 261 _).mono ?_
  rintro e W3 ⟨rfl, rfl⟩
  clear HQ q1 hpd hpm
  have HN : Hid (w.heap.size ≤ W2.heap.size) := Lib.hid HI.out.u.size
  have HA0 : Hid (w.heap.size < W2.heap.size) := Lib.hid HI.out.a.lt
  have kB := (blk_new W2 #[.int .i64 0, .int .i64 0, .int .i64 0, .slice none 0 0, .bool false, .int .i64 0] 26).below (bel1 (W2.alloc (.cells #[.int .i64 0, .int .i64 0, .int .i64 0, .slice none 0 0, .bool false, .int .i64 0] 26)) (.cells #[.pointer (some ⟨W2.heap.size, 0, none⟩), .pointer (some ⟨W2.heap.size, 1, none⟩), .pointer (some ⟨W2.heap.size, 2, none⟩)] 94))
  have kP := blk_new (W2.alloc (.cells #[.int .i64 0, .int .i64 0, .int .i64 0, .slice none 0 0, .bool false, .int .i64 0] 26)) #[.pointer (some ⟨W2.heap.size, 0, none⟩), .pointer (some ⟨W2.heap.size, 1, none⟩), .pointer (some ⟨W2.heap.size, 2, none⟩)] 94
  have bb := belT (bel1 W2 (.cells #[.int .i64 0, .int .i64 0, .int .i64 0, .slice none 0 0, .bool false, .int .i64 0] 26)) (bel1 (W2.alloc (.cells #[.int .i64 0, .int .i64 0, .int .i64 0, .slice none 0 0, .bool false, .int .i64 0] 26)) (.cells #[.pointer (some ⟨W2.heap.size, 0, none⟩), .pointer (some ⟨W2.heap.size, 1, none⟩), .pointer (some ⟨W2.heap.size, 2, none⟩)] 94))
  rw [World.size_alloc] at kP
  have H0 : Hid (HeI w.heap.size w w.heap.size (w.heap.size + 2) (w.heap.size + 1) W2.heap.size (W2.heap.size + 1) b 0 ((W2.alloc (.cells #[.int .i64 0, .int .i64 0, .int .i64 0, .slice none 0 0, .bool false, .int .i64 0] 26)).alloc (.cells #[.pointer (some ⟨W2.heap.size, 0, none⟩), .pointer (some ⟨W2.heap.size, 1, none⟩), .pointer (some ⟨W2.heap.size, 2, none⟩)] 94))) :=
    Lib.hid ⟨b.drop 4, 0, 0, 0, HI.out.below (by omega) bb, kB, kP, hll, .inl ⟨rfl, rfl, rfl, rfl, rfl⟩⟩
  clear kB kP bb hll HI
  go_wp2_with fail
  obtain ⟨LB, hLB⟩ : ∃ LB, W2.heap.size = LB := ⟨_, rfl⟩
  rw [hLB] at H0 HN HA0 ⊢
  replace hLB := Lib.hid hLB
  have HAB : Hid (w.heap.size ≠ LB) := by
    exact Lib.hid (by have := HA0.out; omega)
  go_loopw [23] (fun iv wr => ∃ k : Nat, k ≤ 3 ∧ iv = .int .i64 (k : Int) ∧ Hid (HeI w.heap.size w w.heap.size (w.heap.size + 2) (w.heap.size + 1) LB (LB + 1) b k wr)) (fun iv _ => 4 - (intOf iv).toNat)
  case atStart => exact ⟨0, by omega, rfl, H0⟩
  case round =>
    obtain ⟨k, hk, rfl, HI⟩ := hrel
    clear H0
    obtain ⟨c, x, y, z, hi, hlb, hpb, hc, hor⟩ := HI.out
    replace hc := Lib.hid hc
    have HD := Lib.hid hi
    have HLB := Lib.hid hlb
    have HPB := Lib.hid hpb
    have f0 := hpb.cell 0
    have f1 := hpb.cell 1
    have f2 := hpb.cell 2
    simp only [List.getElem?_toArray, List.getElem?_cons_zero, List.getElem?_cons_succ] at f0 f1 f2
    have HS := Lib.hid (sureN_any HD.out.t (by have := hc.out; omega) 261)
    clear hi hlb hpb HI hk
    rcases hor with ⟨rfl, rfl, rfl, rfl, rfl⟩ | ⟨rfl, rfl, rfl, h1⟩ | ⟨rfl, rfl, l1, h1, h2⟩ | ⟨rfl, l1, l2, h1, h2, h3⟩
    · skip
      go_wp2_with fail
      refine HS.out.mono ?_
      rintro e W4 ⟨hu4, (⟨rfl, hle⟩ | ⟨v, l3, rfl, ht4, p0, p1, p2, hsn⟩)⟩
      · have HX := Lib.hid (HPn.out (hdr_1 hle) W4 (HD.out.u.trans (hu4.below HD.out.u.size (fun k hk => by omega))))
        clear hle hu4 HS HD HLB HPB HPn HPy f0 f1 f2
        go_wp2
        exact ⟨rfl, HX.out⟩
      have HD4 := Lib.hid (HD.out.step (by omega) (by omega) hu4 ht4)
      have hne : LB ≠ w.heap.size + 1 := by
        rintro rfl
        obtain ⟨v, hk, _⟩ := HD.out.t.t
        have := hk.l.symm.trans HLB.out
        simp at this
      have hne1 : LB + 1 ≠ w.heap.size + 1 := by have := HAB.out; omega
      have HL4 := Lib.hid (HLB.out.turned hu4 hne)
      have HP4 := Lib.hid (HPB.out.turned hu4 hne1)
      have HRel : Hid (∀ W, Turned (fun k => k = LB) W4 W → Blk W LB #[.int .i64 v, .int .i64 0, .int .i64 0, .slice none 0 0, .bool false, .int .i64 0] 26 → HeI w.heap.size w w.heap.size (w.heap.size + 2) (w.heap.size + 1) LB (LB + 1) b 1 W) := Lib.hid (fun W hT hB => ⟨l3, v, 0, 0, HD4.out.put (by omega) HL4.out HN.out HAB.out hT, hB, HP4.out.turned hT (by omega), by have := hc.out; omega, .inr (.inl ⟨rfl, rfl, rfl, hsn⟩)⟩)
      have c4 := HL4.out.cell 0
      have z4 := HL4.out.frozen 0
      simp only [List.getElem?_toArray, List.getElem?_cons_zero, List.getElem?_cons_succ] at c4
      have HQ := Lib.hid (HL4.out.setCell 0 (.int .i64 v))
      simp only [List.setIfInBounds_toArray, List.set_cons_zero, List.set_cons_succ] at HQ
      have hTT : Turned (fun k => k = LB) W4 (W4.setCell ⟨LB, 0, none⟩ (.int .i64 v)) := Turned.setCell (p := ⟨LB, 0, none⟩) (Turned.refl (fun k => k = LB) W4) (.inl rfl) _
      have HTT := Lib.hid hTT
      clear hTT hne hne1 hu4 ht4 hsn p0 p1 p2 HS HD HLB HPB f0 f1 f2 HL4 HP4 HD4
      go_wp2_with fail
      refine ⟨⟨1, by omega, rfl, Lib.hid (HRel.out _ ?_ ?_)⟩, ?_⟩
      all_goals first | exact HTT.out | exact HQ.out | exact HTT.out.drew | exact HQ.out.drew | (simp [intOf]; try omega) | skip
    · replace h1 := Lib.hid h1
      go_wp2_with fail
      refine HS.out.mono ?_
      rintro e W4 ⟨hu4, (⟨rfl, hle⟩ | ⟨v, l3, rfl, ht4, p0, p1, p2, hsn⟩)⟩
      · have HX := Lib.hid (HPn.out (hdr_2 h1.out hle) W4 (HD.out.u.trans (hu4.below HD.out.u.size (fun k hk => by omega))))
        clear hle hu4 HS HD HLB HPB HPn HPy f0 f1 f2
        go_wp2
        exact ⟨rfl, HX.out⟩
      have HD4 := Lib.hid (HD.out.step (by omega) (by omega) hu4 ht4)
      have hne : LB ≠ w.heap.size + 1 := by
        rintro rfl
        obtain ⟨v, hk, _⟩ := HD.out.t.t
        have := hk.l.symm.trans HLB.out
        simp at this
      have hne1 : LB + 1 ≠ w.heap.size + 1 := by have := HAB.out; omega
      have HL4 := Lib.hid (HLB.out.turned hu4 hne)
      have HP4 := Lib.hid (HPB.out.turned hu4 hne1)
      have HRel : Hid (∀ W, Turned (fun k => k = LB) W4 W → Blk W LB #[.int .i64 x, .int .i64 v, .int .i64 0, .slice none 0 0, .bool false, .int .i64 0] 26 → HeI w.heap.size w w.heap.size (w.heap.size + 2) (w.heap.size + 1) LB (LB + 1) b 2 W) := Lib.hid (fun W hT hB => ⟨l3, x, v, 0, HD4.out.put (by omega) HL4.out HN.out HAB.out hT, hB, HP4.out.turned hT (by omega), by have := hc.out; omega, .inr (.inr (.inl ⟨rfl, rfl, _, h1.out, hsn⟩))⟩)
      have c4 := HL4.out.cell 1
      have z4 := HL4.out.frozen 1
      simp only [List.getElem?_toArray, List.getElem?_cons_zero, List.getElem?_cons_succ] at c4
      have HQ := Lib.hid (HL4.out.setCell 1 (.int .i64 v))
      simp only [List.setIfInBounds_toArray, List.set_cons_zero, List.set_cons_succ] at HQ
      have hTT : Turned (fun k => k = LB) W4 (W4.setCell ⟨LB, 1, none⟩ (.int .i64 v)) := Turned.setCell (p := ⟨LB, 1, none⟩) (Turned.refl (fun k => k = LB) W4) (.inl rfl) _
      have HTT := Lib.hid hTT
      clear hTT hne hne1 hu4 ht4 hsn p0 p1 p2 HS HD HLB HPB f0 f1 f2 HL4 HP4 HD4
      go_wp2_with fail
      refine ⟨⟨2, by omega, rfl, Lib.hid (HRel.out _ ?_ ?_)⟩, ?_⟩
      all_goals first | exact HTT.out | exact HQ.out | exact HTT.out.drew | exact HQ.out.drew | (simp [intOf]; try omega) | skip
    · replace h1 := Lib.hid h1
      replace h2 := Lib.hid h2
      go_wp2_with fail
      refine HS.out.mono ?_
      rintro e W4 ⟨hu4, (⟨rfl, hle⟩ | ⟨v, l3, rfl, ht4, p0, p1, p2, hsn⟩)⟩
      · have HX := Lib.hid (HPn.out (hdr_3 h1.out h2.out hle) W4 (HD.out.u.trans (hu4.below HD.out.u.size (fun k hk => by omega))))
        clear hle hu4 HS HD HLB HPB HPn HPy f0 f1 f2
        go_wp2
        exact ⟨rfl, HX.out⟩
      have HD4 := Lib.hid (HD.out.step (by omega) (by omega) hu4 ht4)
      have hne : LB ≠ w.heap.size + 1 := by
        rintro rfl
        obtain ⟨v, hk, _⟩ := HD.out.t.t
        have := hk.l.symm.trans HLB.out
        simp at this
      have hne1 : LB + 1 ≠ w.heap.size + 1 := by have := HAB.out; omega
      have HL4 := Lib.hid (HLB.out.turned hu4 hne)
      have HP4 := Lib.hid (HPB.out.turned hu4 hne1)
      have HRel : Hid (∀ W, Turned (fun k => k = LB) W4 W → Blk W LB #[.int .i64 x, .int .i64 y, .int .i64 v, .slice none 0 0, .bool false, .int .i64 0] 26 → HeI w.heap.size w w.heap.size (w.heap.size + 2) (w.heap.size + 1) LB (LB + 1) b 3 W) := Lib.hid (fun W hT hB => ⟨l3, x, y, v, HD4.out.put (by omega) HL4.out HN.out HAB.out hT, hB, HP4.out.turned hT (by omega), by have := hc.out; omega, .inr (.inr (.inr ⟨rfl, _, _, h1.out, h2.out, hsn⟩))⟩)
      have c4 := HL4.out.cell 2
      have z4 := HL4.out.frozen 2
      simp only [List.getElem?_toArray, List.getElem?_cons_zero, List.getElem?_cons_succ] at c4
      have HQ := Lib.hid (HL4.out.setCell 2 (.int .i64 v))
      simp only [List.setIfInBounds_toArray, List.set_cons_zero, List.set_cons_succ] at HQ
      have hTT : Turned (fun k => k = LB) W4 (W4.setCell ⟨LB, 2, none⟩ (.int .i64 v)) := Turned.setCell (p := ⟨LB, 2, none⟩) (Turned.refl (fun k => k = LB) W4) (.inl rfl) _
      have HTT := Lib.hid hTT
      clear hTT hne hne1 hu4 ht4 hsn p0 p1 p2 HS HD HLB HPB f0 f1 f2 HL4 HP4 HD4
      go_wp2_with fail
      refine ⟨⟨3, by omega, rfl, Lib.hid (HRel.out _ ?_ ?_)⟩, ?_⟩
      all_goals first | exact HTT.out | exact HQ.out | exact HTT.out.drew | exact HQ.out.drew | (simp [intOf]; try omega) | skip
    · replace h1 := Lib.hid h1
      replace h2 := Lib.hid h2
      replace h3 := Lib.hid h3
      have f3 := HLB.out.cell 0
      have f4 := HLB.out.cell 1
      have f5 := HLB.out.cell 2
      have f6 := HLB.out.cell 3
      have f7 := HLB.out.cell 4
      have f8 := HLB.out.cell 5
      simp only [List.getElem?_toArray, List.getElem?_cons_zero, List.getElem?_cons_succ] at f3 f4 f5 f6 f7 f8
      have HH : Hid (hdr b = if headOk x y z = true then some (x, y, z, c) else none) := Lib.hid (hdr_4 hp.out h1.out h2.out h3.out)
      clear HS h1 h2 h3 f0 f1 f2
      go_wp2_with fail
      refine (mayBegin_any (l := ⟨x, y, z, [], false, 0⟩) (rv := .slice none 0 0)).mono ?_
      rintro e W5 ⟨rfl, hb5⟩
      simp only at hb5 ⊢
      have HD5 := Lib.hid (HD.out.below (by omega) hb5)
      have HL5 := Lib.hid (HLB.out.below hb5)
      clear hb5 f3 f4 f5 f6 f7 f8 HD HLB HPB
      cases hho : headOk x y z
      · have HX : Hid (HedP b w (.panicked (chain 261)) W5) := Lib.hid (HPn.out (by rw [HH.out, hho]; rfl) _ HD5.out.u)
        clear HH HPn HPy hho
        go_wp2_with fail
        refine (must_no 261 _).mono ?_
        rintro e W3 ⟨rfl, rfl⟩
        clear HD5 HL5
        go_wp2
        exact ⟨rfl, HX.out⟩
      have HX : Hid (∀ W, Below w.heap.size w W → HedP b w (.returned (.tuple #[.agg (lgc ⟨x, y, z, [], false, 0⟩ (.slice none 0 0)), .int .i64 ((b.length : Int) - (c.length : Int))])) W) := Lib.hid (fun W hW => HPy.out x y z c W hW (by rw [HH.out, hho]; rfl) hc.out)
      clear HH HPn HPy hho
      go_wp2_with fail
      refine (must_yes 261 _).mono ?_
      rintro e W3 ⟨rfl, rfl⟩
      obtain ⟨⟨cv, hck, hcv⟩, _, _⟩ := HD5.out.t
      obtain ⟨co, cc, rfl, _, _⟩ := hcv.1.shape
      have HCK := Lib.hid hck
      clear hck hcv
      have HS5 : Hid (HdF (w.heap.size + 2) (w.heap.size + 1) LB #[.int .i64 x, .int .i64 y, .int .i64 z, .slice none 0 0, .bool false, .int .i64 0] (.slice co c.length cc) W5.drew) := Lib.hid (HdF.stb _ _ _ _ _ _ _ ⟨HL5.out, HCK.out⟩ (Below.refl _ _).drew)
      have hR5 : Rf 26 6 W5.drew w.heap.size #[.int .i64 0, .int .i64 0, .int .i64 0, .slice none 0 0, .bool false, .int .i64 0] := ⟨HD5.out.a.drew, rfl, by simp [Value.oneCell']⟩
      have hB5 : Below w.heap.size w W5.drew := HD5.out.u.drew
      have HLA := Lib.hid HD5.out.a.lt
      have hAk := HCK.out.l.lt
      clear HD5 HL5 HCK
      go_wp2_with fail
      refine Free.any (HdF (w.heap.size + 2) (w.heap.size + 1) LB #[.int .i64 x, .int .i64 y, .int .i64 z, .slice none 0 0, .bool false, .int .i64 0] (.slice co c.length cc)) (HdF.stb _ _ _ _ _) HS5.out (fun st => ?_)
      refine Free.tk 0 (some 35) ?_ (hy := by intro W hW; obtain ⟨q0, q1, q2, q3, q4, q5, q6⟩ := hW.cells; go_simp; try with_reducible rfl)
      refine Free.tk 1 (some 36) ?_ (hy := by intro W hW; go_simp; try with_reducible rfl)
      refine Free.tk 2 (some 37) ?_ (hy := by intro W hW; go_simp; try with_reducible rfl)
      refine Free.tk 3 (some 38) ?_ (hy := by intro W hW; obtain ⟨q0, q1, q2, q3, q4, q5, q6⟩ := hW.cells; go_simp; try with_reducible rfl)
      refine Free.tk 4 (some 39) ?_ (hy := by intro W hW; go_simp; try with_reducible rfl)
      refine Free.tk 5 (some 40) ?_ (hy := by intro W hW; go_simp; try with_reducible rfl)
      have hok : Ok1 6 #[.int .i64 x, .int .i64 y, .int .i64 z, .slice none 0 0, .bool false, .int .i64 0] := ⟨rfl, by simp [Value.oneCell']⟩
      refine Free.one 6 (fun W6 hb6 hW6 => ?_)
      refine o_store_R (d := none) rfl #[.int .i64 x, .int .i64 y, .int .i64 z, .slice none 0 0, .bool false, .int .i64 0] rowLog (hR5.below hb6) hok rfl rfl rfl ?_
      have hR7 := (hR5.below hb6).set hok
      have hT7 := turned_setRow W6 w.heap.size #[.int .i64 x, .int .i64 y, .int .i64 z, .slice none 0 0, .bool false, .int .i64 0]
      have hS7 : HdF (w.heap.size + 2) (w.heap.size + 1) LB #[.int .i64 x, .int .i64 y, .int .i64 z, .slice none 0 0, .bool false, .int .i64 0] (.slice co c.length cc) (W6.setRow w.heap.size #[.int .i64 x, .int .i64 y, .int .i64 z, .slice none 0 0, .bool false, .int .i64 0]) := ⟨hW6.l.turned hT7 (by have := HAB.out; omega), ⟨hW6.k.b.turned hT7 (by omega), hW6.k.l.turned hT7 (by omega)⟩⟩
      have hB7 : Below w.heap.size w (W6.setRow w.heap.size #[.int .i64 x, .int .i64 y, .int .i64 z, .slice none 0 0, .bool false, .int .i64 0]) := (hB5.trans (hb6.mono hB5.size)).trans (hT7.below (by have := hB5.size; have := hb6.size; omega) (fun k hk => by omega))
      refine ⟨hS7, ?_⟩
      generalize W6.setRow w.heap.size #[.int .i64 x, .int .i64 y, .int .i64 z, .slice none 0 0, .bool false, .int .i64 0] = W7 at *
      clear hb6 hW6 hR5 hT7 HS5
      refine Free.tk 7 (some 3) ?_ (hy := by intro W hW; go_simp; try with_reducible rfl)
      refine Free.done (fun W8 hb8 hW8 => ?_)
      have HR8 := Lib.hid (hR7.below hb8)
      have HX8 := Lib.hid (HX.out _ (hB7.trans (hb8.mono hB7.size)))
      clear hb8 hW8 hS7 hR7 hB7
      try go_wp2_with fail
      refine bodyPost_ret (res_R_tmp rowLog (fn := Try.f40) rfl _ HR8.out rfl) rfl ?_
      have hwr : IntKind.i64.wrap ((b.length : Int) - (c.length : Int)) = (b.length : Int) - (c.length : Int) := by
        have h0 := hc.out
        rw [IntKind.wrap_i64]; omega
      show HedP b w (.returned (.tuple #[.agg #[.int .i64 x, .int .i64 y, .int .i64 z, .slice none 0 0, .bool false, .int .i64 0], .int .i64 (IntKind.i64.wrap ((b.length : Int) - (c.length : Int)))])) W8
      rw [hwr]
      exact HX8.out
end Go.Proofs.Ytjffclcjijpmiaa.LG

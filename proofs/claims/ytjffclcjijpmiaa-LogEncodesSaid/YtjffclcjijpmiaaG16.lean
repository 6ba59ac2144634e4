/-
  Layer 16: may a log begin; its records, gone over: walks. Layer 16: when the program's check lets a log be. No walk.
-/
import Derived.Test.YtjffclcjijpmiaaG15
import Derived.Test.YtjffclcjijpmiaaG12
import Derived.Test.YtjffclcjijpmiaaG13
import Derived.LoopIn
import Derived.WalkMore
import Derived.TacticsIn
set_option linter.unusedVariables false
set_option linter.unusedSimpArgs false
namespace Go.Proofs.Ytjffclcjijpmiaa.LG
open Go.RowKit
set_option maxHeartbeats 8000000
set_option maxRecDepth 100000
set_option linter.unusedVariables false
set_option linter.unusedSimpArgs false

theorem mayBegin_any {w : World} {l : Lg} {rv : Value} : Calls Try.prog 49 #[.agg (lgc l rv)] w fun e w' => e = .returned (.bool (headOk l.fr l.se l.mo)) ∧ Below w.heap.size w w' := by
  obtain ⟨fr, se, mo, rs, wh, en⟩ := l
  obtain ⟨d1, h1⟩ : ∃ d, Hid (d = decide (1 ≤ fr ∧ fr ≤ 32)) := ⟨_, Lib.hid rfl⟩
  obtain ⟨d2, h2⟩ : ∃ d, Hid (d = decide (1 ≤ se ∧ se ≤ 32)) := ⟨_, Lib.hid rfl⟩
  obtain ⟨d3, h3⟩ : ∃ d, Hid (d = decide (1 ≤ mo ∧ mo ≤ 65536)) := ⟨_, Lib.hid rfl⟩
  have hh : headOk fr se mo = (d1 && (d2 && d3)) := by rw [h1.out, h2.out, h3.out]; unfold headOk; rw [Bool.eq_iff_iff]; simp
  simp only
  rw [hh]
  clear hh
  obtain ⟨W0, hW0⟩ : ∃ W0, ((((w.alloc (.cells #[.int .i64 fr, .int .i64 se, .int .i64 mo, rv, .bool wh, .int .i64 en] 26)).alloc (.cells #[.int .i64 1, .int .i64 32] 98)).alloc (.cells #[.int .i64 1, .int .i64 32] 98)).alloc (.cells #[.int .i64 1, .int .i64 65536] 98)) = W0 := ⟨_, rfl⟩
  have HC : Hid (∀ W, Below W0.heap.size W0 W → W.cell? ⟨w.heap.size, 1, none⟩ = some (.int .i64 se) ∧ W.cell? ⟨w.heap.size, 2, none⟩ = some (.int .i64 mo) ∧ W.cell? ⟨w.heap.size + 1 + 1, 0, none⟩ = some (.int .i64 1) ∧ W.cell? ⟨w.heap.size + 1 + 1, 1, none⟩ = some (.int .i64 32) ∧ W.cell? ⟨w.heap.size + 1 + 1 + 1, 0, none⟩ = some (.int .i64 1) ∧ W.cell? ⟨w.heap.size + 1 + 1 + 1, 1, none⟩ = some (.int .i64 65536)) := by
    subst hW0
    refine Lib.hid (fun W hb => ?_)
    have k1 := (((blk_new w #[.int .i64 fr, .int .i64 se, .int .i64 mo, rv, .bool wh, .int .i64 en] 26).alloc (.cells #[.int .i64 1, .int .i64 32] 98)).alloc (.cells #[.int .i64 1, .int .i64 32] 98)).alloc (.cells #[.int .i64 1, .int .i64 65536] 98)
    have k2 := (blk_new ((w.alloc (.cells #[.int .i64 fr, .int .i64 se, .int .i64 mo, rv, .bool wh, .int .i64 en] 26)).alloc (.cells #[.int .i64 1, .int .i64 32] 98)) #[.int .i64 1, .int .i64 32] 98).alloc (.cells #[.int .i64 1, .int .i64 65536] 98)
    have k3 := blk_new (((w.alloc (.cells #[.int .i64 fr, .int .i64 se, .int .i64 mo, rv, .bool wh, .int .i64 en] 26)).alloc (.cells #[.int .i64 1, .int .i64 32] 98)).alloc (.cells #[.int .i64 1, .int .i64 32] 98)) #[.int .i64 1, .int .i64 65536] 98
    simp only [World.size_alloc] at k2 k3
    exact ⟨(k1.below hb).cell 1, (k1.below hb).cell 2, (k2.below hb).cell 0, (k2.below hb).cell 1, (k3.below hb).cell 0, (k3.below hb).cell 1⟩
  have HB : Hid (Below w.heap.size w W0) := by subst hW0; exact Lib.hid (belT (belT (belT (bel1 _ _) (bel1 _ _)) (bel1 _ _)) (bel1 _ _))
  replace hW0 := Lib.hid hW0
  have e1 := has_any 1 32 fr W0
  have e2 := fun W => has_any 1 32 se W
  have e3 := fun W => has_any 1 65536 mo W
  rw [← h1.out] at e1
  simp only [← h2.out] at e2
  simp only [← h3.out] at e3
  replace e1 := Lib.hid e1
  replace e2 := Lib.hid e2
  replace e3 := Lib.hid e3
  clear h1 h2 h3
  simp only [lgc]
  go_enter Try.func49, Try.ntmps49
  go_wp2_with fail
  rw [hW0.out]
  refine e1.out.mono ?_
  rintro e w1 ⟨rfl, b1⟩
  have HB1 := Lib.hid (belT HB.out b1)
  have HC1 := Lib.hid b1
  clear b1 e1
  cases d1
  · go_wp2
    go_ret
    exact ⟨rfl, HB1.out⟩
  · obtain ⟨y1, y2, y3, y4, y5, y6⟩ := HC.out _ HC1.out
    go_wp2_with fail
    refine (e2.out _).mono ?_
    rintro e w2 ⟨rfl, b2⟩
    have HB2 := Lib.hid (belT HB1.out b2)
    have HC2 := Lib.hid (belT HC1.out b2)
    clear b2 e2 y1 y2 y3 y4 y5 y6
    cases d2
    · go_wp2
      go_ret
      exact ⟨rfl, HB2.out⟩
    · obtain ⟨y1, y2, y3, y4, y5, y6⟩ := HC.out _ HC2.out
      go_wp2_with fail
      refine (e3.out _).mono ?_
      rintro e w3 ⟨rfl, b3⟩
      have HB3 := Lib.hid (belT HB2.out b3)
      clear b3 e3 y1 y2 y3 y4 y5 y6
      go_wp2
      go_ret
      exact ⟨rfl, HB3.out⟩
theorem rows_any {w : World} {l : Lg} {rv : Value} : Calls Try.prog 34 #[.agg (lgc l rv)] w fun e w' => e = .returned (.func (.func 53) #[] #[.pointer (some ⟨w.heap.size, 0, none⟩)]) ∧ w' = w.alloc (.cells (lgc l rv) 26) := by
  have hmf : ∀ (fn : Fn) (first cap : Array Value) (w : World), (Instr.makeFunc fn first cap).run Try.prog w = .ok (.func fn first cap) w := fun _ _ _ _ => rfl
  simp only [lgc]
  go_enter Try.func34, Try.ntmps34
  go_wp2
  go_ret
  exact ⟨rfl, rfl⟩
/-- The records that are gone over. -/
def rws (l : Lg) : List Rc := l.rs ++ (if l.wh then [endR l.en] else [])
theorem rws_at {l : Lg} {k : Nat} {r : Rc} (h : l.rs[k]? = some r) : rws l = l.rs.take k ++ r :: (l.rs.drop (k + 1) ++ (if l.wh then [endR l.en] else [])) := by
  obtain ⟨h1, h2⟩ := List.getElem?_eq_some_iff.1 h
  unfold rws
  conv => lhs; rw [← List.take_append_drop k l.rs]
  rw [List.drop_eq_getElem_cons h1, h2, List.append_assoc]; rfl
theorem rows1_any {n yl R : Nat} {l : Lg} {rv : Value} {W0 : World} (J : List Rc → World → Prop) (Jp : List PanicEntry → World → Prop)
    (hJ : ∀ pre W, J pre W → Blk W R (lgc l rv) 26 ∧ RsIn W rv l.rs) (hJa : ∀ pre W W', J pre W → Below W.heap.size W W' → J pre W')
    (hy : ∀ m pre r rest bv W1, rws l = pre ++ r :: rest → J pre W1 → Bs W1 bv r.bs → YieldAt Fence.wide m Try.prog yl #[.agg (rcl r bv).toArray] W1 fun e W' => (e = .returned (.bool true) ∧ J (pre ++ [r]) W') ∨ (∃ ch, e = .panicked ch ∧ Jp ch W'))
    (h0 : J [] W0) : CallsIn Fence.wide n Try.prog 53 (#[.func (.yield yl) #[] #[]] ++ #[.pointer (some ⟨R, 0, none⟩)]) W0 fun e W' => (∃ v, e = .returned v ∧ J (rws l) W') ∨ (∃ ch, e = .panicked ch ∧ Jp ch W') := by
  obtain ⟨fr, se, mo, rs, wh, en⟩ := l
  have HJ := Lib.hid hJ
  have HJa := Lib.hid hJa
  have HY := Lib.hid hy
  have H0 := Lib.hid h0
  obtain ⟨hb, hr⟩ := hJ _ _ h0
  obtain ⟨ao, ca, rfl, _, hla⟩ := hr.shape
  unfold maxLen at hla
  have c2 := hb.cell 3
  simp only [lgc, List.getElem?_toArray, List.getElem?_cons_zero, List.getElem?_cons_succ] at c2
  clear hJ hJa hy h0 hb hr
  refine callsIn_of_wp Try.func53 rfl trivial ?_ rfl
  simp only [Try.ntmps53, List.size_toArray, List.length_cons, List.length_nil, Nat.reduceAdd, Nat.reduceSub, Array.replicate_succ, Array.replicate_zero, List.push_toArray, List.append_toArray, List.nil_append, List.cons_append]
  gi_wp2
  clear c2
  gi_loopw [8] (fun i wr => ∃ j : Nat, j ≤ rs.length ∧ i = .int .i64 j ∧ Hid (J (rs.take j) wr)) (fun i _ => rs.length + 1 - (intOf i).toNat)
  case atStart => exact ⟨0, by omega, rfl, H0.out⟩
  case round =>
    obtain ⟨j, hj, rfl, HI⟩ := hrel
    by_cases hlt : j < rs.length
    · have hi : (j : Int) < (rs.length : Int) := by omega
      obtain ⟨hb, hr⟩ := HJ.out _ _ HI.out
      obtain ⟨g1, o1, c1, x, bv, e1, l1, hx, hxb, q⟩ := hr.at_ hlt
      simp only [Value.slice.injEq] at e1
      obtain ⟨rfl, _, rfl⟩ := e1
      obtain ⟨q0, q1, q2, q3⟩ := rng4 q
      obtain ⟨bo, cb, rfl, _, hlb⟩ := hxb.shape
      have hbw := bel1 wr (.cells #[.int .i64 x.tm, .int .i64 x.kind, .int .i64 x.n, .slice bo x.bs.length cb] 42)
      have hYj := fun m => HY.out m _ x _ (.slice bo x.bs.length cb) (wr.alloc (.cells #[.int .i64 x.tm, .int .i64 x.kind, .int .i64 x.n, .slice bo x.bs.length cb] 42)) (rws_at (l := ⟨fr, se, mo, rs, wh, en⟩) l1) (HJa.out _ _ _ HI.out hbw) (hxb.below hbw)
      have HN : Hid (rs.take j ++ [x] = rs.take (j + 1)) := Lib.hid (by rw [List.take_add_one, l1]; rfl)
      obtain ⟨f0, t0, a0, b0, hy0, hR0⟩ := hYj 0
      have HRa := Lib.hid (fun m' : Nat => (show RoundIn Fence.wide m' Try.prog yl f0 t0 a0 b0 _ _ from ⟨hR0.1, fun c cs _ => hR0.2 c cs (room_wide _)⟩))
      simp only [rcl] at hy0
      clear hR0 hYj hb hr q hx hxb l1 hbw hlb
      gi_wp2
      refine ⟨fun hd => (by cases hd), (HRa.out _).mono ?_⟩
      rintro e W2 (⟨rfl, hj2⟩ | ⟨ch, rfl, hp⟩)
      · rw [HN.out] at hj2
        have HJ2 := Lib.hid hj2
        clear hj2 hy0 HRa q0 q1 q2 q3
        gi_wp2
        refine ⟨⟨j + 1, by omega, by go_num, HJ2.out⟩, ?_⟩
        simp [intOf]; omega
      · have HP := Lib.hid hp
        clear hp hy0 HRa q0 q1 q2 q3
        gi_wp2
        exact ⟨rfl, .inr ⟨ch, rfl, HP.out⟩⟩
    · obtain rfl : j = rs.length := by omega
      have HI2 : Hid (J rs wr) := by have := HI.out; rw [List.take_length] at this; exact Lib.hid this
      obtain ⟨hb, hr⟩ := HJ.out _ _ HI2.out
      have c3 := hb.cell 4
      have c4 := hb.cell 5
      simp only [lgc, List.getElem?_toArray, List.getElem?_cons_zero, List.getElem?_cons_succ] at c3 c4
      clear hb hr
      cases wh
      · have HE : Hid (rws ⟨fr, se, mo, rs, false, en⟩ = rs) := Lib.hid (by unfold rws; simp)
        gi_wp2
        go_end0
        exact .inl ⟨_, rfl, by rw [HE.out]; exact HI2.out⟩
      · have HE : Hid (rws ⟨fr, se, mo, rs, true, en⟩ = rs ++ [endR en]) := Lib.hid (by unfold rws; simp)
        have hYj := fun m => HY.out m rs (endR en) [] (.slice none 0 0) wr HE.out HI2.out bs_none
        obtain ⟨f0, t0, a0, b0, hy0, hR0⟩ := hYj 0
        have HRa := Lib.hid (fun m' : Nat => (show RoundIn Fence.wide m' Try.prog yl f0 t0 a0 b0 _ _ from ⟨hR0.1, fun c cs _ => hR0.2 c cs (room_wide _)⟩))
        simp only [rcl, endR] at hy0
        clear hR0 hYj
        gi_wp2
        refine ⟨fun hd => (by cases hd), (HRa.out _).mono ?_⟩
        rintro e W2 (⟨rfl, hj2⟩ | ⟨ch, rfl, hp⟩)
        · have HJ2 := Lib.hid hj2
          clear hj2 hy0 HRa
          gi_wp2
          go_end0
          exact .inl ⟨_, rfl, by rw [HE.out]; exact HJ2.out⟩
        · have HP := Lib.hid hp
          clear hp hy0 HRa
          gi_wp2
          exact ⟨rfl, .inr ⟨ch, rfl, HP.out⟩⟩
end Go.Proofs.Ytjffclcjijpmiaa.LG
namespace Go.Proofs.Ytjffclcjijpmiaa.LG
set_option linter.unusedVariables false
/-- Records one behind the other, by next. -/
def rsGo : Int → Bool → List Rc → Option (Int × Bool)
  | a, e, [] => some (a, e)
  | a, e, r :: t => if nextOk a e r = true then rsGo r.tm (decide (r.kind = 8)) t else none
theorem rsGo_snoc : ∀ (l : List Rc) (a : Int) (e : Bool) (r : Rc), rsGo a e (l ++ [r]) = match rsGo a e l with | some (a', e') => if nextOk a' e' r = true then some (r.tm, decide (r.kind = 8)) else none | none => none
  | [], a, e, r => rfl
  | x :: t, a, e, r => by
    show (if nextOk a e x = true then rsGo x.tm (decide (x.kind = 8)) (t ++ [r]) else none) = _
    by_cases h : nextOk a e x = true
    · rw [if_pos h, rsGo_snoc t]; simp only [rsGo, if_pos h]
    · rw [if_neg h]; simp only [rsGo, if_neg h]
theorem rsGo_none : ∀ (l : List Rc) (a : Int) (e : Bool) (l2 : List Rc), rsGo a e l = none → rsGo a e (l ++ l2) = none
  | [], a, e, l2, h => by cases h
  | x :: t, a, e, l2, h => by
    show (if nextOk a e x = true then rsGo x.tm (decide (x.kind = 8)) (t ++ l2) else none) = none
    by_cases hn : nextOk a e x = true
    · rw [if_pos hn]
      simp only [rsGo, if_pos hn] at h
      exact rsGo_none t _ _ l2 h
    · rw [if_neg hn]
def goOk (o : Option (Int × Bool)) (wh : Bool) : Bool := match o with | some (_, e) => e == wh | none => false
/-- What check finds. -/
def chk (l : Lg) : Bool := headOk l.fr l.se l.mo && (l.wh || decide (l.en = 0)) && goOk (rsGo 0 false (rws l)) l.wh
theorem nextOk_right {a : Int} {r : Rc} (h0 : 0 ≤ a) (h8 : r.kind ≠ 8) : nextOk a false r = (r.right && decide (a ≤ r.tm)) := by
  unfold nextOk kOk Rc.right
  rw [Bool.eq_iff_iff]
  simp only [Bool.and_eq_true, Bool.or_eq_true, decide_eq_true_eq, Bool.not_false, true_and]
  constructor
  · rintro ⟨⟨h1, h2⟩, h3⟩
    rcases h1 with h1 | h1
    · exact ⟨⟨⟨by omega, h3⟩, h1⟩, h2⟩
    · exact absurd h1.1.1 h8
  · rintro ⟨⟨⟨h1, h3⟩, h4⟩, h2⟩
    exact ⟨⟨.inl h4, h2⟩, h3⟩
theorem rOk8 {n : Int} {b : Nat} : rOk 8 n b = false := by simp [rOk]
theorem goOk_rs : ∀ (rs : List Rc) (a en : Int) (wh : Bool), 0 ≤ a → goOk (rsGo a false (rs ++ if wh then [endR en] else [])) wh = (rsOk a rs && (!wh || (decide (lastOf a rs ≤ en) && decide (en ≤ two62))))
  | [], a, en, wh, h => by
    cases wh
    · simp [rsGo, goOk, rsOk]
    · show goOk (if nextOk a false (endR en) = true then some (en, decide ((8 : Int) = 8)) else none) true = (true && (false || (decide (a ≤ en) && decide (en ≤ two62))))
      have : nextOk a false (endR en) = (decide (a ≤ en) && decide (en ≤ two62)) := by
        unfold nextOk kOk endR
        rw [Bool.eq_iff_iff]; simp
      rw [this]
      cases (decide (a ≤ en) && decide (en ≤ two62)) <;> simp [goOk]
  | r :: t, a, en, wh, h => by
    show goOk (if nextOk a false r = true then rsGo r.tm (decide (r.kind = 8)) (t ++ if wh then [endR en] else []) else none) wh = (r.right && decide (a ≤ r.tm) && rsOk r.tm t && (!wh || (decide (lastOf r.tm t ≤ en) && decide (en ≤ two62))))
    by_cases h8 : r.kind = 8
    · have hr : r.right = false := by unfold Rc.right; rw [h8, rOk8]; simp
      rw [hr]
      have hx : decide (r.kind = 8) = true := by simp [h8]
      rw [hx]
      have e1 : ∀ (x : Rc) (b : Int), nextOk b true x = false := fun x b => by unfold nextOk; simp
      have : goOk (rsGo r.tm true (t ++ if wh then [endR en] else [])) wh = false := by
        cases t with
        | nil => cases wh <;> simp [rsGo, goOk, e1]
        | cons x t => simp [rsGo, goOk, e1]
      by_cases hn : nextOk a false r = true
      · rw [if_pos hn, this]; simp
      · rw [if_neg hn]; simp [goOk]
    · rw [nextOk_right h h8]
      have hx : decide (r.kind = 8) = false := by simp [h8]
      rw [hx]
      by_cases hn : (r.right && decide (a ≤ r.tm)) = true
      · rw [if_pos hn]
        have ht : 0 ≤ r.tm := by simp at hn; omega
        rw [goOk_rs t r.tm en wh ht, hn, Bool.true_and]
      · rw [if_neg hn]
        have : (r.right && decide (a ≤ r.tm)) = false := by simpa using hn
        rw [this]; simp [goOk]
theorem last_pos : ∀ (rs : List Rc) (a : Int), rsOk a rs = true → a ≤ lastOf a rs
  | [], a, _ => Int.le_refl _
  | r :: t, a, h => by
    simp only [rsOk, Bool.and_eq_true, decide_eq_true_eq] at h
    have := last_pos t r.tm h.2
    have e := h.1.2
    show a ≤ lastOf r.tm t
    omega
/-- The program's check is the document's. -/
theorem chk_ok (l : Lg) : chk l = l.ok := by
  unfold chk Lg.ok rws
  rw [goOk_rs l.rs 0 l.en l.wh (by omega), Bool.eq_iff_iff]
  have h62 : two62 = 4611686018427387904 := rfl
  simp only [Bool.and_eq_true, Bool.or_eq_true, decide_eq_true_eq, Bool.not_eq_true']
  constructor
  · rintro ⟨⟨h1, h2⟩, h3, h4⟩
    have := last_pos _ _ h3
    refine ⟨⟨⟨⟨h1, ?_⟩, h2⟩, h3⟩, ?_⟩
    · rcases h4 with h4 | h4
      · rcases h2 with h2 | h2
        · rw [h4] at h2; cases h2
        · omega
      · omega
    · rcases h4 with h4 | h4
      · exact .inl h4
      · exact .inr h4.1
  · rintro ⟨⟨⟨⟨h1, h5⟩, h2⟩, h3⟩, h4⟩
    refine ⟨⟨h1, h2⟩, h3, ?_⟩
    rcases h4 with h4 | h4
    · exact .inl h4
    · exact .inr ⟨h4, h5.2⟩
end Go.Proofs.Ytjffclcjijpmiaa.LG

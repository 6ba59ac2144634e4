/-
  Layer 3: the walk of ShadowFew.
-/
import Derived.Test.YtepmndadbikijaaLaws2
import Derived.Test.YtepmndadbikijaaOverF
namespace Go.Proofs.Ytepmndadbikijaa
open Go.RowKit Go.Shelf
set_option maxHeartbeats 1000000
set_option linter.unusedSimpArgs false
attribute [local go_sem] Oper.semAt_some

theorem At.drew {w W : World} {S P : Nat} {l : List Int} (h : At w S P l W) : At w S P l W.drew := h.below (Below.refl _ _).drew
/-- The cells of a call. -/
def Sc (A : Addr) (s : Step4) (W : World) : Prop :=
  W.cell? A = some (.int .i64 s.k) ∧ W.cell? ⟨A.block, A.off + 1, none⟩ = some (.int .i64 s.a) ∧ W.cell? ⟨A.block, A.off + 2, none⟩ = some (.int .i64 s.b) ∧ W.cell? ⟨A.block, A.off + 3, none⟩ = some (.int .u32 s.x)
theorem Sc.below {w W : World} {a : Addr} {i : Nat} {s : Step4} (hb : Below w.heap.size w W) (h0 : w.cell? (a.add (i * 4)) = some (.int .i64 s.k)) (h1 : w.cell? (a.add (i * 4 + 1)) = some (.int .i64 s.a)) (h2 : w.cell? (a.add (i * 4 + 2)) = some (.int .i64 s.b)) (h3 : w.cell? (a.add (i * 4 + 3)) = some (.int .u32 s.x)) : Sc (a.add (i * 4)) s W :=
  ⟨below_cell hb h0, at_add (by decide) (below_cell hb h1), at_add (by decide) (below_cell hb h2), at_add (by decide) (below_cell hb h3)⟩
/-- The array of the pages that were seen. -/
def flags (f : Nat → Bool) : Array Value := ((List.range 33).map fun p => Value.bool (f p)).toArray
theorem flags_none : flags (fun _ => false) = #[.bool false, .bool false, .bool false, .bool false, .bool false, .bool false, .bool false, .bool false, .bool false, .bool false, .bool false, .bool false, .bool false, .bool false, .bool false, .bool false, .bool false, .bool false, .bool false, .bool false, .bool false, .bool false, .bool false, .bool false, .bool false, .bool false, .bool false, .bool false, .bool false, .bool false, .bool false, .bool false, .bool false] := rfl
theorem flags_at (f : Nat → Bool) {q : Nat} (h : q < 33) : (flags f)[q]? = some (.bool (f q)) := by simp [flags, h]
theorem flags_set (f : Nat → Bool) {q : Nat} (h : q < 33) : (flags f).setIfInBounds q (.bool true) = flags (fun p => f p || p == q) := by
  apply Array.ext_getElem?
  intro p
  rw [Array.getElem?_setIfInBounds]
  by_cases e : q = p
  · subst e; simp [flags, h]
  · rw [if_neg e]
    by_cases hp : p < 33
    · rw [flags_at f hp, flags_at _ hp]; simp; omega
    · simp [flags, hp]
structure Fw (W4 : World) (f : Nat → Bool) (n : Nat) (W : World) : Prop where
  arr : W.heap[W4.heap.size]? = some (.cells (flags f) 63 (0, 0))
  cnt : W.heap[W4.heap.size + 1]? = some (.cells #[.int .i64 (n : Int)] 3 (0, 0))
  below : Below W4.heap.size W4 W
section
variable {W4 W W' : World} {f : Nat → Bool} {n : Nat}
theorem Fw.after (h : Fw W4 f n W) (hb : Below W.heap.size W W') : Fw W4 f n W' :=
  ⟨(hb.block _ (Array.getElem?_eq_some_iff.1 h.arr).1).trans h.arr, (hb.block _ (Array.getElem?_eq_some_iff.1 h.cnt).1).trans h.cnt, h.below.trans (hb.mono h.below.size)⟩
theorem Fw.cell (h : Fw W4 f n W) {q : Nat} (hq : q < 33) : W.cell? ⟨W4.heap.size, q, none⟩ = some (.bool (f q)) ∧ W.frozen? ⟨W4.heap.size, q, none⟩ = false := by
  constructor
  · simp [World.cell?, h.arr, flags_at f hq]
  · simp [World.frozen?, h.arr]
theorem Fw.flag (h : Fw W4 f n W) {q : Nat} (hq : q < 33) : Fw W4 (fun p => f p || p == q) n (W.setCell ⟨W4.heap.size, q, none⟩ (.bool true)) := by
  refine ⟨?_, (Below.heap_setCell _ _ _ _ (by simp)).trans h.cnt, h.below.setCell (p := ⟨W4.heap.size, q, none⟩) (Nat.le_refl _) _⟩
  have := h.arr
  simp [World.setCell, Array.getElem?_modify, this, ← flags_set f hq]
theorem Fw.more (h : Fw W4 f n W) (m : Nat) : Fw W4 f m (W.setCell ⟨W4.heap.size + 1, 0, none⟩ (.int .i64 (m : Int))) :=
  ⟨(Below.heap_setCell _ _ _ _ (show W4.heap.size ≠ W4.heap.size + 1 by omega)).trans h.arr, boxed_set h.cnt _, h.below.setCell (p := ⟨W4.heap.size + 1, 0, none⟩) (by simp) _⟩
theorem fw_own {β : Type} (f : β → Nat → Bool) (n : β → Nat) {B : Nat} (hB : W4.heap.size + 1 < B) : OwnFrom B (fun (s : β) W => Fw W4 (f s) (n s) W) := fun s W W' row hs hg hr =>
  ⟨(hg.block _ (Array.getElem?_eq_some_iff.1 hs.arr).1 (fun e => by have := (hr _ e.symm).1; omega)).trans hs.arr, (hg.block _ (Array.getElem?_eq_some_iff.1 hs.cnt).1 (fun e => by have := (hr _ e.symm).1; omega)).trans hs.cnt, hs.below.grown hg hs.below.size (fun k e => by have := (hr k e).1; omega)⟩
theorem fw_start (W4 : World) : Fw W4 (fun _ => false) 0 ((W4.alloc (.cells (flags fun _ => false) 63)).alloc (.cells #[.int .i64 0] 3)) := by
  have e1 := heap_alloc_new W4 (.cells (flags fun _ => false) 63)
  have e2 := heap_alloc_new (W4.alloc (.cells (flags fun _ => false) 63)) (.cells #[.int .i64 0] 3)
  rw [World.size_alloc] at e2
  have e3 := (Below.heap_alloc (W4.alloc (.cells (flags fun _ => false) 63)) (.cells #[.int .i64 0] 3) W4.heap.size (by rw [World.size_alloc]; omega)).trans e1
  exact ⟨e3, e2, ((Below.refl _ _).alloc (Nat.le_refl _) _).alloc (by simp) _⟩
end
/-- The pages that were seen. -/
def seen (pre : List Nat) (p : Nat) : Bool := pre.any fun i => i / 64 == p
def seenN (P : Nat) (pre : List Nat) : Nat := ((List.range P).filter (seen pre)).length
theorem seen_next (pre : List Nat) (x : Nat) : seen (pre ++ [x]) = fun p => seen pre p || p == x / 64 := by
  funext p
  simp only [seen, List.any_append, List.any_cons, List.any_nil, Bool.or_false]
  congr 1
  by_cases e : x / 64 = p
  · subst e; simp
  · have e2 : ¬ p = x / 64 := fun h => e h.symm
    rw [beq_eq_false_iff_ne.2 e, beq_eq_false_iff_ne.2 e2]
theorem seenN_next (P : Nat) (pre : List Nat) (x : Nat) (hx : x / 64 < P) : seenN P (pre ++ [x]) = seenN P pre + if seen pre (x / 64) = true then 0 else 1 := by
  have h := filter_turn (seen (pre ++ [x])) (seen pre) (x / 64) (fun q hq => by rw [seen_next]; simp [hq]) P
  have h2 : seen (pre ++ [x]) (x / 64) = true := by rw [seen_next]; simp
  unfold seenN
  simp [hx, h2] at h
  split <;> rename_i hs <;> simp [hs] at h <;> omega
theorem seen_all {P : Nat} {l : List Int} (hl : l.length = 64 * P) {p : Nat} (hp : p < P) : seen (els l (64 * P)) p = priv l p := by
  cases hq : priv l p with
  | true =>
    obtain ⟨k, hk, hz⟩ := priv_has hl hq
    simp only [seen, List.any_eq_true]
    exact ⟨64 * p + k, mem_els.2 ⟨by omega, hz⟩, by simp; omega⟩
  | false =>
    cases hs : seen (els l (64 * P)) p with
    | false => rfl
    | true =>
      simp only [seen, List.any_eq_true] at hs
      obtain ⟨i, hi, he⟩ := hs
      obtain ⟨h1, h2⟩ := mem_els.1 hi
      simp at he
      have := is_priv (p := i / 64) (k := i % 64) hl (by omega) (by rw [show 64 * (i / 64) + i % 64 = i by omega]; exact h2)
      rw [he, hq] at this; cases this
theorem seenN_all {P : Nat} {l : List Int} (hl : l.length = 64 * P) : seenN P (els l (64 * P)) = (privs l P).length := by
  unfold seenN privs
  congr 1
  exact List.filter_congr fun p hp => seen_all hl (List.mem_range.1 hp)
theorem few_fact {P : Nat} {l : List Int} (hb : Bytes P l) (a x : Int) (hx : W32 x) (h : refR P a 1 x = 0) : unionV P (fillR P l a 1 x) a 1 = x ∧ unionE P a 1 = 0 := by
  obtain ⟨_, hi⟩ := refR_ok h
  obtain ⟨i, k, rfl, hk, hik⟩ := insB_yes hi
  obtain rfl : k = 1 := by omega
  have hF : fillR P l (i : Int) ((1 : Nat) : Int) x = fillL l i x 1 := by unfold fillR; rw [show ((1 : Nat) : Int) = 1 from rfl, h]; simp
  have hat : at0 (fillL l i x 1) i = x := by
    rw [at_fill l i x i 1 (by rw [hb.len]; omega)]; simp
  refine ⟨?_, by unfold unionE; rw [hi]; rfl⟩
  rw [show (1 : Int) = ((1 : Nat) : Int) from rfl, hF]
  unfold unionV
  rw [show ((1 : Nat) : Int) = 1 from rfl, hi]
  simp only [if_true, Int.toNat_natCast, show Int.toNat 1 = 1 from rfl]
  show orI (unionL (fillL l i x 1) i 0) (at0 (fillL l i x 1) (i + 0)) = x
  rw [Nat.add_zero, hat]
  exact orI_zero hx.1
theorem empty_fact {P : Nat} {l : List Int} (hb : Bytes P l) : refR P 0 (64 * P : Nat) 0 = 0 ∧ fillR P l 0 (64 * P : Nat) 0 = List.replicate (64 * P) 0 := by
  have hi : insB P 0 ((64 * P : Nat) : Int) = true := by simp [insB]; omega
  have hr : refR P 0 (64 * P : Nat) 0 = 0 := by unfold refR; rw [hi]; simp
  refine ⟨hr, ?_⟩
  unfold fillR
  rw [if_pos hr]
  refine ext_at (P := P) (by rw [fill_len, hb.len]) (by simp) fun i hi => ?_
  have := at_fill l 0 0 i (64 * P) (by rw [hb.len]; omega)
  simp only [Int.toNat_natCast, show Int.toNat 0 = 0 from rfl]
  rw [this, if_pos ⟨Nat.zero_le _, by omega⟩]
  simp [at0, hi]
theorem at_w {w w2 W : World} {S P : Nat} {l : List Int} (h2 : Below w.heap.size w w2) (h : At w2 S P l W) : Below w.heap.size w W := by
  obtain ⟨_, _, _, h⟩ := h; exact h2.trans (h.mono h2.size)
theorem at_res {w w2 W : World} {S P : Nat} {l : List Int} (hz : w2.heap.size = w.heap.size + 2) (hr : w2.heap[w.heap.size + 1]? = some (.cells #[.bool false] 4 (0, 0))) (h : At w2 S P l W) : W.heap[w.heap.size + 1]? = some (.cells #[.bool false] 4 (0, 0)) := by
  obtain ⟨_, _, _, h⟩ := h; exact (h.block _ (by omega)).trans hr
theorem privs_zero (P : Nat) : (privs (List.replicate (64 * P) 0) P).length = 0 := by
  have : privs (List.replicate (64 * P) 0) P = [] := by
    cases hp : privs (List.replicate (64 * P) 0) P with
    | nil => rfl
    | cons p r =>
      have hm : p ∈ privs (List.replicate (64 * P) 0) P := by rw [hp]; simp
      obtain ⟨h1, h2⟩ := mem_privs.1 hm
      obtain ⟨k, hk, hz⟩ := priv_has (P := P) (by simp) h2
      simp [nz, at0, List.getElem?_replicate] at hz
      split at hz <;> simp at hz
  rw [this]; rfl
theorem few_fin {w W : World} {D0 : Nat} (hr : W.heap[w.heap.size + 1]? = some (.cells #[.bool false] 4 (0, 0))) (hd : W.heap[D0]? = some (.deferred (some []))) (n0 : w.heap.size + 1 < D0) (hb : Below w.heap.size w W) :
    ((W.setCell ⟨w.heap.size + 1, 0, none⟩ (.bool true)).heap[D0]? = some (.deferred (some []))) ∧ ((W.setCell ⟨w.heap.size + 1, 0, none⟩ (.bool true)).putObj D0 (.deferred none)).cell? ⟨w.heap.size + 1, 0, none⟩ = some (.bool true) ∧ Below w.heap.size w ((W.setCell ⟨w.heap.size + 1, 0, none⟩ (.bool true)).putObj D0 (.deferred none)) := by
  have h1 := boxed_set hr (.bool true)
  have h2 : (W.setCell ⟨w.heap.size + 1, 0, none⟩ (.bool true)).heap[D0]? = some (.deferred (some [])) := (Below.heap_setCell _ _ _ _ (show D0 ≠ w.heap.size + 1 by omega)).trans hd
  refine ⟨h2, ?_, ?_⟩
  · rw [cell_putObj (show w.heap.size + 1 ≠ D0 by omega)]; exact (boxed_cell h1).1
  · exact (hb.setCell (p := ⟨w.heap.size + 1, 0, none⟩) (by simp) _).trans (belowK_b (w := w) (Nat.le_refl _) _ D0 _ _ (by omega) h2 rfl rfl)
set_option maxRecDepth 100000 in
set_option maxHeartbeats 40000000 in
theorem ShadowFew_walk (a : Int) (_ha : (Lit.int .i64 a).wf = true) (v : Value) (xs : List Step4) (at_ : Int) (_hat : (Lit.int .i64 at_).wf = true) (x : Int) (hx : W32 x) (w : World) (hin : StepsIn w v xs) :
    Calls Try.prog 10 #[.int .i64 a, v, .int .i64 at_, .int .u32 x] w fun e w' => e = .returned (.bool true) ∧ Below w.heap.size w w' := by
  have hfn := fun_nil
  obtain ⟨o, cap, rfl, hcap, hlen, hat⟩ := hin.form
  have HAT := Lib.hid hat
  have hml : xs.length ≤ 9223372036854775807 := by unfold maxLen at hlen; omega
  clear hin hat
  have HX := Lib.hid hx
  clear hx
  by_cases hbad : a < 1 ∨ 32 < a ∨ 40 < (xs.length : Int)
  · refine (callsIn_wide (n := 5)).1 ?_
    refine callsIn_of_wp_marks Try.func10 rfl trivial ?_ rfl
    refine wpIn_wide.2 ?_
    simp only [Try.ntmps10, List.size_toArray, List.length_cons, List.length_nil, Nat.reduceAdd, Nat.reduceSub, Array.replicate_succ, Array.replicate_zero, List.push_toArray, List.append_toArray, List.nil_append, List.cons_append]
    have e1 := heap_alloc_new (w.alloc (.cells #[.int .i64 a] 3)) (.cells #[.bool false] 4)
    rw [World.size_alloc] at e1
    have hb0 : Below w.heap.size w ((w.alloc (.cells #[.int .i64 a] 3)).alloc (.cells #[.bool false] 4)) := ((Below.refl _ _).alloc (Nat.le_refl _) _).alloc (by simp) _
    have hz0 := hb0.size
    simp at hz0
    have E1 := Lib.hid e1
    have HB0 := Lib.hid hb0
    clear e1 hb0
    have hor : a < 1 ∨ (¬ a < 1 ∧ 32 < a) ∨ (¬ a < 1 ∧ ¬ 32 < a ∧ 40 < (xs.length : Int)) := by omega
    clear hbad
    rcases hor with q1 | ⟨q1, q2⟩ | ⟨q1, q2, q3⟩
    all_goals
      go_wp2_with (go_at_call 23; refine (works_any _).mono ?_; rintro e W1 ⟨rfl, hb⟩; have E2 := Lib.hid ((hb.block _ (by simp)).trans E1.out); have HB2 := Lib.hid (HB0.out.trans (hb.mono HB0.out.size)); clear hb; obtain ⟨cb, fb⟩ := boxed_cell E2.out)
      have hc := (boxed_cell (boxed_set E2.out (.bool true))).1
      refine ⟨.bool true, by simp [results, Try.results10, go_sem, hc], rfl, ?_⟩
      exact HB2.out.setCell (p := ⟨w.heap.size + 1, 0, none⟩) (by simp) _
  · obtain ⟨P, rfl⟩ := Int.eq_ofNat_of_zero_le (show 0 ≤ a by omega)
    have h1 : ¬ (P : Int) < 1 := by omega
    have h2 : ¬ 32 < (P : Int) := by omega
    have h3 : ¬ 40 < (xs.length : Int) := by omega
    clear hbad
    refine (callsIn_wide (n := 5)).1 ?_
    refine callsIn_of_wp_marks Try.func10 rfl trivial ?_ rfl
    refine wpIn_wide.2 ?_
    simp only [Try.ntmps10, List.size_toArray, List.length_cons, List.length_nil, Nat.reduceAdd, Nat.reduceSub, Array.replicate_succ, Array.replicate_zero, List.push_toArray, List.append_toArray, List.nil_append, List.cons_append]
    go_wp2_with fail
    refine (New_any P (by omega) (by omega) _).mono ?_; rintro e W1 ⟨F, rfl, hs, hF, hb1⟩
    have HA : Hid (At ((w.alloc (.cells #[.int .i64 (P : Int)] 3)).alloc (.cells #[.bool false] 4)) (((w.alloc (.cells #[.int .i64 (P : Int)] 3)).alloc (.cells #[.bool false] 4)).heap.size + 1) P (List.replicate (64 * P) 0) W1) := ⟨F, hs, hF, hb1⟩
    clear hs hF hb1
    generalize hw2 : (w.alloc (.cells #[.int .i64 (P : Int)] 3)).alloc (.cells #[.bool false] 4) = w2 at *
    generalize hSS : w2.heap.size + 1 = S at *
    have HW2 : Hid (Below w.heap.size w w2) := by rw [← hw2]; exact ((Below.refl _ _).alloc (Nat.le_refl _) _).alloc (by simp) _
    have HPB : Hid (w2.heap[w.heap.size]? = some (.cells #[.int .i64 (P : Int)] 3 (0, 0))) := by
      rw [← hw2]
      exact (Below.heap_alloc _ _ w.heap.size (by simp)).trans (heap_alloc_new w _)
    have HRB : Hid (w2.heap[w.heap.size + 1]? = some (.cells #[.bool false] 4 (0, 0))) := by
      rw [← hw2]
      have := heap_alloc_new (w.alloc (.cells #[.int .i64 (P : Int)] 3)) (.cells #[.bool false] 4)
      rwa [World.size_alloc] at this
    have hz2 : w2.heap.size = w.heap.size + 2 := by rw [← hw2]; simp
    clear hw2 hSS
    go_wp2_with fail
    go_loopw [11] (fun i wr => ∃ k : Nat, k ≤ xs.length ∧ i = .int .i64 k ∧ Hid (∃ l, At w2 S P l wr)) (fun i _ => xs.length - (intOf i).toNat)
    case atStart => exact ⟨0, by omega, rfl, ⟨_, HA.out⟩⟩
    case round =>
      obtain ⟨k, hk, rfl, HI⟩ := hrel
      by_cases hlt : k < xs.length
      · obtain ⟨s, hs⟩ : ∃ s, xs[k]? = some s := ⟨_, List.getElem?_eq_getElem hlt⟩
        obtain ⟨hx, a, rfl, ha0, ha1, ha2, ha3⟩ := HAT.out k s hs
        obtain ⟨l, hA⟩ := HI.out
        have hbw : Below w.heap.size w wr := by obtain ⟨_, _, _, h⟩ := hA; exact HW2.out.trans (h.mono HW2.out.size)
        have HSC : Hid (∀ W, Below w.heap.size w W → Sc (a.add (k * 4)) s W) := fun W hW => Sc.below hW ha0 ha1 ha2 ha3
        have hSC0 : Sc (a.add (k * 4)) s wr.drew := HSC.out _ hbw.drew
        obtain ⟨a0, a1, a2, a3⟩ := HSC.out _ hbw
        have HX' := Lib.hid hx
        have HA' := Lib.hid hA.drew
        clear hs hx ha0 ha1 ha2 ha3 hA hbw
        by_cases hk0 : s.k = 0
        · rw [hk0] at a0
          go_wp2_with fail
          go_region_held3 (fun W => W.cell? (a.add (k * 4)) = some (.int .i64 s.k) ∧ W.cell? ⟨(a.add (k * 4)).block, (a.add (k * 4)).off + 1, none⟩ = some (.int .i64 s.a) ∧ W.cell? ⟨(a.add (k * 4)).block, (a.add (k * 4)).off + 2, none⟩ = some (.int .i64 s.b) ∧ W.cell? ⟨(a.add (k * 4)).block, (a.add (k * 4)).off + 3, none⟩ = some (.int .u32 s.x))
            (first | exact hSC0 | exact HS5.out)
            (first | (go_at_call 16; (with_reducible refine (HA'.out.set s.a s.x HX'.out).mono ?_); rintro e W5 ⟨rfl, hA⟩; have HS5 := Lib.hid (HSC.out _ (at_w HW2.out hA)); have HA5 := Lib.hid hA; clear hA))
          go_wp2_with fail
          go_roundw
          case rel => exact ⟨k + 1, by omega, by go_num, ⟨_, HA5.out⟩⟩
          case measure => simp [intOf]; omega
        · have hne : (s.k == 0) = false := by simpa using hk0
          go_wp2_with fail
          go_region_held3 (fun W => W.cell? (a.add (k * 4)) = some (.int .i64 s.k) ∧ W.cell? ⟨(a.add (k * 4)).block, (a.add (k * 4)).off + 1, none⟩ = some (.int .i64 s.a) ∧ W.cell? ⟨(a.add (k * 4)).block, (a.add (k * 4)).off + 2, none⟩ = some (.int .i64 s.b) ∧ W.cell? ⟨(a.add (k * 4)).block, (a.add (k * 4)).off + 3, none⟩ = some (.int .u32 s.x))
            (first | exact hSC0 | exact HS5.out)
            (first | (go_at_call 17; (with_reducible refine (HA'.out.fill s.a s.b s.x HX'.out).mono ?_); rintro e W5 ⟨rfl, hA⟩; have HS5 := Lib.hid (HSC.out _ (at_w HW2.out hA)); have HA5 := Lib.hid hA; clear hA))
          go_wp2_with fail
          go_roundw
          case rel => exact ⟨k + 1, by omega, by go_num, ⟨_, HA5.out⟩⟩
          case measure => simp [intOf]; omega
      · obtain rfl : k = xs.length := by omega
        obtain ⟨l, hA⟩ := HI.out
        have HA2 := Lib.hid hA
        clear hA HI HA
        go_wp2_with fail
        refine (HA2.out.set at_ x HX.out).mono ?_; rintro e W3 ⟨rfl, hA⟩
        have HFT : Hid (refR P at_ 1 x = 0 → unionV P (fillR P l at_ 1 x) at_ 1 = x ∧ unionE P at_ 1 = 0) := by
          obtain ⟨F, h, _⟩ := HA2.out
          exact few_fact h.bytes at_ x HX.out
        have HA3 := Lib.hid hA
        clear hA
        generalize fillR P l at_ 1 x = l1 at *
        go_wp2_with fail
        refine (HA3.out.get at_).mono ?_; rintro e W4 ⟨rfl, hA⟩
        have HA4 := Lib.hid hA
        clear hA
        have HB4 : Hid (Bytes P l1) := by
          obtain ⟨F, h, _⟩ := HA4.out
          exact h.bytes
        have hlen1 := HB4.out.len
        have HPB4 : Hid (W4.heap[w.heap.size]? = some (.cells #[.int .i64 (P : Int)] 3 (0, 0))) := by
          obtain ⟨F, _, _, hb⟩ := HA4.out
          exact (hb.block _ (by omega)).trans HPB.out
        generalize refR P at_ 1 x = r at *
        generalize unionV P l1 at_ 1 = uv at *
        generalize unionE P at_ 1 = ue at *
        by_cases hr0 : r = 0
        case' pos =>
          obtain ⟨rfl, rfl⟩ := HFT.out hr0
          subst hr0
          go_wp2_with (go_at_call 15; refine (num_any _ _).mono ?_; rintro e w' ⟨rfl, rfl⟩)
        case' neg =>
          have hrb : (r == 0) = false := by simpa using hr0
          go_wp2_with (go_at_call 15; refine (num_any _ _).mono ?_; rintro e w' ⟨rfl, rfl⟩)
        all_goals
          have hF0 : Fw W4 (seen []) 0 ((W4.alloc (.cells #[.bool false, .bool false, .bool false, .bool false, .bool false, .bool false, .bool false, .bool false, .bool false, .bool false, .bool false, .bool false, .bool false, .bool false, .bool false, .bool false, .bool false, .bool false, .bool false, .bool false, .bool false, .bool false, .bool false, .bool false, .bool false, .bool false, .bool false, .bool false, .bool false, .bool false, .bool false, .bool false, .bool false] 63)).alloc (.cells #[.int .i64 0] 3)) := fw_start W4
          have HF0 := Lib.hid hF0
          have HALL : Hid (∀ W, Below W4.heap.size W4 W → Calls Try.prog 14 #[.pointer (some ⟨S, 0, none⟩)] W fun e w' => ∃ v, e = .returned v ∧ AllPost W P l1 v w') := fun W hW => by obtain ⟨F, h, _⟩ := HA4.out; exact All_any (h.below hW)
          clear hF0
          refine (HALL.out _ HF0.out.below).mono ?_; rintro e W5 ⟨v, rfl, b1, S1, F1, rfl, _, _, _, _, hb1⟩
          have HF5 := Lib.hid (HF0.out.after hb1)
          clear hb1 HF0
          go_wp2_with fail
          refine (HALL.out _ HF5.out.below).mono ?_; rintro e W6 ⟨v, rfl, b2, S2, F2, rfl, k1, k2, k3, k4, hb2⟩
          have hF6 := HF5.out.after hb2
          have hF6' : Fw W4 (seen []) (seenN P []) W6 := by rw [show seenN P [] = 0 by unfold seenN seen; simp]; exact hF6
          have hz5 := (Array.getElem?_eq_some_iff.1 HF5.out.cnt).1
          have hz6 := hb2.size
          go_wp2_with fail
          refine (wpIn_wide (n := 5)).1 (wp_over_f (gf := 37) (lb := #[.pointer (some ⟨b2, 0, none⟩)]) rfl (enters_of Try.func37 (by kernel_rfl) rfl)
            (All1_gives k2 b2 k1 (fun k => k = W4.heap.size ∨ k = W4.heap.size + 1) (by rintro k (rfl | rfl) <;> omega) (by rintro k hk (rfl | rfl) <;> (have := k3 _ hk; omega)))
            (by rintro k (rfl | rfl) <;> omega) (fun _ => rfl)
            (fun pre W => Fw W4 (seen pre) (seenN P pre) W) (fun _ _ _ => False)
            (fw_own (fun pre => seen pre) (fun pre => seenN P pre) (by omega)) (fun _ _ _ _ _ hs _ _ => hs) hF6'
            (fun t x => (((t.setIfInBounds 109 (.int .i64 (x : Int))).setIfInBounds 110 (.int .u32 (at0 l1 x))).setIfInBounds 17 (.int .i64 (x : Int))).setIfInBounds 18 (.int .u32 (at0 l1 x)))
            ?assign ?body ?done ?stop)
          case assign =>
            intro ll mm x W1 K hK
            gi_wp2
            simp only [List.setIfInBounds_toArray, List.set_cons_zero, List.set_cons_succ] at hK
            exact hK
          case body =>
            rintro ll mm pre x rest W hf hFw
            obtain ⟨hx64, hxz⟩ := mem_els.1 (mem_mid hf)
            simp only [List.setIfInBounds_toArray, List.set_cons_zero, List.set_cons_succ]
            have hqP : x / 64 < P := by omega
            have hqd : Int.tdiv (x : Int) 64 = ((x / 64 : Nat) : Int) := by rw [Int.tdiv_eq_ediv_of_nonneg (by omega)]; omega
            have h0x : (0 : Int) ≤ (x : Int) := by omega
            have hxl : (x : Int) < 64 * (P : Int) := by omega
            have hzz : ¬ at0 l1 x = 0 := by simpa [nz] using hxz
            have hzb : (at0 l1 x == 0) = false := by simpa using hzz
            have hq0 : (0 : Int) ≤ (x : Int) / 64 := by omega
            have hq33 : (x : Int) / 64 < 33 := by omega
            obtain ⟨cq, fq⟩ := hFw.cell (q := x / 64) (by omega)
            obtain ⟨cn, fn⟩ := boxed_cell hFw.cnt
            have hpb := (hFw.below.block _ (Array.getElem?_eq_some_iff.1 HPB4.out).1).trans HPB4.out
            obtain ⟨cp, _⟩ := boxed_cell hpb
            have hnb : (seenN P pre : Int) ≤ 32 := by have : seenN P pre ≤ P := by { unfold seenN; exact Nat.le_trans (List.length_filter_le _ _) (by simp) }; omega
            have hns := seenN_next P pre x (by omega)
            have hns' := seen_next pre x
            have HFw := Lib.hid hFw
            have HNS := Lib.hid hns
            have HNS' := Lib.hid hns'
            clear hFw k1 k2 k3 k4 hb2 hF6 hF6' HF5 HALL hpb hf hns hns' hfn
            cases hsn : seen pre (x / 64) with
            | true =>
              rw [hsn] at cq
              have HSN := Lib.hid hsn
              clear hsn
              gi_wp2
              refine ⟨KeptBut.cell _ (p := ⟨W4.heap.size, x / 64, none⟩) _ (.inl rfl), ?_⟩
              have e1 := HNS.out
              rw [HSN.out, if_pos rfl, Nat.add_zero] at e1
              have e2 := HFw.out.flag (q := x / 64) (by omega)
              simp only
              rw [e1, HNS'.out]
              exact e2
            | false =>
              rw [hsn] at cq
              have HSN := Lib.hid hsn
              clear hsn
              gi_wp2
              refine ⟨(KeptBut.cell _ (p := ⟨W4.heap.size + 1, 0, none⟩) _ (.inr rfl)).trans (KeptBut.cell _ (p := ⟨W4.heap.size, x / 64, none⟩) _ (.inl rfl)), ?_⟩
              have e1 := HNS.out
              rw [HSN.out, if_neg (by simp)] at e1
              have e2 := (HFw.out.more (seenN P pre + 1)).flag (q := x / 64) (by omega)
              simp only
              rw [e1, HNS'.out]
              exact e2
          case done =>
            rintro D0 W7 hD0 hFw hK
            rw [seenN_all hlen1] at hFw
            have hHA7 := HA4.out.below hFw.below
            have HFw := Lib.hid hFw
            have HK := Lib.hid hK
            have HA7 := Lib.hid hHA7
            have hpb := (hFw.below.block _ (Array.getElem?_eq_some_iff.1 HPB4.out).1).trans HPB4.out
            have HPB7 := Lib.hid hpb
            have hn0 : w.heap.size + 1 < D0 := by
              have hq := (Array.getElem?_eq_some_iff.1 HPB4.out).1
              obtain ⟨_, _, _, hbx⟩ := HA4.out
              have := hbx.size
              omega
            clear hFw hK hHA7 hpb k1 k2 k3 k4 hb2 hF6 hF6' HF5 HALL HPB4 HA4
            go_wp2_with fail
            go_loopw [19] (fun i wr => ∃ k : Nat, k ≤ P ∧ i = .int .i64 k ∧ Hid (Below W7.heap.size W7 wr)) (fun i _ => P - (intOf i).toNat)
            case atStart => exact ⟨0, by omega, rfl, Below.refl _ _⟩
            case round =>
              obtain ⟨k, hk, rfl, HI⟩ := hrel
              obtain ⟨cp, _⟩ := boxed_cell ((HI.out.block _ (Array.getElem?_eq_some_iff.1 HPB7.out).1).trans HPB7.out)
              by_cases hlt : k < P
              · obtain ⟨ck, _⟩ := (HFw.out.after HI.out).cell (q := k) (by omega)
                rw [seen_all hlen1 hlt] at ck
                have HPr : Hid (∀ W, Below W7.heap.size W7 W → Calls Try.prog 20 #[.pointer (some ⟨S, 0, none⟩), .int .i64 (k : Int)] W fun e w' => e = .returned (.bool (priv l1 k)) ∧ W = w') := fun W hW => by
                  obtain ⟨F, h, _⟩ := HA7.out.below hW
                  have := Private_any h (k : Int) (wf_i64 (by omega) (by omega))
                  simpa using this
                generalize priv l1 k = bb at *
                have ck' : wr.drew.cell? ⟨W4.heap.size, k, none⟩ = some (.bool bb) := ck
                have HFd : Hid (Below W7.heap.size W7 wr.drew) := HI.out.drew
                have k0 : (0 : Int) ≤ (k : Int) := by omega
                have k33 : (k : Int) < 33 := by omega
                go_wp2_with fail
                go_region_held3 (fun W => W.cell? ⟨W4.heap.size, k, none⟩ = some (.bool bb))
                  (first | exact ck')
                  (first | (go_at_call 20; (with_reducible refine (HPr.out _ HFd.out).mono ?_); rintro e w1 ⟨rfl, rfl⟩))
                all_goals
                  go_wp2_with fail
                  go_roundw
                  case rel => exact ⟨k + 1, by omega, by go_num, HFd.out⟩
                  case measure => simp [intOf]; omega
              · obtain rfl : k = P := by omega
                have HF8 := Lib.hid (HFw.out.after HI.out)
                have HA8 := Lib.hid (HA7.out.below HI.out)
                have HK8 : Hid (wr.heap[D0]? = some (.deferred (some []))) := (HI.out.block _ (Array.getElem?_eq_some_iff.1 HK.out).1).trans HK.out
                have HPg : Hid (∀ W, Below wr.heap.size wr W → Calls Try.prog 19 #[.pointer (some ⟨S, 0, none⟩)] W fun e w' => e = .returned (.int .i64 ((privs l1 k).length : Int)) ∧ W = w') := fun W hW => (HA8.out.below hW).pages
                have HSz : Hid (∀ W, Below wr.heap.size wr W → Calls Try.prog 18 #[.pointer (some ⟨S, 0, none⟩)] W fun e w' => e = .returned (.int .i64 (64 * (k : Int))) ∧ W = w') := fun W hW => by
                  obtain ⟨F, h, _⟩ := HA8.out.below hW
                  have := Size_any h
                  rwa [show ((64 * k : Nat) : Int) = 64 * (k : Int) by omega] at this
                have HFl : Hid (Calls Try.prog 17 #[.pointer (some ⟨S, 0, none⟩), .int .i64 0, .int .i64 (64 * (k : Int)), .int .u32 0] wr.drew fun e W' => e = .returned (.int .i64 0) ∧ At w2 S k (List.replicate (64 * k) 0) W' ∧ W'.heap[D0]? = some (.deferred (some []))) := by
                  obtain ⟨F, f1, f2, f3⟩ := HA8.out.drew
                  obtain ⟨e1, e2⟩ := empty_fact f1.bytes
                  have := Fill_any f1 0 ((64 * k : Nat) : Int) 0 (by simp [W32])
                  rw [e1, e2, show ((64 * k : Nat) : Int) = 64 * (k : Int) by omega] at this
                  refine this.mono fun e W' ⟨he, F', p1, p2, p3⟩ => ⟨he, ⟨F', p1, fun j hj => ?_, f3.trans (p2.below f3.size f2)⟩, p2.keep (w := wr.drew) HK8.out (fun hf => f1.kind (ds := some []) hf HK8.out)⟩
                  rcases p3 j hj with h | h
                  · exact f2 j h
                  · have := f3.size; omega
                generalize hN : (privs l1 k).length = N at *
                obtain ⟨cn, _⟩ := boxed_cell HF8.out.cnt
                have cn' : wr.drew.cell? ⟨W4.heap.size + 1, 0, none⟩ = some (.int .i64 (N : Int)) := cn
                have HFd : Hid (Below wr.heap.size wr wr.drew) := (Below.refl _ _).drew
                clear hN HI HFw HK HA7 HF8
                go_wp2_with fail
                go_region_held3 (fun W => W.cell? ⟨W4.heap.size + 1, 0, none⟩ = some (.int .i64 (N : Int)))
                  (first | exact cn')
                  (first | (go_at_call 19; (with_reducible refine (HPg.out _ HFd.out).mono ?_); rintro e w1 ⟨rfl, rfl⟩))
                all_goals
                  go_wp2_with fail
                  refine (HSz.out _ HFd.out).mono ?_; rintro e w1 ⟨rfl, rfl⟩
                  go_wp2_with fail
                  refine HFl.out.mono ?_; rintro e W9 ⟨rfl, hA, hd⟩
                  have HA9 := Lib.hid hA
                  have HD9 := Lib.hid hd
                  have HPB9 : Hid (W9.heap[w.heap.size]? = some (.cells #[.int .i64 (k : Int)] 3 (0, 0))) := by
                    obtain ⟨_, _, _, hb⟩ := hA; exact (hb.block _ (by omega)).trans HPB.out
                  obtain ⟨cp9, _⟩ := boxed_cell HPB9.out
                  clear hA hd
                  go_wp2_with fail
                  refine (New_any k (by omega) (by omega) _).mono ?_; rintro e W10 ⟨Fv, rfl, hV, _, hb10⟩
                  generalize W9.heap.size + 1 = V at *
                  have HA10 := Lib.hid (HA9.out.below hb10)
                  have HV := Lib.hid hV
                  have HD10 : Hid (W10.heap[D0]? = some (.deferred (some []))) := (hb10.block _ (Array.getElem?_eq_some_iff.1 HD9.out).1).trans HD9.out
                  have HP0 : Hid (Calls Try.prog 19 #[.pointer (some ⟨S, 0, none⟩)] W10 fun e w' => e = .returned (.int .i64 0) ∧ W10 = w') := by
                    have := HA10.out.pages
                    rwa [privs_zero] at this
                  have HSM : Hid (Calls Try.prog 22 #[.pointer (some ⟨S, 0, none⟩), .pointer (some ⟨V, 0, none⟩)] W10 fun e w' => e = .returned (.bool true) ∧ Below W10.heap.size W10 w') := by
                    obtain ⟨F, h, _⟩ := HA10.out
                    have := Same_any h hV
                    rw [decide_eq_true rfl] at this
                    exact this
                  clear hV hb10 HA9 HD9
                  go_wp2_with (first
                    | (go_at_call 15; refine (num_any _ _).mono ?_; rintro e w' ⟨rfl, rfl⟩)
                    | (go_at_call 19; refine HP0.out.mono ?_; rintro e w' ⟨rfl, rfl⟩)
                    | (go_at_call 22; refine HSM.out.mono ?_; rintro e W11 ⟨rfl, hb⟩; have HA11 := Lib.hid (HA10.out.below hb); have HD11 : Hid (W11.heap[D0]? = some (.deferred (some []))) := (hb.block _ (Array.getElem?_eq_some_iff.1 HD10.out).1).trans HD10.out; clear hb)
                    | (go_at_call 23; refine (works_any _).mono ?_; rintro e W12 ⟨rfl, hb⟩; have HA12 := Lib.hid (HA11.out.below hb); have HD12 : Hid (W12.heap[D0]? = some (.deferred (some []))) := (hb.block _ (Array.getElem?_eq_some_iff.1 HD11.out).1).trans HD11.out; clear hb; have HR12 : Hid (W12.heap[w.heap.size + 1]? = some (.cells #[.bool false] 4 (0, 0))) := at_res hz2 HRB.out HA12.out; obtain ⟨cb, fb⟩ := boxed_cell HR12.out))
                  obtain ⟨f1, f2, f3⟩ := few_fin HR12.out HD12.out (by omega) (at_w HW2.out HA12.out)
                  refine ⟨by simp, .inl ⟨_, _, rfl, run_takeDeferred f1, ?_⟩⟩
                  exact ⟨.bool true, by simp [results, Try.results10, go_sem, f2], rfl, f3⟩
          case stop =>
            rintro D0 c pre rest W1 _ _ hx _
            exact hx.elim
end Go.Proofs.Ytepmndadbikijaa

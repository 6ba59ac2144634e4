/-
  Layer 6: is of the statements: a TLB stands as the document's, in all its ways: walk. Written by gen_is.py out of XIs.part.
-/
import Derived.Test.YtafkjokbidkkhaaLook
import Derived.Test.YtafkjokbidkkhaaRound
import Derived.Test.YtafkjokbidkkhaaRef
namespace Go.Proofs.Ytafkjokbidkkhaa
open Go.RowKit Go.Shelf
set_option maxHeartbeats 1000000
set_option linter.unusedVariables false
set_option linter.unusedSimpArgs false
attribute [local go_sem] Oper.semAt_some

theorem fun_nil (w : World) (f : Nat) (cap : Array Value) : (binOp .eql 47 (.func (.func f) #[] cap) .nilFunc).run Try.prog w = .ok (.bool false) w := by
  have h1 : (Op.equalIn 10000 47 (.func (.func f) #[] cap) .nilFunc).run Try.prog w = .ok false w := by
    rw [show (10000 : Nat) = 9999 + 1 from rfl, Op.equalIn]
    simp [Sem.run_bind, run_underlying Try.underlying47, Result.andThen_ok]
  simp [binOp, Op.equal, Op.maxDepth, h1, Sem.run_bind, Result.andThen]
theorem neqE (e : Ent) (w : World) : (binOp .neq 27 (.agg #[.bool e.th, .int .u32 e.pg, .int .u32 e.fr, .bool e.wr]) (.agg #[.bool e.th, .int .u32 e.pg, .int .u32 e.fr, .bool e.wr])).run Try.prog w = .ok (.bool false) w := by
  have h1 : (Op.equalIn 10000 27 (.agg #[.bool e.th, .int .u32 e.pg, .int .u32 e.fr, .bool e.wr]) (.agg #[.bool e.th, .int .u32 e.pg, .int .u32 e.fr, .bool e.wr])).run Try.prog w = .ok true w := by
    have := eqE_any e e 9998 w
    rw [Ent.eqb_self] at this
    exact this
  simp [binOp, Op.equal, Op.maxDepth, h1, Sem.run_bind, Result.andThen]
/-- A bool is stored, at the operation. -/
theorem o_store_bool {op : Oper} {a : Act} {w : World} {K : Act → World → Prop} {Q : Exit → Act → World → Prop} {x y : Operand} {b : Nat} {u : Value} {v : Bool} (hc : w.cell? ⟨b, 0, none⟩ = some u) (hf : w.frozen? ⟨b, 0, none⟩ = false) (ho : op.op = .store 4 x y) (hx : a.eval x = .pointer (some ⟨b, 0, none⟩)) (hy : a.eval y = .bool v)
    (h : K (a.put op.dst undef) (w.setCell ⟨b, 0, none⟩ (.bool v))) : op.wp Try.prog a w K Q := by
  unfold Oper.wp execOp
  simp only [ho, hx, hy]
  go_simp
  exact h
abbrev isL (z : Nat) (t : Tl) (b : Bool) (lst : Int) (n : Nat) : List Bx :=
  [(z + 1 + 1 + 1, #[.int .i64 (n : Int)], 3), (z + 1 + 1, #[.int .i64 lst], 3), (z + 1, #[.bool b], 4), (z, rc t, 30)]
theorem is_start (w : World) (t : Tl) : Bxs w (isL w.heap.size t false (-1) 0) ((((w.alloc (.cells (rc t) 30)).alloc (.cells #[.bool false] 4)).alloc (.cells #[.int .i64 (-1)] 3)).alloc (.cells #[.int .i64 0] 3)) := by
  have := ((((Bxs.nil w).alloc (rc t) 30).alloc #[.bool false] 4).alloc #[.int .i64 (-1)] 3).alloc #[.int .i64 0] 3
  simp only [World.size_alloc] at this
  exact this
section
variable {w W : World} {t : Tl} {b : Bool} {lst : Int} {n : Nat}
theorem is_facts (h : Bxs w (isL w.heap.size t b lst n) W) : Rf W w.heap.size t ∧ Blk W (w.heap.size + 1) #[.bool b] 4 ∧ Blk W (w.heap.size + 1 + 1) #[.int .i64 lst] 3 ∧ Blk W (w.heap.size + 1 + 1 + 1) #[.int .i64 (n : Int)] 3 :=
  ⟨h.get w.heap.size (by simp), h.get (w.heap.size + 1) (by simp), h.get (w.heap.size + 1 + 1) (by simp), h.get (w.heap.size + 1 + 1 + 1) (by simp)⟩
abbrev isM (z : Nat) (k : Nat) : Prop := k = z + 1 + 1 ∨ k = z + 1 + 1 + 1
theorem is_set (h : Bxs w (isL w.heap.size t b lst n) W) (l' : Int) (n' : Nat) {W' : World} (hW : W' = (W.setCell ⟨w.heap.size + 1 + 1, 0, none⟩ (.int .i64 l')).setCell ⟨w.heap.size + 1 + 1 + 1, 0, none⟩ (.int .i64 (n' : Int))) :
    Bxs w (isL w.heap.size t b l' n') W' ∧ Turned (isM w.heap.size) W W' := by
  obtain ⟨a0, a1, a2, a3⟩ := is_facts h
  have ht : Turned (isM w.heap.size) W W' := by
    rw [hW]
    exact (((Turned.refl (isM w.heap.size) W).setCell (.inl (.inl rfl)) _).setCell (.inl (.inr rfl)) _)
  have b2 : Blk W' (w.heap.size + 1 + 1) #[.int .i64 l'] 3 := by
    rw [hW]
    exact (a2.setCell 0 _).off (by omega) _
  have b3 : Blk W' (w.heap.size + 1 + 1 + 1) #[.int .i64 (n' : Int)] 3 := by
    rw [hW]
    exact (a3.off (by omega) _).setCell 0 _
  have b1 : Blk W' (w.heap.size + 1) #[.bool b] 4 := by
    rw [hW]
    exact (a1.off (by omega) _).off (by omega) _
  have b0 : Blk W' w.heap.size (rc t) 30 := by
    rw [hW]
    exact (Blk.off a0 (by omega) _).off (by omega) _
  refine ⟨⟨h.below.trans (ht.below h.below.size (by rintro k (e | e) <;> omega)), fun q hq => ?_⟩, ht⟩
  simp only [List.mem_cons, List.not_mem_nil, or_false] at hq
  rcases hq with rfl | rfl | rfl | rfl
  · exact b3
  · exact b2
  · exact b1
  · exact b0
theorem is_res (h : Bxs w (isL w.heap.size t b lst n) W) (q : Bool) : Bxs w (isL w.heap.size t q lst n) (W.setCell ⟨w.heap.size + 1, 0, none⟩ (.bool q)) := by
  obtain ⟨a0, a1, a2, a3⟩ := is_facts h
  refine ⟨h.below.setCell (p := ⟨w.heap.size + 1, 0, none⟩) (by simp) _, fun p hp => ?_⟩
  simp only [List.mem_cons, List.not_mem_nil, or_false] at hp
  rcases hp with rfl | rfl | rfl | rfl
  · exact a3.off (by omega) _
  · exact a2.off (by omega) _
  · exact a1.setCell 0 _
  · exact Blk.off a0 (by omega) _
end
theorem isA_after {w W W' : World} {t : Tl} {b : Bool} {lst : Int} {n D0 : Nat} (h : Bxs w (isL w.heap.size t b lst n) W ∧ W.heap[D0]? = some (.deferred (some []))) (hb : Below W.heap.size W W') : Bxs w (isL w.heap.size t b lst n) W' ∧ W'.heap[D0]? = some (.deferred (some [])) :=
  ⟨h.1.after hb, (hb.block _ (Array.getElem?_eq_some_iff.1 h.2).1).trans h.2⟩
theorem isA_res {w W : World} {t : Tl} {b : Bool} {lst : Int} {n D0 : Nat} (h : Bxs w (isL w.heap.size t b lst n) W ∧ W.heap[D0]? = some (.deferred (some []))) : Bxs w (isL w.heap.size t true lst n) (W.setCell ⟨w.heap.size + 1, 0, none⟩ (.bool true)) ∧ (W.setCell ⟨w.heap.size + 1, 0, none⟩ (.bool true)).heap[D0]? = some (.deferred (some [])) := by
  refine ⟨is_res h.1 true, ?_⟩
  by_cases e : D0 = w.heap.size + 1
  · have := (is_facts h.1).2.1
    unfold Blk at this
    rw [← e, h.2] at this
    cases this
  · exact (Below.heap_setCell _ _ _ _ e).trans h.2
theorem many_le (t : Tl) : t.many ≤ 4 := by
  have h : ∀ b, b2n b ≤ 1 := fun b => by unfold b2n; split <;> omega
  have := h t.s0.th; have := h t.s1.th; have := h t.s2.th; have := h t.s3.th
  unfold Tl.many; omega
/-- The order of the list that is walked: what was last. -/
def Lst (t : Tl) (pre : List Nat) (lst : Int) : Prop := ∀ (x : Nat) (rest : List Nat), wks t 4 = pre ++ x :: rest → lst < (x : Int)
theorem lst_start (t : Tl) : Lst t [] (-1) := fun x rest _ => by omega
theorem lst_next (t : Tl) (pre : List Nat) (x : Nat) : Lst t (pre ++ [x]) (x : Int) := fun y rest h => by
  have := (wks_next h).2.2 x (by simp)
  omega
set_option maxRecDepth 100000 in
theorem is_any {w : World} {S : Nat} {t : Tl} (h : At w S t) : Calls Try.prog 11 #[.pointer (some ⟨S, 0, none⟩), .agg (rc t)] w fun e w' => e = .returned (.bool true) ∧ Below w.heap.size w w' := by
  have HA := Lib.hid (fun W (hb : Below w.heap.size w W) => (show At W S t from h.below' hb h.lt))
  have H0 := Lib.hid (is_start w t)
  have hfn := fun_nil
  clear h
  refine (callsIn_wide (n := 5)).1 ?_
  refine callsIn_of_wp_marks Try.func11 rfl trivial ?_ rfl
  refine wpIn_wide.2 ?_
  simp only [Try.ntmps11, List.size_toArray, List.length_cons, List.length_nil, Nat.reduceAdd, Nat.reduceSub, Array.replicate_succ, Array.replicate_zero, List.push_toArray, List.append_toArray, List.nil_append, List.cons_append]
  go_wp2_with fail
  refine (Walked_any (HA.out _ H0.out.below)).mono ?_; rintro e W1 ⟨B1, g1, c1, rfl, _, _, _, _, _, hb1⟩
  have H1 := Lib.hid (H0.out.after hb1)
  clear hb1 H0
  go_wp2_with fail
  refine (Walked_any (HA.out _ H1.out.below)).mono ?_; rintro e W2 ⟨B, g, c, rfl, hB, hr, hBl, hgl, hc4, hb2⟩
  have HX := Lib.hid (H1.out.after hb2)
  have hz1 := hb2.size
  have hz0 := (is_facts H1.out).2.2.2.lt
  have hzB := hB.lt
  clear hb2 H1 hfn
  go_wp2_with fail
  refine (wpIn_wide (n := 5)).1 (wp_over_a (gf := 28) (lb := #[.pointer (some ⟨B, 0, none⟩)]) rfl (enters_of Try.func28 (by kernel_rfl) rfl)
    (Walked1_gives hB hr (isM w.heap.size) (by rintro (e | e) <;> omega))
    (fun k hk => by rcases hk with rfl | rfl <;> omega) (fun _ => rfl)
    (fun pre W => ∃ lst : Int, Lst t pre lst ∧ Bxs w (isL w.heap.size t false lst pre.length) W)
    (fun c pre W => ∃ _x : Unit, False ∧ Bxs w [] W)
    (bxs_own w _ _ (by omega)) (fun c => bxs_own w _ _ (by omega)) ⟨-1, lst_start t, HX.out⟩
    (fun x => .cells #[.bool (t.g x).th, .int .u32 (t.g x).pg, .int .u32 (t.g x).fr, .bool (t.g x).wr] 27)
    (fun tm x b => (((tm.setIfInBounds 16 (.int .i64 (x : Int))).setIfInBounds 17 (.agg #[.bool (t.g x).th, .int .u32 (t.g x).pg, .int .u32 (t.g x).fr, .bool (t.g x).wr])).setIfInBounds 7 (.int .i64 (x : Int))).setIfInBounds 8 (.pointer (some ⟨b, 0, none⟩)))
    ?assign ?body ?done (fun _ _ _ _ _ _ _ hx _ => by obtain ⟨_, h, _⟩ := hx; exact h.elim))
  case assign =>
    intro ll mm x W1 K hK
    gi_wp2
    simp only [List.setIfInBounds_toArray, List.set_cons_zero, List.set_cons_succ] at hK
    exact hK
  case body =>
    rintro ll mm pre x rest W b hf ⟨lst, hl, hX⟩ hob hb2 hbl
    obtain ⟨hx4, hth, hlt⟩ := wks_next hf
    simp only [List.setIfInBounds_toArray, List.set_cons_zero, List.set_cons_succ]
    have hlx := hl x rest hf
    have hlp : (pre.length : Int) < 5 := by
      have h1 := congrArg List.length hf
      rw [wks_len] at h1
      simp at h1
      have := many_le t
      omega
    have HX9 := Lib.hid hX
    have HN := Lib.hid (lst_next t pre x)
    obtain ⟨k0, k1, k2, k3⟩ := is_facts hX
    have hbk : Blk W b #[.bool (t.g x).th, .int .u32 (t.g x).pg, .int .u32 (t.g x).fr, .bool (t.g x).wr] 27 := hob
    have hrb := hbk.drew.range 0 (cE (t.g x)) rfl
    have hrz := (Rf.ent k0 hx4 : W.rangeAt _ _ _)
    have hcb := hbk.cell 0
    have hc2 := k2.cell 0
    simp only [List.getElem?_toArray, List.getElem?_cons_zero] at hcb hc2
    rw [hth] at hcb
    have hx4' : ((x : Int) > 3) = False := by simp; omega
    have hxl : ((x : Int) ≤ lst) = False := by simp; omega
    have hx0 : (0 : Int) ≤ (x : Int) := by omega
    have hx44 : (x : Int) < 4 := by omega
    have hK0 : W.drew.cell? ⟨w.heap.size + 1 + 1, 0, none⟩ = some (.int .i64 lst) ∧ W.drew.rangeAt b 0 (cE (t.g x)) ∧ W.drew.rangeAt w.heap.size (x * 4) (cE (t.g x)) ∧ W.drew.cell? ⟨b, 0, none⟩ = some (.bool true) := ⟨hc2, hrb, hrz, hcb⟩
    have HNE := Lib.hid (neqE (t.g x))
    have q2 := k2.cell 0
    have f2 := k2.frozen 0
    have q3 := k3.cell 0
    have f3 := k3.frozen 0
    simp only [List.getElem?_toArray, List.getElem?_cons_zero] at q2 q3
    clear hf hl hX hob hbk hrb hrz hcb hc2 k0 k1 k2 k3 hth hlt hb2
    gi_wp2
    refine wpIn_region_round (S := (fun W => W.cell? ⟨w.heap.size + 1 + 1, 0, none⟩ = some (.int .i64 lst) ∧ W.rangeAt b 0 (cE (t.g x)) ∧ W.rangeAt w.heap.size (x * 4) (cE (t.g x)) ∧ W.cell? ⟨b, 0, none⟩ = some (.bool true))) (by kernel_rfl) (by kernel_rfl) (fun _ _ h => h) ?_
    have hS := hK0
    refine take_d (i := 0) (d := some 18) (v := .int .i64 (x : Int)) rfl rfl (by kernel_rfl) (by kernel_rfl) (by kernel_rfl) (fun _ _ _ h => h) (.inl ⟨by rfl, fun W hW => by go_simp⟩) hS ?_
    try simp only [Act.put, List.setIfInBounds_toArray, List.set_cons_zero, List.set_cons_succ]
    refine take_d (i := 1) (d := some 19) (v := .int .i64 lst) rfl rfl (by kernel_rfl) (by kernel_rfl) (by kernel_rfl) (fun _ _ _ h => h) (.inl ⟨by rfl, fun W hW => by have q := hW.1; go_simp⟩) hS ?_
    try simp only [Act.put, List.setIfInBounds_toArray, List.set_cons_zero, List.set_cons_succ]
    refine take_d (i := 2) (d := some 20) (v := .bool false) rfl rfl (by kernel_rfl) (by kernel_rfl) (by kernel_rfl) (fun _ _ _ h => h) (.inl ⟨by rfl, fun W hW => by have q := hxl; go_simp⟩) hS ?_
    try simp only [Act.put, List.setIfInBounds_toArray, List.set_cons_zero, List.set_cons_succ]
    refine take_d (i := 3) (d := some 21) (v := .bool false) rfl rfl (by kernel_rfl) (by kernel_rfl) (by kernel_rfl) (fun _ _ _ h => h) (.inl ⟨by rfl, fun W hW => by go_simp⟩) hS ?_
    try simp only [Act.put, List.setIfInBounds_toArray, List.set_cons_zero, List.set_cons_succ]
    refine take_d (i := 4) (d := some 22) (v := .int .i64 (x : Int)) rfl rfl (by kernel_rfl) (by kernel_rfl) (by kernel_rfl) (fun _ _ _ h => h) (.inl ⟨by rfl, fun W hW => by go_simp⟩) hS ?_
    try simp only [Act.put, List.setIfInBounds_toArray, List.set_cons_zero, List.set_cons_succ]
    refine take_d (i := 5) (d := some 23) (v := .bool false) rfl rfl (by kernel_rfl) (by kernel_rfl) (by kernel_rfl) (fun _ _ _ h => h) (.inl ⟨by rfl, fun W hW => by have q := hx4'; go_simp⟩) hS ?_
    try simp only [Act.put, List.setIfInBounds_toArray, List.set_cons_zero, List.set_cons_succ]
    refine take_d (i := 6) (d := some 24) (v := .bool false) rfl rfl (by kernel_rfl) (by kernel_rfl) (by kernel_rfl) (fun _ _ _ h => h) (.inl ⟨by rfl, fun W hW => by go_simp⟩) hS ?_
    try simp only [Act.put, List.setIfInBounds_toArray, List.set_cons_zero, List.set_cons_succ]
    refine take_d (i := 7) (d := some 25) (v := .bool false) rfl rfl (by kernel_rfl) (by kernel_rfl) (by kernel_rfl) (fun _ _ _ h => h) (.inl ⟨by rfl, fun W hW => by go_simp⟩) hS ?_
    try simp only [Act.put, List.setIfInBounds_toArray, List.set_cons_zero, List.set_cons_succ]
    refine take_d (i := 8) (d := some 26) (v := .agg #[.bool (t.g x).th, .int .u32 (t.g x).pg, .int .u32 (t.g x).fr, .bool (t.g x).wr]) rfl rfl (by kernel_rfl) (by kernel_rfl) (by kernel_rfl) (fun _ _ _ h => h) (y_E (by kernel_rfl) rfl rfl (fun W hW => hW.2.1)) hS ?_
    try simp only [Act.put, List.setIfInBounds_toArray, List.set_cons_zero, List.set_cons_succ]
    refine take_d (i := 9) (d := some 27) (v := .int .i64 (x : Int)) rfl rfl (by kernel_rfl) (by kernel_rfl) (by kernel_rfl) (fun _ _ _ h => h) (.inl ⟨by rfl, fun W hW => by go_simp⟩) hS ?_
    try simp only [Act.put, List.setIfInBounds_toArray, List.set_cons_zero, List.set_cons_succ]
    refine take_d (i := 10) (d := some 28) (v := .pointer (some ⟨w.heap.size, 0, none⟩)) rfl rfl (by kernel_rfl) (by kernel_rfl) (by kernel_rfl) (fun _ _ _ h => h) (.inl ⟨by rfl, fun W hW => by go_simp⟩) hS ?_
    try simp only [Act.put, List.setIfInBounds_toArray, List.set_cons_zero, List.set_cons_succ]
    refine take_d (i := 11) (d := some 29) (v := .pointer (some ⟨w.heap.size, x * 4, none⟩)) rfl rfl (by kernel_rfl) (by kernel_rfl) (by kernel_rfl) (fun _ _ _ h => h) (.inl ⟨by rfl, fun W hW => by have q := hx44; go_simp⟩) hS ?_
    try simp only [Act.put, List.setIfInBounds_toArray, List.set_cons_zero, List.set_cons_succ]
    refine take_d (i := 12) (d := some 30) (v := .agg #[.bool (t.g x).th, .int .u32 (t.g x).pg, .int .u32 (t.g x).fr, .bool (t.g x).wr]) rfl rfl (by kernel_rfl) (by kernel_rfl) (by kernel_rfl) (fun _ _ _ h => h) (y_E (by kernel_rfl) rfl rfl (fun W hW => hW.2.2.1)) hS ?_
    try simp only [Act.put, List.setIfInBounds_toArray, List.set_cons_zero, List.set_cons_succ]
    refine take_d (i := 13) (d := some 31) (v := .bool false) rfl rfl (by kernel_rfl) (by kernel_rfl) (by kernel_rfl) (fun _ _ _ h => h) (.inl ⟨by rfl, fun W hW => by have q := HNE.out; go_simp⟩) hS ?_
    try simp only [Act.put, List.setIfInBounds_toArray, List.set_cons_zero, List.set_cons_succ]
    refine take_d (i := 14) (d := some 32) (v := .bool false) rfl rfl (by kernel_rfl) (by kernel_rfl) (by kernel_rfl) (fun _ _ _ h => h) (.inl ⟨by rfl, fun W hW => by go_simp⟩) hS ?_
    try simp only [Act.put, List.setIfInBounds_toArray, List.set_cons_zero, List.set_cons_succ]
    refine take_d (i := 15) (d := some 33) (v := .bool false) rfl rfl (by kernel_rfl) (by kernel_rfl) (by kernel_rfl) (fun _ _ _ h => h) (.inl ⟨by rfl, fun W hW => by go_simp⟩) hS ?_
    try simp only [Act.put, List.setIfInBounds_toArray, List.set_cons_zero, List.set_cons_succ]
    refine take_d (i := 16) (d := some 34) (v := .pointer (some ⟨b, 0, none⟩)) rfl rfl (by kernel_rfl) (by kernel_rfl) (by kernel_rfl) (fun _ _ _ h => h) (.inl ⟨by rfl, fun W hW => by go_simp⟩) hS ?_
    try simp only [Act.put, List.setIfInBounds_toArray, List.set_cons_zero, List.set_cons_succ]
    refine take_d (i := 17) (d := some 35) (v := .bool true) rfl rfl (by kernel_rfl) (by kernel_rfl) (by kernel_rfl) (fun _ _ _ h => h) (.inl ⟨by rfl, fun W hW => by have q := hW.2.2.2; go_simp⟩) hS ?_
    try simp only [Act.put, List.setIfInBounds_toArray, List.set_cons_zero, List.set_cons_succ]
    refine take_d (i := 18) (d := some 36) (v := .bool false) rfl rfl (by kernel_rfl) (by kernel_rfl) (by kernel_rfl) (fun _ _ _ h => h) (.inl ⟨by rfl, fun W hW => by go_simp⟩) hS ?_
    try simp only [Act.put, List.setIfInBounds_toArray, List.set_cons_zero, List.set_cons_succ]
    refine take_d (i := 19) (d := some 37) (v := .bool false) rfl rfl (by kernel_rfl) (by kernel_rfl) (by kernel_rfl) (fun _ _ _ h => h) (.inl ⟨by rfl, fun W hW => by go_simp⟩) hS ?_
    try simp only [Act.put, List.setIfInBounds_toArray, List.set_cons_zero, List.set_cons_succ]
    refine wpAnyH_done (by kernel_rfl) ?_ _
    clear hK0 hS
    gi_wp2
    obtain ⟨hB1, hT1⟩ := is_set HX9.out (x : Int) (pre.length + 1) (W' := (W.setCell ⟨w.heap.size + 1 + 1, 0, none⟩ (.int .i64 (x : Int))).setCell ⟨w.heap.size + 1 + 1 + 1, 0, none⟩ (.int .i64 ((pre.length : Int) + 1))) (by rw [Int.natCast_add]; rfl)
    exact ⟨KeptBut.ofTurned hT1.drew, (x : Int), HN.out, by rw [List.length_append]; exact hB1.drew⟩
  case done =>
    rintro D0 W9 hD0 ⟨lst, _, hX9⟩ hK
    have hX9' : Bxs w (isL w.heap.size t false lst t.many) W9 := by rw [← wks_len]; exact hX9
    have HX9 := Lib.hid hX9'
    have HK := Lib.hid hK
    have hz9 := (is_facts hX9').2.2.2.lt
    clear hX9 hX9' hK hB hr HX
    go_wp2_with fail
    refine (All_any (HA.out _ HX9.out.below)).mono ?_
    rintro e W3 ⟨g3, c3, rfl, hr3, hg3, hc3, hb3⟩
    have HX3 := Lib.hid (HX9.out.after hb3)
    have HR3 := Lib.hid hr3
    have HK3 := Lib.hid (show W3.heap[D0]? = some (.deferred (some [])) from (hb3.block _ (Array.getElem?_eq_some_iff.1 HK.out).1).trans HK.out)
    have hz3 := hb3.size
    clear hb3 hr3 HX9 HK
    have hMl := many_le t
    go_wp2
    go_loopw [10] (fun q wr => ∃ k : Nat, k ≤ 4 ∧ q = .int .i64 (k : Int) ∧ Hid (Bxs w (isL w.heap.size t false lst t.many) wr) ∧ Hid (Row4 wr g3 t) ∧ Hid (wr.heap[D0]? = some (.deferred (some [])))) (fun q _ => 5 - (intOf q).toNat)
    case atStart => exact ⟨0, by omega, rfl, HX3.out, HR3.out, HK3.out⟩
    case round =>
      clear HX3 HR3 HK3
      obtain ⟨k, hk, rfl, HX, HR, HK⟩ := hrel
      by_cases hlt : k < 4
      · have hi : (k : Int) < 4 := by omega
        have HNE := Lib.hid (neqE (t.g k))
        have hK0 : (fun W => W.rangeAt g3 (k * 4) (cE (t.g k)) ∧ W.rangeAt w.heap.size (k * 4) (cE (t.g k))) wr.drew :=
          ⟨(HR.out.below (Below.refl _ _).drew).ent hlt, (Rf.ent (is_facts HX.out.drew).1 hlt)⟩
        go_wp2
        refine wp_region_noPanic ?_
        refine wp_region_held_drew (S := (fun W => W.rangeAt g3 (k * 4) (cE (t.g k)) ∧ W.rangeAt w.heap.size (k * 4) (cE (t.g k)))) (by kernel_rfl) hK0 (fun _ => ?_)
        have hS := hK0
        refine take_d (i := 0) (d := some 50) (v := .slice (some ⟨g3, 0, none⟩) 4 c3) rfl rfl (by kernel_rfl) (by kernel_rfl) (by kernel_rfl) (fun _ _ _ h => h) (.inl ⟨by rfl, fun W hW => by go_simp⟩) hS ?_
        try simp only [Act.put, List.setIfInBounds_toArray, List.set_cons_zero, List.set_cons_succ]
        refine take_d (i := 1) (d := some 51) (v := .int .i64 (k : Int)) rfl rfl (by kernel_rfl) (by kernel_rfl) (by kernel_rfl) (fun _ _ _ h => h) (.inl ⟨by rfl, fun W hW => by go_simp⟩) hS ?_
        try simp only [Act.put, List.setIfInBounds_toArray, List.set_cons_zero, List.set_cons_succ]
        refine take_d (i := 2) (d := some 52) (v := .pointer (some ⟨g3, k * 4, none⟩)) rfl rfl (by kernel_rfl) (by kernel_rfl) (by kernel_rfl) (fun _ _ _ h => h) (.inl ⟨by rfl, fun W hW => by have q := hi; go_simp⟩) hS ?_
        try simp only [Act.put, List.setIfInBounds_toArray, List.set_cons_zero, List.set_cons_succ]
        refine take_d (i := 3) (d := some 53) (v := .agg #[.bool (t.g k).th, .int .u32 (t.g k).pg, .int .u32 (t.g k).fr, .bool (t.g k).wr]) rfl rfl (by kernel_rfl) (by kernel_rfl) (by kernel_rfl) (fun _ _ _ h => h) (y_E (by kernel_rfl) rfl rfl (fun W hW => hW.1)) hS ?_
        try simp only [Act.put, List.setIfInBounds_toArray, List.set_cons_zero, List.set_cons_succ]
        refine take_d (i := 4) (d := some 54) (v := .int .i64 (k : Int)) rfl rfl (by kernel_rfl) (by kernel_rfl) (by kernel_rfl) (fun _ _ _ h => h) (.inl ⟨by rfl, fun W hW => by go_simp⟩) hS ?_
        try simp only [Act.put, List.setIfInBounds_toArray, List.set_cons_zero, List.set_cons_succ]
        refine take_d (i := 5) (d := some 55) (v := .pointer (some ⟨w.heap.size, 0, none⟩)) rfl rfl (by kernel_rfl) (by kernel_rfl) (by kernel_rfl) (fun _ _ _ h => h) (.inl ⟨by rfl, fun W hW => by go_simp⟩) hS ?_
        try simp only [Act.put, List.setIfInBounds_toArray, List.set_cons_zero, List.set_cons_succ]
        refine take_d (i := 6) (d := some 56) (v := .pointer (some ⟨w.heap.size, k * 4, none⟩)) rfl rfl (by kernel_rfl) (by kernel_rfl) (by kernel_rfl) (fun _ _ _ h => h) (.inl ⟨by rfl, fun W hW => by have q := hi; go_simp⟩) hS ?_
        try simp only [Act.put, List.setIfInBounds_toArray, List.set_cons_zero, List.set_cons_succ]
        refine take_d (i := 7) (d := some 57) (v := .agg #[.bool (t.g k).th, .int .u32 (t.g k).pg, .int .u32 (t.g k).fr, .bool (t.g k).wr]) rfl rfl (by kernel_rfl) (by kernel_rfl) (by kernel_rfl) (fun _ _ _ h => h) (y_E (by kernel_rfl) rfl rfl (fun W hW => hW.2)) hS ?_
        try simp only [Act.put, List.setIfInBounds_toArray, List.set_cons_zero, List.set_cons_succ]
        refine take_d (i := 8) (d := some 58) (v := .bool false) rfl rfl (by kernel_rfl) (by kernel_rfl) (by kernel_rfl) (fun _ _ _ h => h) (.inl ⟨by rfl, fun W hW => by have q := HNE.out; go_simp⟩) hS ?_
        try simp only [Act.put, List.setIfInBounds_toArray, List.set_cons_zero, List.set_cons_succ]
        refine wpAnyH_done (by kernel_rfl) ?_ _
        refine NoPanic.normal ?_
        clear hK0 hS
        go_wp2
        go_roundw
        case rel => exact ⟨k + 1, by omega, by go_num, HX.out.drew, HR.out.below (Below.refl _ _).drew, HK.out⟩
        case measure => simp [intOf]; omega
      · obtain rfl : k = 4 := by omega
        have hMany := fun W => RMany_any t W
        obtain ⟨k0, k1, k2, k3⟩ := is_facts HX.out.drew
        have hc3' := k3.cell 0
        simp only [List.getElem?_toArray, List.getElem?_cons_zero] at hc3'
        have hK0 : (fun W => W.cell? ⟨w.heap.size + 1 + 1 + 1, 0, none⟩ = some (.int .i64 (t.many : Int)) ∧ Rf W w.heap.size t) wr.drew := ⟨hc3', k0⟩
        have hA0 : Bxs w (isL w.heap.size t false lst t.many) wr.drew ∧ wr.drew.heap[D0]? = some (.deferred (some [])) := ⟨HX.out.drew, HK.out⟩
        have HA0 := Lib.hid hA0
        clear k0 k1 k2 k3 hc3' hA0
        go_wp2
        refine wp_region_noPanic ?_
        refine wp_region_held_drew (S := (fun W => W.cell? ⟨w.heap.size + 1 + 1 + 1, 0, none⟩ = some (.int .i64 (t.many : Int)) ∧ Rf W w.heap.size t)) (by kernel_rfl) hK0 (fun _ => ?_)
        have hS := hK0
        refine take_d (i := 0) (d := some 59) (v := .int .i64 (t.many : Int)) rfl rfl (by kernel_rfl) (by kernel_rfl) (by kernel_rfl) (fun _ _ _ h => h) (.inl ⟨by rfl, fun W hW => by have q := hW.1; go_simp⟩) hS ?_
        try simp only [Act.put, List.setIfInBounds_toArray, List.set_cons_zero, List.set_cons_succ]
        refine take_d (i := 1) (d := some 60) (v := .agg (rc t)) rfl rfl (by kernel_rfl) (by kernel_rfl) (by kernel_rfl) (fun _ _ _ h => h) (y_R (by kernel_rfl) rfl rfl (fun W hW => hW.2)) hS ?_
        try simp only [Act.put, List.setIfInBounds_toArray, List.set_cons_zero, List.set_cons_succ]
        refine wpAnyH_all (rs := [2]) (by kernel_rfl) (by simp) (fun i hi => ?_)
        simp only [List.mem_cons, List.not_mem_nil, or_false] at hi
        subst hi
        refine .inl ?_
        go_simp
        refine (RMany_any t _).mono ?_
        rintro e wc ⟨rfl, hb⟩
        have hA := isA_after HA0.out hb
        have hS : (fun W => W.cell? ⟨w.heap.size + 1 + 1 + 1, 0, none⟩ = some (.int .i64 (t.many : Int)) ∧ Rf W w.heap.size t) wc := ⟨(is_facts hA.1).2.2.2.cell 0, (is_facts hA.1).1⟩
        refine ⟨hS, ?_⟩
        clear hb
        try simp only [Act.put, List.setIfInBounds_toArray, List.set_cons_zero, List.set_cons_succ]
        refine take_d (i := 3) (d := some 62) (v := .bool true) rfl rfl (by kernel_rfl) (by kernel_rfl) (by kernel_rfl) (fun _ _ _ h => h) (.inl ⟨by rfl, fun W hW => by go_simp⟩) hS ?_
        try simp only [Act.put, List.setIfInBounds_toArray, List.set_cons_zero, List.set_cons_succ]
        refine take_d (i := 4) (d := some 63) (v := .bool true) rfl rfl (by kernel_rfl) (by kernel_rfl) (by kernel_rfl) (fun _ _ _ h => h) (.inl ⟨by rfl, fun W hW => by go_simp⟩) hS ?_
        try simp only [Act.put, List.setIfInBounds_toArray, List.set_cons_zero, List.set_cons_succ]
        refine take_d (i := 5) (d := some 64) (v := .pointer (some ⟨S, 0, none⟩)) rfl rfl (by kernel_rfl) (by kernel_rfl) (by kernel_rfl) (fun _ _ _ h => h) (.inl ⟨by rfl, fun W hW => by go_simp⟩) hS ?_
        try simp only [Act.put, List.setIfInBounds_toArray, List.set_cons_zero, List.set_cons_succ]
        refine take_d (i := 7) (d := some 66) (v := .pointer (some ⟨w.heap.size, 16, none⟩)) rfl rfl (by kernel_rfl) (by kernel_rfl) (by kernel_rfl) (fun _ _ _ h => h) (.inl ⟨by rfl, fun W hW => by go_simp⟩) hS ?_
        try simp only [Act.put, List.setIfInBounds_toArray, List.set_cons_zero, List.set_cons_succ]
        refine take_d (i := 8) (d := some 67) (v := .int .i64 (t.nx : Int)) rfl rfl (by kernel_rfl) (by kernel_rfl) (by kernel_rfl) (fun _ _ _ h => h) (.inl ⟨by rfl, fun W hW => by have q := Rf.next hW.2; go_simp⟩) hS ?_
        try simp only [Act.put, List.setIfInBounds_toArray, List.set_cons_zero, List.set_cons_succ]
        refine wpAnyH_all (rs := [6]) (by kernel_rfl) (by simp) (fun i hi => ?_)
        simp only [List.mem_cons, List.not_mem_nil, or_false] at hi
        subst hi
        refine .inl ?_
        go_simp
        refine (Next_any (HA.out _ hA.1.below)).mono ?_
        rintro e wc ⟨rfl, rfl⟩
        refine ⟨hS, ?_⟩
        try simp only [Act.put, List.setIfInBounds_toArray, List.set_cons_zero, List.set_cons_succ]
        refine take_d (i := 9) (d := some 68) (v := .bool true) rfl rfl (by kernel_rfl) (by kernel_rfl) (by kernel_rfl) (fun _ _ _ h => h) (.inl ⟨by rfl, fun W hW => by go_simp⟩) hS ?_
        try simp only [Act.put, List.setIfInBounds_toArray, List.set_cons_zero, List.set_cons_succ]
        refine take_d (i := 10) (d := some 69) (v := .bool true) rfl rfl (by kernel_rfl) (by kernel_rfl) (by kernel_rfl) (fun _ _ _ h => h) (.inl ⟨by rfl, fun W hW => by go_simp⟩) hS ?_
        try simp only [Act.put, List.setIfInBounds_toArray, List.set_cons_zero, List.set_cons_succ]
        refine wpAnyH_all (rs := [11]) (by kernel_rfl) (by simp) (fun i hi => ?_)
        simp only [List.mem_cons, List.not_mem_nil, or_false] at hi
        subst hi
        refine .inl ?_
        refine o_store_bool (v := true) ((is_facts hA.1).2.1.cell 0) ((is_facts hA.1).2.1.frozen 0) rfl rfl rfl ?_
        have hA := isA_res hA
        have hS : (fun W => W.cell? ⟨w.heap.size + 1 + 1 + 1, 0, none⟩ = some (.int .i64 (t.many : Int)) ∧ Rf W w.heap.size t) _ := ⟨(is_facts hA.1).2.2.2.cell 0, (is_facts hA.1).1⟩
        refine ⟨hS, ?_⟩
        try simp only [Act.put, List.setIfInBounds_toArray, List.set_cons_zero, List.set_cons_succ]
        refine wpAnyH_done (by kernel_rfl) ?_ _
        refine NoPanic.normal ?_
        have HA1 := Lib.hid hA
        clear hK0 hS hA HX HR HK HA0 hMany HA
        go_wp2
        refine ⟨by simp, .inl ⟨_, _, rfl, run_takeDeferred HA1.out.2, ?_⟩⟩
        have hc9 : ((wc.setCell ⟨w.heap.size + 1, 0, none⟩ (.bool true)).putObj D0 (.deferred none)).cell? ⟨w.heap.size + 1, 0, none⟩ = some (.bool true) := (cell_putObj (show w.heap.size + 1 ≠ D0 by omega)).trans ((is_facts HA1.out.1).2.1.cell 0)
        have hbl : Below w.heap.size w ((wc.setCell ⟨w.heap.size + 1, 0, none⟩ (.bool true)).putObj D0 (.deferred none)) := HA1.out.1.below.trans (belowK_b (w := w) (Nat.le_refl _) _ D0 _ _ (by omega) HA1.out.2 rfl rfl)
        refine ⟨.bool true, by simp [results, Try.results11, go_sem, hc9], rfl, hbl⟩
end Go.Proofs.Ytafkjokbidkkhaa

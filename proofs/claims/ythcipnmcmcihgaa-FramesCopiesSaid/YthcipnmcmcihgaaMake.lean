/-
  Layer 5: dividers, Clone, New, Of: walks.
-/
import Derived.Test.YthcipnmcmcihgaaLeaf
import Derived.Laws.MakeOwn
namespace Go.Proofs.Ythcipnmcmcihgaa
open Go.RowKit
set_option maxHeartbeats 1000000

/-- A map literal's entry, at the operation. -/
theorem wpList_insert_own {H : Type} {P : Program} (w : World) {ops : Array Oper} {rest : List Oper} {o : Oper} {a : Act} {Q : Exit → Act → World → Prop}
    (hg : o.guard = none) (m x v : Operand) (t : TypeId) (hop : o.op = Op.insert t m x v)
    (k e : TypeId) (K : Maps.Keyed P k) (ht : P.underlying t = some (.map k e)) (R : Value → Option (DataW H × List MemPlace)) (b n : Nat) (D : DataW H)
    (hm : a.eval m = .map (some b)) (hown : w.ownsMap P k R b n D) (hn : n < maxLen) (key val : Value) (kl : Lit) (hx : a.eval x = key) (hv : a.eval v = val) (hkey : keyOf P k key = some kl)
    (d : DataW H) (ps : List MemPlace) (hval : R val = some (d, ps))
    (hK : ∀ w', w'.ownsMap P k R b (n + 1) (D.put kl d) → w.mapTurned w' b → wpList P ops Q rest (a.put o.dst undef) w') :
    wpList P ops Q (o :: rest) a w := by
  refine wpList_plain hg fun K' hK' => ?_
  obtain ⟨w', hrun, r1, r2⟩ := hown.store K ht hn hkey hval
  unfold Oper.wp
  simp [execOp, hop, hm, hx, hv, hrun, Result.andThen]
  exact hK' _ _ (hK w' r1 r2)
theorem turned_size {w w' : World} {b : Nat} (h : w.mapTurned w' b) : w'.heap.size = w.heap.size := by
  obtain ⟨es, clock, es', clock', _, rfl⟩ := h
  simp [ChangeMaps.setBlock]
theorem numLaw : Maps.Keyed Try.prog 3 := Maps.int_keyed Try.underlying3
theorem key_int {x : Int} (h : (Lit.int .i64 x).wf = true) : keyOf Try.prog 3 (.int .i64 x) = some (.int .i64 x) := Maps.keyOf_int_mk Try.underlying3 h
theorem isKey (x : Int) : WideAt.IsKeyLit (Lit.int .i64 x) := trivial
theorem zeroU32 (w : World) : (zeroValue 34).run Try.prog w = .ok (.int .u32 0) w := by kernel_rfl
/-- What divides the addresses of values that wide. -/
def dv (k : Int) : Int := if k = 4 then 4 else if k = 1 then 1 else 0
def dvD : DataW Unit := ((DataW.map []).put (.int .i64 1) (.lit (.int .u32 1))).put (.int .i64 4) (.lit (.int .u32 4))
theorem isMap0 : Maps.IsMap (DataW.map [] : DataW Unit) := Maps.isMap_empty
theorem isMap1 : Maps.IsMap ((DataW.map [] : DataW Unit).put (.int .i64 1) (.lit (.int .u32 1))) := Maps.isMap_empty.put _ _
theorem u32_ok {x : Int} (h : W32 x) : (Lit.int .u32 x).wf = true := by
  unfold W32 at h
  simp [Lit.wf, IntKind.min, IntKind.max, IntKind.signed, IntKind.bits]; omega
theorem look_dv {w : World} {b : Nat} (h : w.ownsMap Try.prog 3 (plainElem Try.prog 34) b 2 dvD) {k : Int} (hk : (Lit.int .i64 k).wf = true) :
    (Instr.lookup 62 (.map (some b)) (.int .i64 k) false).run Try.prog w = .ok (.int .u32 (dv k)) w := by
  obtain ⟨v, ps, hr, hv⟩ := h.lookup numLaw Try.underlying62 (zeroU32 w) (plainElem_int Try.underlying34 (u32_ok ⟨by omega, by omega⟩)) (key_int hk)
  obtain ⟨a, rfl, ha, _⟩ := plainElem_int_inv Try.underlying34 hv
  rw [hr]
  have e : dvD.atKey (.int .i64 k) (.lit (.int .u32 0)) = .lit (.int .u32 (dv k)) := by
    unfold dvD dv
    by_cases h4 : k = 4
    · subst h4
      rw [Maps.atKey_put_same isMap1 (isKey 4)]; rfl
    · rw [Maps.atKey_put_other (by simpa using h4), if_neg h4]
      by_cases h1 : k = 1
      · subst h1
        rw [Maps.atKey_put_same isMap0 (isKey 1)]; rfl
      · rw [Maps.atKey_put_other (by simpa using h1), if_neg h1]
        rfl
  rw [e] at ha
  simp only [Prod.mk.injEq, DataW.lit.injEq, Lit.int.injEq, true_and] at ha
  rw [ha.1]
theorem dividers_any (w : World) : Calls Try.prog 33 #[] w fun e w' => e = .returned (.map (some w.heap.size)) ∧ w'.ownsMap Try.prog 3 (plainElem Try.prog 34) w.heap.size 2 dvD ∧ Below w.heap.size w w' := by
  have hmm := @run_makeMap Try.prog
  have hown := World.ownsMap_made w Try.prog 3 (plainElem (H := Unit) Try.prog 34)
  have HB := Lib.hid ((Below.refl w.heap.size w).alloc (Nat.le_refl _) (.map #[] 0))
  go_enter Try.func33, Try.ntmps33
  go_wp2_with (refine wpList_insert_own _ rfl _ _ _ 62 rfl 3 34 numLaw Try.underlying62 _ w.heap.size 0 _ rfl hown (by decide) _ _ _ rfl rfl (key_int (wf_i64 (by omega) (by omega))) _ [] (plainElem_int Try.underlying34 (u32_ok ⟨by omega, by omega⟩)) ?_)
  intro w1 hown1 ht1
  have HB1 := Lib.hid (HB.out.grown ht1.grown (by simp) (by intro k e; cases e; omega))
  go_wp2_with (refine wpList_insert_own _ rfl _ _ _ 62 rfl 3 34 numLaw Try.underlying62 _ w.heap.size 1 _ rfl hown1 (by decide) _ _ _ rfl rfl (key_int (wf_i64 (by omega) (by omega))) _ [] (plainElem_int Try.underlying34 (u32_ok ⟨by omega, by omega⟩)) ?_)
  intro w2 hown2 ht2
  have HB2 := Lib.hid (HB1.out.grown ht2.grown (by rw [turned_size ht1]; simp) (by intro k e; cases e; omega))
  have HO := Lib.hid hown2
  clear hown1 hown2 hown ht1 ht2
  go_wp2
  go_ret
  exact ⟨rfl, HO.out, HB2.out⟩

theorem A.infoB : (Try.prog.info? 5).map (fun i => (i.zero, i.size, i.bytes)) = some (some (.int .u8 0), 1, 1) := by kernel_rfl
theorem sl_eql_nil (w : World) (a : Option Addr) (n c n' c' : Nat) : (binOp .eql 22 (.slice a n c) (.slice none n' c')).run Try.prog w = .ok (.bool a.isNone) w := Lib.run_eql_slice_nil w _ _ a n c n' c' Try.underlying22
set_option maxRecDepth 100000 in
theorem Clone_any (v : Value) (xs : List Int) (w : World) (h : NumsIn .u8 w v xs) (h0 : 0 < xs.length) (hm : xs.length ≤ 65536) :
    Calls Try.prog 28 #[v] w fun e w' => ∃ g' c', e = .returned (.slice (some ⟨g', 0, none⟩) xs.length c') ∧ w'.ownsRow w.heap.size 5 1 (.slice (some ⟨g', 0, none⟩) xs.length c') xs.length (bv xs) ∧ Below w.heap.size w w' := by
  obtain ⟨i0, hi, hz0, hz1, hz2⟩ := info_parts A.infoB
  have hq := fun (w : World) (a : Option Addr) (n c n' c' : Nat) => sl_eql_nil w a n c n' c'
  obtain ⟨a, c, rfl, hcap, hlen, A0, _⟩ : ∃ (a : Addr) (c : Nat), v = .slice (some a) xs.length c ∧ xs.length ≤ c ∧ xs.length ≤ maxLen ∧ (∀ (i : Nat) x, xs[i]? = some x → w.cell? (a.add i) = some (.int .u8 x)) ∧ ∀ x ∈ xs, (Lit.int .u8 x).wf = true := by
    rcases h with ⟨_, rfl⟩ | h
    · simp at h0
    · exact h
  have A : Hid (∀ j u, (bv xs)[j]? = some u → w.cell? (a.add j) = some u) := fun j u hj => by
    rw [bv_at] at hj
    obtain ⟨x, hx, rfl⟩ := Option.map_eq_some_iff.1 hj
    exact A0 j x hx
  have hbl := bv_length xs
  have HC := Lib.hid hcap
  clear A0 hcap
  go_enter Try.func28, Try.ntmps28
  go_wp2_with (at_builtin; refine wpList_append_own_at _ rfl _ _ 22 rfl w.heap.size 5 i0 (.int .u8 0) 1 1 Try.underlying22 hi hz0 hz1 hz2 rfl (by decide) _ _ _ rfl (World.ownsRow_made w #[] 0 (Nat.le_refl _) (Nat.zero_le _) (by simp)) a xs.length c (bv xs) rfl (by simp [hbl]) ?qc1 (bv_one xs) (by unfold maxLen; omega) (by omega) (by simp) ?_)
  case qc1 =>
    intro j u hj
    have h1 := A.out j u hj
    rw [World.cell?_alloc_lt _ _ _ (World.block_lt_of_cell? _ _ h1)]
    exact h1
  intro v' w1 hown hgrow hnil _
  obtain ⟨g', c', rfl⟩ : ∃ g' c', v' = .slice (some ⟨g', 0, none⟩) xs.length c' := by
    rcases hown.2 with ⟨h0, _⟩ | ⟨g', cap, cur, hv, _⟩
    · exact absurd h0 hnil
    · exact ⟨g', cap, by simpa using hv⟩
  have hown' : w1.ownsRow w.heap.size 5 1 (.slice (some ⟨g', 0, none⟩) xs.length c') xs.length (bv xs) := by simpa using hown
  have HO := Lib.hid hown'
  have HB := Lib.hid (((Below.refl w.heap.size w).alloc (Nat.le_refl _) (.cells #[] 5)).grown hgrow (by simp) (by intro k hk; simp [Value.ownBlock] at hk; omega))
  clear hown hown' hgrow hnil
  go_wp2
  go_ret
  exact ⟨g', c', rfl, HO.out, HB.out⟩

/-! ### New -/
theorem New_bad (k : Int) (h : ¬ (1 ≤ k ∧ k ≤ 32)) (w : World) : Calls Try.prog 11 #[.int .i64 k] w fun e w' => e = .returned (.tuple #[.pointer none, .int .i64 2]) ∧ w = w' := by
  have HM := Lib.hid (fun W => mayBe_any k W)
  have hd : (decide (1 ≤ k) && decide (k ≤ 32)) = false := by simp; omega
  rw [hd] at HM
  clear hd h
  go_enter Try.func11, Try.ntmps11
  go_wp2_with (go_at_call 27; refine (HM.out _).mono ?_; rintro e w' ⟨rfl, rfl⟩)
  go_ret2
  exact ⟨rfl, rfl⟩
theorem made_zeros (n : Nat) : madeCells (Value.int .u8 0).cells n = (bv (List.replicate n 0) ++ []).toArray := by
  simp only [madeCells, Value.cells, bv, List.map_replicate, List.append_nil]
  apply Array.ext
  · simp
  · intro i h1 h2
    simp [Nat.mod_one]
theorem frIs_new {w : World} {g c : Nat} {l : List Int} (hb : Byt l) (h0 : 64 ≤ l.length) (h1 : l.length ≤ 2048) (h2 : l.length % 64 = 0) (hc : l.length ≤ c) (hm : c ≤ maxLen) (hr : RowAt w g l) :
    Fr (w.alloc (.cells #[.slice (some ⟨g, 0, none⟩) l.length c] 55)) w.heap.size l (frB w.heap.size g) :=
  ⟨g, c, rfl, hb, h0, h1, h2, hc, hm, heap_alloc_new w _, hr.keep (Below.heap_alloc _ _ _ hr.lt)⟩
theorem New_any (P : Nat) (h0 : 1 ≤ P) (h1 : P ≤ 32) (w : World) : Calls Try.prog 11 #[.int .i64 (P : Int)] w fun e w' =>
    ∃ S F, e = .returned (.tuple #[.pointer (some ⟨S, 0, none⟩), .int .i64 0]) ∧ Fr w' S (List.replicate (64 * P) 0) F ∧ (∀ k, F k → w.heap.size ≤ k) ∧ Below w.heap.size w w' := by
  obtain ⟨i0, hi, hz0, hz1, hz2⟩ := info_parts A.infoB
  have HM := Lib.hid (fun W => mayBe_any P W)
  have hd : (decide (1 ≤ (P : Int)) && decide ((P : Int) ≤ 32)) = true := by simp; omega
  rw [hd] at HM
  clear hd
  have hmk : ∀ W : World, (Instr.makeSlice 22 (.int .i64 ((P : Int) * 64)) (.int .i64 ((P : Int) * 64))).run Try.prog W = .ok (.slice (some ⟨W.heap.size, 0, none⟩) (64 * P) (64 * P)) (W.alloc (.cells (bv (List.replicate (64 * P) 0) ++ []).toArray 5)) := fun W => by
    have hr := run_make (P := Try.prog) W 22 5 i0 (.int .u8 0) Try.underlying22 hi hz0 .i64 .i64 ((P : Int) * 64) ((P : Int) * 64) (by omega) (by omega) (by rw [hz2]; omega) (by omega)
    rw [hr, hz1]
    have e : ((P : Int) * 64).toNat = 64 * P := by omega
    rw [e, Nat.mul_one, made_zeros]
  have HN := Lib.hid (frIs_new (byt_zeros (64 * P)) (by simp; omega) (by simp; omega) (by simp) (c := 64 * P) (by simp) (by unfold maxLen; omega) (rowAt_new w (List.replicate (64 * P) 0) []))
  go_enter Try.func11, Try.ntmps11
  go_wp2_with (go_at_call 27; refine (HM.out _).mono ?_; rintro e w' ⟨rfl, rfl⟩)
  go_ret2
  have hN := HN.out
  simp only [List.length_replicate, List.append_nil, World.size_alloc] at hN
  refine ⟨_, _, rfl, hN, ?_, ((Below.refl _ _).alloc (Nat.le_refl _) _).alloc (by simp) _⟩
  rintro k (rfl | rfl)
  · simp
  · omega

/-! ### Of -/
theorem Of_bad (v : Value) (xs : List Int) (w : World) (h : NumsIn .u8 w v xs) (hn : ¬ (64 ≤ xs.length ∧ xs.length ≤ 2048 ∧ xs.length % 64 = 0)) :
    Calls Try.prog 12 #[v] w fun e w' => e = .returned (.tuple #[.pointer none, .int .i64 2]) ∧ w = w' := by
  obtain ⟨o, c, rfl, _, hl, _⟩ := h.form
  unfold maxLen at hl
  have hm : (xs.length : Int).tmod 64 = (xs.length : Int) % 64 := Int.tmod_eq_emod_of_nonneg (by omega)
  have hq : (xs.length : Int).tdiv 64 = (xs.length : Int) / 64 := Int.tdiv_eq_ediv_of_nonneg (by omega)
  by_cases h64 : (xs.length : Int) % 64 = 0
  · have HM := Lib.hid (fun W => mayBe_any ((xs.length : Int) / 64) W)
    have hd : (decide (1 ≤ (xs.length : Int) / 64) && decide ((xs.length : Int) / 64 ≤ 32)) = false := by simp; omega
    rw [hd] at HM
    clear hd hn
    go_enter Try.func12, Try.ntmps12
    go_wp2_with (go_at_call 27; refine (HM.out _).mono ?_; rintro e w' ⟨rfl, rfl⟩)
    go_ret2
    exact ⟨rfl, rfl⟩
  · clear hn
    go_enter Try.func12, Try.ntmps12
    go_wp2
    go_ret2
    exact ⟨rfl, rfl⟩
theorem Of_any (v : Value) (xs : List Int) (w : World) (h : NumsIn .u8 w v xs) (h0 : 64 ≤ xs.length) (h1 : xs.length ≤ 2048) (h2 : xs.length % 64 = 0) :
    Calls Try.prog 12 #[v] w fun e w' => ∃ S F, e = .returned (.tuple #[.pointer (some ⟨S, 0, none⟩), .int .i64 0]) ∧ Fr w' S xs F ∧ (∀ k, F k → w.heap.size ≤ k) ∧ Below w.heap.size w w' := by
  have HC := Lib.hid (Clone_any v xs w h (by omega) (by omega))
  have hb := h.byt
  obtain ⟨o, c, rfl, _, hl, _⟩ := h.form
  have hm : (xs.length : Int).tmod 64 = (xs.length : Int) % 64 := Int.tmod_eq_emod_of_nonneg (by omega)
  have hq : (xs.length : Int).tdiv 64 = (xs.length : Int) / 64 := Int.tdiv_eq_ediv_of_nonneg (by omega)
  have h64 : (xs.length : Int) % 64 = 0 := by omega
  have HM := Lib.hid (fun W => mayBe_any ((xs.length : Int) / 64) W)
  have hd : (decide (1 ≤ (xs.length : Int) / 64) && decide ((xs.length : Int) / 64 ≤ 32)) = true := by simp; omega
  rw [hd] at HM
  clear hd h
  go_enter Try.func12, Try.ntmps12
  go_wp2_with (first | (go_at_call 27; refine (HM.out _).mono ?_; rintro e w' ⟨rfl, rfl⟩) | (go_at_call 28; refine HC.out.mono ?_; rintro e w1 ⟨g, c', rfl, hown, hbel⟩; have HO := Lib.hid hown; have HB := Lib.hid hbel; clear hown hbel))
  go_ret2
  obtain ⟨r1, r2, r3, _, r5⟩ := rowAt_of_own HO.out
  refine ⟨_, _, rfl, frIs_new hb h0 h1 h2 r3 r5 r1, ?_, HB.out.alloc HB.out.size _⟩
  rintro k (rfl | rfl)
  · exact HB.out.size
  · exact r2
end Go.Proofs.Ythcipnmcmcihgaa

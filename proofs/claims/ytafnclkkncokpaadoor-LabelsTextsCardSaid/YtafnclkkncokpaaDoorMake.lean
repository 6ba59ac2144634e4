/-
  Layer 2: New, All, Copy, Same of package labels: walks.
-/
import Derived.Test.YtafnclkkncokpaaDoorRows
import Derived.Test.YtafnclkkncokpaaDoorTab
import Derived.Test.YtafnclkkncokpaaDoorScope
import Derived.Test.YtafnclkkncokpaaDoorLeaf
import Derived.Test.YtafnclkkncokpaaDoorJoin
import Derived.WalkKit
import Derived.WalkSpells
import Derived.WalkLawsBesides
import Derived.Lib.Hide
import Derived.Maps.OwnSet
import Derived.Deep.QuietTactic
import Derived.BigQuiet
import Derived.Shelf.SlMaps.Clone
import Derived.Lib.SliceRun
namespace Go.Proofs.YtafnclkkncokpaaDoor
open Go.RowKit
set_option maxHeartbeats 400000

theorem New_bad (most : Int) (hm : ¬ (1 ≤ most ∧ most ≤ 65536)) (w : World) :
    Calls Tryd.prog 10 #[.int .i64 most] w fun e w' => e = .returned (.tuple #[.pointer none, .int .i64 2]) ∧ w = w' := by
  go_enter Tryd.func10, Tryd.ntmps10
  go_wp2
  refine wp_scope_fwd 0 rfl ?_
  go_wp2
  all_goals
    go_step3
    refine ⟨rfl, ?_⟩
    go_wp2
    rw [Exit.noGoto_ret]
    go_ret2
    exact ⟨rfl, rfl⟩

/-- A map literal's entry, at the operation. -/
theorem wpList_insert_own {H : Type} {P : Program} (w : World) {ops : Array Oper} {rest : List Oper} {o : Oper} {a : Act} {Q : Exit → Act → World → Prop}
    (hg : o.guard = none) (m x v : Operand) (t : TypeId) (hop : o.op = Op.insert t m x v)
    (k e : TypeId) (K : Maps.Keyed P k) (ht : P.underlying t = some (.map k e)) (R : Value → Option (DataW H × List MemPlace)) (b n : Nat) (D : DataW H)
    (hm : a.eval m = .map (some b)) (hown : w.ownsMap P k R b n D) (hn : n < maxLen) (key val : Value) (kl : Lit) (hx : a.eval x = key) (hv : a.eval v = val) (hkey : keyOf P k key = some kl)
    (d : DataW H) (ps : List MemPlace) (hval : R val = some (d, ps))
    (hK : ∀ w', w'.ownsMap P k R b (n + 1) (D.put kl d) → w.mapTurned w' b → wpList P ops Q rest (a.put o.dst undef) w') :
    wpList P ops Q (o :: rest) a w := by
  refine wpList_plain hg fun K' hK' => ?_
  obtain ⟨w', hrun, r1, r2⟩ := hown.store K ht hn hkey hval
  unfold Oper.wp
  simp [execOp, hop, hm, hx, hv, hrun, Result.andThen]
  exact hK' _ _ (hK w' r1 r2)

theorem turned_size {w w' : World} {b : Nat} (h : w.mapTurned w' b) : w'.heap.size = w.heap.size := by
  obtain ⟨es, clock, es', clock', _, rfl⟩ := h
  simp [ChangeMaps.setBlock]
/-- The new table. -/
theorem tab_new {w w2 : World} {most : Int} (h1 : 1 ≤ most) (h2 : most ≤ 65536)
    (hown : w2.ownsMap Tryd.prog 35 (plainElem Tryd.prog 3) (w.heap.size + 1) 1 ((DataW.map (H := Unit) []).put (.int .u32 0) (.lit (.int .i64 0))))
    (hg : ((w.alloc (.cells #[.int .u32 0] 35)).alloc (.map #[] 0)).grownBy w2 (some (w.heap.size + 1))) (hs : w2.heap.size = w.heap.size + 2) :
    Tab ((w2.alloc (.map #[] 0)).alloc (.cells #[.int .i64 most, .slice (some ⟨w.heap.size, 0, none⟩) 1 1, .map (some (w.heap.size + 1)), .map (some (w.heap.size + 2))] 61)) (w.heap.size + 3) most [0] 0 [w.heap.size + 3, w.heap.size, w.heap.size + 1, w.heap.size + 2] := by
  have b0 : w2.heap[w.heap.size]? = some (.cells #[.int .u32 0] 35 (0, 0)) := by
    rw [hg.block w.heap.size (by simp; omega) (by simp), Below.heap_alloc _ _ _ (by simp)]
    exact heap_alloc_new w _
  have s3 : (w2.alloc (.map #[] 0)).heap.size = w.heap.size + 3 := by simp [hs]
  have o2 : (w2.alloc (.map #[] 0)).ownsMap Tryd.prog 73 (plainElem Tryd.prog 3) (w.heap.size + 2) 0 (DataW.map (H := Unit) []) := by
    have := World.ownsMap_made w2 Tryd.prog 73 (plainElem (H := Unit) Tryd.prog 3)
    rwa [hs] at this
  refine ⟨w.heap.size, 1, w.heap.size + 1, w.heap.size + 2, _, _, rfl, ?_, ?_, (hown.alloc _).alloc _, numD_new, o2.alloc _, joinD_new _, by omega, sets_new h1 h2⟩
  · have := heap_alloc_new (w2.alloc (.map #[] 0)) (.cells #[.int .i64 most, .slice (some ⟨w.heap.size, 0, none⟩) 1 1, .map (some (w.heap.size + 1)), .map (some (w.heap.size + 2))] 61)
    rw [s3] at this
    exact this
  · refine ⟨rfl, .inr ⟨w.heap.size, 1, #[.int .u32 0], rfl, Nat.zero_le _, ?_, by simp, by unfold maxLen; omega, rfl, rfl⟩⟩
    rw [Below.heap_alloc _ _ _ (by rw [s3]; omega), Below.heap_alloc _ _ _ (by rw [hs]; omega)]
    exact b0

set_option maxRecDepth 100000 in
theorem New_good (most : Int) (h1 : 1 ≤ most) (h2 : most ≤ 65536) (w : World) :
    Calls Tryd.prog 10 #[.int .i64 most] w fun e w' => e = .returned (.tuple #[.pointer (some ⟨w.heap.size + 3, 0, none⟩), .int .i64 0]) ∧ Tab w' (w.heap.size + 3) most [0] 0 [w.heap.size + 3, w.heap.size, w.heap.size + 1, w.heap.size + 2] ∧ Below w.heap.size w w' := by
  have hmm := @run_makeMap Tryd.prog
  have hown : ((w.alloc (.cells #[.int .u32 0] 35)).alloc (.map #[] 0)).ownsMap Tryd.prog 35 (plainElem Tryd.prog 3) (w.heap.size + 1) 0 (DataW.map (H := Unit) []) := by
    have := World.ownsMap_made (w.alloc (.cells #[.int .u32 0] 35)) Tryd.prog 35 (plainElem (H := Unit) Tryd.prog 3)
    rwa [World.size_alloc] at this
  have H2 := Lib.hid h2
  go_enter Tryd.func10, Tryd.ntmps10
  go_wp2
  refine wp_scope_fwd 0 rfl ?_
  go_wp2_with (refine wpList_insert_own _ rfl _ _ _ 58 rfl 35 3 numLaw Tryd.underlying58 _ (w.heap.size + 1) 0 _ rfl hown (by decide) _ _ _ rfl rfl (key_u32 ⟨by omega, by omega⟩) _ [] (plainElem_int Tryd.underlying3 (wf_i64 (by omega) (by omega))) ?_)
  intro w2 hown2 hturn
  have hs : w2.heap.size = w.heap.size + 2 := by rw [turned_size hturn]; simp
  have T0 := tab_new h1 h2 hown2 hturn.grown hs
  have B2 : Below w.heap.size w w2 := (((Below.refl _ w).alloc (Nat.le_refl _) _).alloc (by simp) _).grown hturn.grown (by simp; omega) (by intro k e; cases e; omega)
  go_wp2
  rw [Fwd_ret]
  go_ret2
  exact ⟨rfl, T0, (B2.alloc (by omega) _).alloc (by simp; omega) _⟩

/-! ### slices.Clone, maps.Clone, slices.Equal at a table's parts -/
theorem sl_eql_nil (w : World) (a : Option Addr) (n c n' c' : Nat) : (binOp .eql 28 (.slice a n c) (.slice none n' c')).run Tryd.prog w = .ok (.bool a.isNone) w := Lib.run_eql_slice_nil w _ _ a n c n' c' Tryd.underlying28

set_option maxRecDepth 100000 in
theorem Clone_any (g : Nat) (xs : List Int) (c : Nat) (w : World) (hrow : w.ownsRow 0 35 1 (.slice (some ⟨g, 0, none⟩) xs.length c) xs.length (xs.map (Value.int .u32))) (hl : xs.length ≤ 65536) :
    Calls Tryd.prog 36 #[.slice (some ⟨g, 0, none⟩) xs.length c] w fun e w' => ∃ g' c', e = .returned (.slice (some ⟨g', 0, none⟩) xs.length c') ∧ w'.ownsRow w.heap.size 35 1 (.slice (some ⟨g', 0, none⟩) xs.length c') xs.length (xs.map (Value.int .u32)) ∧ Below w.heap.size w w' := by
  obtain ⟨i0, hi, hz0, hz1, hz2⟩ := info_parts A.infoE
  have hq := fun (w : World) (a : Option Addr) (n c n' c' : Nat) => sl_eql_nil w a n c n' c'
  have hc := hrow.cells (g := g) rfl
  have A : Hid (∀ j u, (xs.map (Value.int .u32))[j]? = some u → w.cell? ((⟨g, 0, none⟩ : Addr).add j) = some u) := hc
  clear hc
  have hcap : xs.length ≤ c := by
    rcases hrow.2 with ⟨h0, _⟩ | ⟨g', cap, cur, hv, _, _, hc, _⟩
    · cases h0
    · simp at hv; omega
  clear hrow
  go_enter Tryd.func36, Tryd.ntmps36
  go_wp2_with (at_builtin; refine wpList_append_own_at _ rfl _ _ 28 rfl w.heap.size 35 i0 (.int .u32 0) 1 4 Tryd.underlying28 hi hz0 hz1 hz2 rfl (by decide) _ _ _ rfl (World.ownsRow_made w #[] 0 (Nat.le_refl _) (Nat.zero_le _) (by simp)) ⟨g, 0, none⟩ xs.length c (xs.map (Value.int .u32)) rfl (by simp) ?qc1 (ints_one .u32 xs) (by unfold maxLen; omega) (by omega) (by simp) ?_)
  case qc1 =>
    intro j u hj
    have h1 := A.out j u hj
    rw [World.cell?_alloc_lt _ _ _ (World.block_lt_of_cell? _ _ h1)]
    exact h1
  intro v' w1 hown hgrow hnil _
  obtain ⟨g', c', rfl⟩ : ∃ g' c', v' = .slice (some ⟨g', 0, none⟩) xs.length c' := by
    rcases hown.2 with ⟨h0, _⟩ | ⟨g', cap, cur, hv, _⟩
    · exact absurd h0 hnil
    · exact ⟨g', cap, by simpa using hv⟩
  have hown' : w1.ownsRow w.heap.size 35 1 (.slice (some ⟨g', 0, none⟩) xs.length c') xs.length (xs.map (Value.int .u32)) := by simpa using hown
  have HO := Lib.hid hown'
  have HB := Lib.hid (((Below.refl w.heap.size w).alloc (Nat.le_refl _) (.cells #[] 35)).grown hgrow (by simp) (by intro k hk; simp [Value.ownBlock] at hk; omega))
  clear hown hown' hgrow hnil
  go_wp2
  go_ret
  exact ⟨g', c', rfl, HO.out, HB.out⟩

theorem Equal_lens (v1 v2 : Option Addr) (n1 n2 c1 c2 : Nat) (hne : n1 ≠ n2) (w : World) :
    Calls Tryd.prog 38 #[.slice v1 n1 c1, .slice v2 n2 c2] w fun e w' => e = .returned (.bool false) ∧ w = w' := by
  have h1 : ((n1 : Int) == (n2 : Int)) = false := by simp; omega
  have h2 : ((n1 : Int) != (n2 : Int)) = true := by simp; omega
  clear hne
  go_enter Tryd.func38, Tryd.ntmps38
  go_wp2
  go_ret
  exact ⟨rfl, rfl⟩
theorem row_at {w : World} {g c : Nat} {xs : List Int} {n : Nat} (hn : xs.length = n) {b : Nat} (h : w.ownsRow b 35 1 (.slice (some ⟨g, 0, none⟩) n c) n (xs.map (Value.int .u32))) {k : Nat} (hk : k < n) : w.cell? ⟨g, k, none⟩ = some (.int .u32 (xs[k]?.getD 0)) := by
  have h1 := h.cells (g := g) rfl k (.int .u32 (xs[k]?.getD 0)) (by simp [List.getElem?_eq_getElem (show k < xs.length by omega)])
  have e : (⟨g, 0, none⟩ : Addr).add k = ⟨g, k, none⟩ := by unfold Addr.add; split <;> simp_all
  rw [e] at h1
  exact h1
theorem row_cap {w : World} {g c : Nat} {n b : Nat} {vs : List Value} {e : TypeId} (h : w.ownsRow b e 1 (.slice (some ⟨g, 0, none⟩) n c) n vs) : n ≤ c := by
  rcases h.2 with ⟨h0, _⟩ | ⟨g', cap, cur, hv, _, _, hc, _⟩
  · cases h0
  · simp at hv; omega
theorem list_eq_of {xs ys : List Int} {n : Nat} (hx : xs.length = n) (hy : ys.length = n) (h : ∀ i, i < n → xs[i]?.getD 0 = ys[i]?.getD 0) : xs = ys := by
  apply List.ext_getElem (by omega)
  intro i h1 h2
  have := h i (by omega)
  simpa [h1, h2] using this
theorem Equal_same (g1 g2 c1 c2 : Nat) (xs ys : List Int) (n : Nat) (hx : xs.length = n) (hy : ys.length = n) (w : World) (hl : n ≤ 65536)
    (r1 : w.ownsRow 0 35 1 (.slice (some ⟨g1, 0, none⟩) n c1) n (xs.map (Value.int .u32))) (r2 : w.ownsRow 0 35 1 (.slice (some ⟨g2, 0, none⟩) n c2) n (ys.map (Value.int .u32))) :
    Calls Tryd.prog 38 #[.slice (some ⟨g1, 0, none⟩) n c1, .slice (some ⟨g2, 0, none⟩) n c2] w fun e w' => e = .returned (.bool (decide (xs = ys))) ∧ ∃ q, w' = w.drewN q := by
  have k1 : Hid (∀ k, k < n → w.cell? ⟨g1, k, none⟩ = some (.int .u32 (xs[k]?.getD 0))) := fun k hk => row_at hx r1 hk
  have k2 : Hid (∀ k, k < n → w.cell? ⟨g2, k, none⟩ = some (.int .u32 (ys[k]?.getD 0))) := fun k hk => row_at hy r2 hk
  have b1 := row_cap r1
  have b2 := row_cap r2
  have HX := Lib.hid hx
  have HY := Lib.hid hy
  clear r1 r2 hx hy
  go_enter Tryd.func38, Tryd.ntmps38
  go_wp2
  go_loopw [13] (fun k wr => ∃ j : Nat, j ≤ n ∧ k = .int .i64 j ∧ Hid (∀ i, i < j → xs[i]?.getD 0 = ys[i]?.getD 0) ∧ ∃ q, wr = w.drewN q) (fun k _ => n - (intOf k).toNat)
  case atStart => exact ⟨0, by omega, rfl, fun i hi => by omega, 0, rfl⟩
  case round =>
    obtain ⟨j, hj, rfl, hE, q, rfl⟩ := hrel
    by_cases hlt : j < n
    · have m1 : (w.drewN q).cell? ⟨g1, j, none⟩ = some (.int .u32 (xs[j]?.getD 0)) := k1.out j hlt
      have m2 : (w.drewN q).cell? ⟨g2, j, none⟩ = some (.int .u32 (ys[j]?.getD 0)) := k2.out j hlt
      generalize hx : xs[j]?.getD 0 = x1 at m1
      generalize hy : ys[j]?.getD 0 = x2 at m2
      have HX1 := Lib.hid hx
      have HX2 := Lib.hid hy
      clear hx hy
      generalize hw1 : w.drewN q = w1 at m1 m2 ⊢
      have HW := Lib.hid hw1
      clear hw1
      by_cases he : x1 = x2
      · have t1 : (x1 != x2) = false := by simp [he]
        have HE := Lib.hid he
        clear he
        go_wp2
        go_quiet (fail)
        go_wp2
        go_roundw
        case rel =>
          refine ⟨j + 1, by omega, by go_num, ?_, q + nq, by rw [← HW.out, World.drewN_drewN]⟩
          intro i hi
          by_cases hij : i = j
          · subst hij; rw [HX1.out, HX2.out]; exact HE.out
          · exact hE.out i (by omega)
        case measure => simp [intOf]; omega
      · have t1 : (x1 != x2) = true := by simp [he]
        have HE := Lib.hid he
        clear he
        go_wp2
        go_quiet (fail)
        go_wp2
        go_ret
        refine ⟨?_, q + nq, by rw [← HW.out, World.drewN_drewN]⟩
        have hne : xs ≠ ys := fun e => HE.out (by rw [← HX1.out, ← HX2.out, e])
        simp [hne]
    · go_wp2
      go_ret
      obtain rfl : j = n := by omega
      have e := list_eq_of HX.out HY.out hE.out
      exact ⟨by simp [e], q, rfl⟩

theorem All_none (w : World) : Calls Tryd.prog 17 #[.pointer none] w fun e w' => e = .returned (.slice none 0 0) ∧ w = w' := by
  go_enter Tryd.func17, Tryd.ntmps17
  go_wp2_with (go_at_call 31; refine (none_nil _).mono ?_; rintro e w' ⟨rfl, rfl⟩)
  go_ret
  exact ⟨rfl, rfl⟩
theorem All_zero (T : Nat) (w : World) (hc : w.cell? ⟨T, 0, none⟩ = some (.int .i64 0)) : Calls Tryd.prog 17 #[.pointer (some ⟨T, 0, none⟩)] w fun e w' => e = .returned (.slice none 0 0) ∧ w = w' := by
  go_enter Tryd.func17, Tryd.ntmps17
  go_wp2_with (go_at_call 31; refine (none_zero T _ hc).mono ?_; rintro e w' ⟨rfl, rfl⟩)
  go_ret
  exact ⟨rfl, rfl⟩
theorem Clone_tab {w : World} {T g c mb jb : Nat} {most : Int} {ss : List Int} {m : Nat} {D J : DataW Unit} (h : TabIs w T g c mb jb most ss m D J) :
    Calls Tryd.prog 36 #[.slice (some ⟨g, 0, none⟩) ss.length c] w fun e w' => ∃ g' c', e = .returned (.slice (some ⟨g', 0, none⟩) ss.length c') ∧ w'.ownsRow w.heap.size 35 1 (.slice (some ⟨g', 0, none⟩) ss.length c') ss.length (ss.map (Value.int .u32)) ∧ Below w.heap.size w w' :=
  Clone_any g ss c w h.row (by have := h.sets.len; have := h.sets.most; omega)
theorem All_any (T : Nat) (most : Int) (ss : List Int) (m : Nat) (F : List Nat) (w : World) (h : Tab w T most ss m F) :
    Calls Tryd.prog 17 #[.pointer (some ⟨T, 0, none⟩)] w fun e w' => ∃ g' c', e = .returned (.slice (some ⟨g', 0, none⟩) ss.length c') ∧ w'.ownsRow w.heap.size 35 1 (.slice (some ⟨g', 0, none⟩) ss.length c') ss.length (ss.map (Value.int .u32)) ∧ Below w.heap.size w w' := by
  obtain ⟨g, c, mb, jb, D, J, rfl, h⟩ := h
  obtain ⟨c0, c1, c2, c3⟩ := h.cell
  have hm : 1 ≤ most := by have := h.sets.pos; have := h.sets.len; omega
  have HC := Lib.hid (Clone_tab h)
  clear h
  go_enter Tryd.func17, Tryd.ntmps17
  go_wp2_with (first | (go_at_call 31; refine (none_some T most _ c0 hm).mono ?_; rintro e w' ⟨rfl, rfl⟩) | (go_at_call 36; refine HC.out.mono ?_; rintro e w1 ⟨g', c', rfl, ho, hb⟩))
  go_ret
  exact ⟨g', c', rfl, ho, hb⟩

theorem map_eql_nil (w : World) (b : Nat) : (binOp .eql 58 (.map (some b)) (.map none)).run Tryd.prog w = .ok (.bool false) w := run_eql_map_nil_sl w 58 _ _ (some b) Tryd.underlying58
set_option maxRecDepth 100000 in
set_option maxHeartbeats 1000000 in
theorem MClone_any (b : Nat) (n : Nat) (D : DataW Unit) (w : World) (hown : w.ownsMap Tryd.prog 35 (plainElem Tryd.prog 3) b n D) :
    Calls Tryd.prog 37 #[.map (some b)] w fun e w' => e = .returned (.map (some w.heap.size)) ∧ w'.ownsMap Tryd.prog 35 (plainElem Tryd.prog 3) w.heap.size n D ∧ Below w.heap.size w w' := by
  have hlt := hown.lt
  obtain ⟨es, clock, hb, F, hs, hD⟩ := hown
  have HK : Hid ((w.alloc (.map es clock)).ownsMap Tryd.prog 35 (plainElem Tryd.prog 3) w.heap.size n D) := ⟨es, clock, (MapKept.heap_alloc w _).1, F, hs, hD⟩
  have HB := Lib.hid hb
  clear hb F hs hD
  have hq := fun w => map_eql_nil w b
  go_enter Tryd.func37, Tryd.ntmps37
  go_wp2
  rw [run_callFunc_extern Tryd.func44 (by kernel_rfl) (by kernel_rfl) (by kernel_rfl) (e := Extern.MapsClone.clone) (by kernel_rfl), run_maps_clone_sl w 58 HB.out]
  simp only [Result.andThen]
  rw [Oper.upon_value]
  go_wp2
  rw [run_typeAssert_map_sl _ 58 _ _ _ _ Tryd.underlying58]
  simp only [Result.andThen]
  rw [Oper.upon_value]
  go_wp2
  go_ret
  exact ⟨rfl, HK.out, (Below.refl _ _).alloc (Nat.le_refl _) _⟩
end Go.Proofs.YtafnclkkncokpaaDoor

/-
  Layer 14: Copy of a history: what stands there. No walk. Layer 14: slices.Clip of notes, Copy of a history: walks.
-/
import Derived.Test.YtiohlmccnllklaaGreatDoorG08
set_option linter.unusedVariables false
set_option linter.unusedSimpArgs false
namespace Go.Proofs.YtiohlmccnllklaaGreatDoor.Q
open Go.RowKit
set_option maxHeartbeats 8000000
set_option maxRecDepth 100000
set_option linter.unusedVariables false
set_option linter.unusedSimpArgs false

theorem place_inv {key : Value} {kl : Lit} (h : keyOf Tryz.prog 42 key = some kl) : ∃ p : T.Pl, key = .agg (pla p) ∧ kl = pk p ∧ Pi p := by
  have hc : Tryz.prog.cellsOf 42 = 2 := by kernel_rfl
  have hi : Tryz.prog.cellsOf 3 = 1 := by kernel_rfl
  have hj : Tryz.prog.cellsOf 40 = 1 := by kernel_rfl
  obtain ⟨m, hm⟩ : ∃ m, Tryz.prog.types.size = m + 1 := ⟨Tryz.prog.types.size - 1, by have : 0 < Tryz.prog.types.size := of_decide_eq_true (by kernel_rfl); omega⟩
  have hu := Tryz.underlying42
  have hv := Tryz.underlying3
  have hw := Tryz.underlying40
  obtain ⟨xs, L, rfl, hl, rfl⟩ := keyOf_top (P := Tryz.prog) (k := 42) (by simp [hu]) h
  rw [hm] at hl
  unfold Program.keyLits at hl
  simp only [hu] at hl
  split at hl
  · rename_i hh
    rw [hc] at hh
    obtain ⟨hlen, _⟩ := hh
    obtain ⟨x, y, e⟩ : ∃ x y, xs.toList = [x, y] := by
      match hx : xs.toList with
      | [x, y] => exact ⟨x, y, rfl⟩
      | [] => rw [hx] at hlen; simp at hlen
      | [_] => rw [hx] at hlen; simp at hlen
      | _ :: _ :: _ :: _ => rw [hx] at hlen; simp at hlen
    have exs : xs = #[x, y] := by rw [← Array.toList_inj]; exact e
    subst exs
    simp [hi, hj, Program.keyLits, hv, hw] at hl
    cases x with
    | int q a =>
      cases y with
      | int q2 b =>
        simp [Option.bind_eq_some_iff] at hl
        obtain ⟨_, ⟨⟨rfl, wa⟩, rfl⟩, _, ⟨_, ⟨⟨rfl, wb⟩, rfl⟩, rfl⟩, rfl⟩ := hl
        exact ⟨(a, b), rfl, rfl, i64_of_wf wa, i64_of_wf wb⟩
      | _ => simp [Option.bind_eq_some_iff] at hl
    | _ => simp [Option.bind_eq_some_iff] at hl
  · cases hl

/-- A slice without spare room. -/
def clp : Value → Value
  | .slice ao n _ => .slice ao n n
  | v => v
theorem gs_clp {e : TypeId} {sz : Nat} {w : World} {v : Value} {n : Nat} {cs : List Value} (h : Gs e sz w v n cs) : Gs e sz w (clp v) n cs := by
  obtain ⟨h0, ao, c, rfl, h1, h2, h3⟩ := h
  refine ⟨h0, ao, n, rfl, Nat.le_refl _, by omega, fun hn => ?_⟩
  obtain ⟨g, o, cur, e1, e2, e3, e4⟩ := h3 (by omega)
  exact ⟨g, o, cur, e1, e2, by have := Nat.mul_le_mul_right sz h1; omega, e4⟩
theorem RowN.clp {w : World} {v : Value} {l : List T.No} (h : RowN w v l) : RowN w (clp v) l := by
  obtain ⟨cs, h1, h2⟩ := h
  exact ⟨cs, gs_clp h1, h2⟩
theorem RowN.clp_blk {w : World} {v : Value} {l : List T.No} (h : RowN w v l) {k : Nat} (hk : blkOf (Q.clp v) = some k) : blkOf v = some k := by
  obtain ⟨ao, c, rfl, hc, _⟩ := h.shape
  cases ao with
  | none => simp [Q.clp, blkOf] at hk
  | some a =>
    simp only [Q.clp, blkOf] at hk ⊢
    split at hk
    · cases hk
    · rw [if_neg (by omega)]; exact hk
theorem own_more {H : Type} {P : Program} {k : TypeId} {R : Value → Option (DataW H × List MemPlace)} {w : World} {b n m : Nat} {D : DataW H} (h : w.ownsMap P k R b n D) (hn : n ≤ m) : w.ownsMap P k R b m D := by
  obtain ⟨es, c, h1, h2, h3, h4⟩ := h
  exact ⟨es, c, h1, h2, by omega, h4⟩
theorem NtD.congr {g g' : T.Pl → Option Value} {D : DataW Value} (h : NtD g D) (e : ∀ p, Pi p → g p = g' p) : NtD g' D :=
  ⟨fun p hp => by rw [h.has p hp, e p hp], fun p hp x hx z => h.at_ p hp x (by rw [e p hp]; exact hx) z⟩
theorem ranges_keep {H : Type} {w w' : World} {P : Program} {k : TypeId} {R : Value → Option (DataW H × List MemPlace)} {b r n : Nat} {D : DataW H} {left : Lit → Bool} {cnt : Nat} (h : w.ranges P k R b r n D left cnt) (h1 : w'.heap[b]? = w.heap[b]?) (h2 : w'.heap[r]? = w.heap[r]?) : w'.ranges P k R b r n D left cnt := by
  obtain ⟨es, clock, since, seen, c0, k1, k2, k3, k4, k5, k6⟩ := h
  exact ⟨es, clock, since, seen, c0, h1.trans k1, k2, k3, k4, h2.trans k5, k6⟩

/-- What the copy's map has when some are left. -/
def gLeft (ns : List T.No) (V : T.Pl → Value) (left : Lit → Bool) (p : T.Pl) : Option Value := if left (pk p) = true then none else gOf ns (fun p => clp (V p)) p
/-- A round of Copy: w: ahead of the call; R: the range's block. -/
structure CyI (w : World) (S2 mb mb2 R : Nat) (ns : List T.No) (la : Int) (V : T.Pl → Value) (D : DataW Value) (left : Lit → Bool) (cnt : Nat) (W : World) : Prop where
  b : Below w.heap.size w W
  r : W.ranges Tryz.prog 42 hv mb R ns.length D left cnt
  m : ∃ k D2, W.ownsMap Tryz.prog 42 hv mb2 k D2 ∧ NtD (gLeft ns V left) D2 ∧ k + cnt ≤ ns.length
  h : Rf 58 3 W S2 (hc mb2 ns.length la)
section
variable {w W : World} {S mb S2 mb2 R : Nat} {ns : List T.No} {la : Int} {V : T.Pl → Value} {D : DataW Value} {left : Lit → Bool} {cnt : Nat}
theorem CyI.end_ (h : CyI w S2 mb mb2 R ns la V D left cnt W) (h0 : HsIs w S mb ns la V) (hl : ∀ kl, left kl = false) : HsIs W S2 mb2 ns la (fun p => clp (V p)) := by
  obtain ⟨k, D2, h1, h2, h3⟩ := h.m
  refine ⟨h.h, ⟨D2, own_more h1 (by omega), h2.congr fun p _ => by unfold gLeft; rw [hl]; simp⟩, fun p => ((h0.row p).below h.b).clp, fun p hp => ?_, fun p q k hp hq => h0.ap p q k ((h0.row p).clp_blk hp) ((h0.row q).clp_blk hq), h0.pi⟩
  show clp (V p) = _
  rw [h0.nil p hp]; rfl
theorem CyI.after {W' : World} (h : CyI w S2 mb mb2 R ns la V D left cnt W) (hb : Below W.heap.size W W') : CyI w S2 mb mb2 R ns la V D left cnt W' := by
  obtain ⟨k, D2, h1, h2, h3⟩ := h.m
  refine ⟨belT h.b hb, ranges_keep h.r (hb.block _ ?_) (hb.block _ h.r.lt), ⟨k, D2, own_keep h1 (hb.block _ h1.lt), h2, h3⟩, h.h.below hb⟩
  obtain ⟨es, _, _, _, _, k1, _⟩ := h.r
  exact (Array.getElem?_eq_some_iff.1 k1).1
end
end Go.Proofs.YtiohlmccnllklaaGreatDoor.Q
namespace Go.Proofs.YtiohlmccnllklaaGreatDoor.Q
open Go.RowKit
set_option maxHeartbeats 8000000
set_option maxRecDepth 100000
set_option linter.unusedVariables false
set_option linter.unusedSimpArgs false

theorem Clip_any (ao : Option Addr) (n c : Nat) (hn : n ≤ c) (hm : n ≤ maxLen) (h0 : ao = none → n = 0) (w : World) : Calls Tryz.prog 44 #[.slice ao n c] w fun e w' => e = .returned (.slice ao n n) ∧ Below w.heap.size w w' := by
  have HB := Lib.hid (Below.refl w.heap.size w)
  unfold maxLen at hm
  cases ao with
  | none =>
    obtain rfl := h0 rfl
    clear h0
    go_enter Tryz.func44, Tryz.ntmps44
    go_wp2
    go_ret
    exact ⟨rfl, HB.out⟩
  | some a =>
    clear h0
    go_enter Tryz.func44, Tryz.ntmps44
    go_wp2
    go_ret
    exact ⟨rfl, HB.out⟩
theorem make_hint (n : Int) (w : World) : (Instr.makeMap 56 (some (.int .i64 n))).run Tryz.prog w = .ok (.map (some w.heap.size)) (w.alloc (.map #[] 0)) := by
  simp [Instr.makeMap, run_underlying Tryz.underlying56, asInt, asIntOf, Result.andThen]
theorem Copy_nil (w : World) : Calls Tryz.prog 18 #[.pointer none] w fun e w' => e = .returned (.pointer none) ∧ w = w' := by
  go_enter Tryz.func18, Tryz.ntmps18
  go_wp2_with (go_at_call 41; refine (none_nil _).mono ?_; rintro e w' ⟨rfl, rfl⟩)
  go_ret
  exact ⟨rfl, rfl⟩
theorem Copy_zero (S : Nat) (w : World) (h : w.cell? ⟨S, 0, none⟩ = some (.map none)) : Calls Tryz.prog 18 #[.pointer (some ⟨S, 0, none⟩)] w fun e w' => e = .returned (.pointer none) ∧ w = w' := by
  go_enter Tryz.func18, Tryz.ntmps18
  go_wp2_with (go_at_call 41; refine (none_zero _ _ h).mono ?_; rintro e w' ⟨rfl, rfl⟩)
  go_ret
  exact ⟨rfl, rfl⟩

structure Cy8 (S2 mb2 n : Nat) (la : Int) (B : Nat) (p : T.Pl) (W : World) : Prop where
  h : Rf 58 3 W S2 (hc mb2 n la)
  b : Blk W B #[.int .i64 p.1, .int .i64 p.2] 42
theorem Cy8.stb (S2 mb2 n : Nat) (la : Int) (B : Nat) (p : T.Pl) : Free.Stb (Cy8 S2 mb2 n la B p) := fun W W' h hb => ⟨h.h.below hb, h.b.below hb⟩
/-- What Copy tells. -/
def CyO (w : World) (ns : List T.No) (la : Int) (V : T.Pl → Value) (e : Ending) (w' : World) : Prop :=
  ∃ S2 mb2, e = .returned (.pointer (some ⟨S2, 0, none⟩)) ∧ HsIs w' S2 mb2 ns la (fun p => clp (V p)) ∧ Below w.heap.size w w' ∧ w.heap.size ≤ S2 ∧ w.heap.size ≤ mb2
/-- An entry has been copied. -/
theorem CyI.put {w W W' : World} {S mb S2 mb2 R : Nat} {ns : List T.No} {la : Int} {V : T.Pl → Value} {D : DataW Value} {left : Lit → Bool} {cnt cnt1 : Nat} (h : CyI w S2 mb mb2 R ns la V D left cnt W) (h0 : HsIs w S mb ns la V) (hD : NtD (gOf ns V) D)
    {q : T.Pl} (hq : Pi q) (hl : left (pk q) = true) (hat : ∀ z, D.atKey (pk q) z = .held (V q)) (hlt : cnt1 < cnt) {k : Nat} {D2 : DataW Value} (hm : Maps.IsMap D2) (hn : NtD (gLeft ns V left) D2) (hk : k + cnt ≤ ns.length)
    (hb : Below w.heap.size w W') (hr : W'.ranges Tryz.prog 42 hv mb R ns.length D (fun z => left z && !z.sameKey (pk q)) cnt1) (ho : W'.ownsMap Tryz.prog 42 hv mb2 (k + 1) (D2.put (pk q) (.held (clp (V q))))) (hh : Rf 58 3 W' S2 (hc mb2 ns.length la)) :
    CyI w S2 mb mb2 R ns la V D (fun z => left z && !z.sameKey (pk q)) cnt1 W' := by
  refine ⟨hb, hr, ⟨k + 1, _, ho, (hn.put hm hq (clp (V q))).congr fun p hp => ?_, by omega⟩, hh⟩
  unfold gLeft
  by_cases e : p = q
  · subst e
    have hhas := Maps.has_true_of_atKey hat
    rw [hD.has p hp] at hhas
    have hne : T.ofP ns p ≠ [] := fun e => by unfold gOf at hhas; rw [if_pos e] at hhas; simp at hhas
    have : (pk p).sameKey (pk p) = true := by simp [Lit.sameKey, pk]
    simp [this, gOf, hne]
  · have : (pk p).sameKey (pk q) = false := Maps.sameKey_ne (pk_ne hp hq e)
    rw [if_neg e]
    simp [gLeft, this]
theorem CyI.start {w W : World} {S mb S2 mb2 R : Nat} {ns : List T.No} {la : Int} {V : T.Pl → Value} {D : DataW Value} (h0 : HsIs w S mb ns la V) (hD : NtD (gOf ns V) D) (hb : Below w.heap.size w W)
    (hr : W.ranges Tryz.prog 42 hv mb R ns.length D (Maps.has D) (Maps.size D)) (ho : W.ownsMap Tryz.prog 42 hv mb2 0 (.map [])) (hh : Rf 58 3 W S2 (hc mb2 ns.length la)) : CyI w S2 mb mb2 R ns la V D (Maps.has D) (Maps.size D) W := by
  refine ⟨hb, hr, ⟨0, _, ho, ntD_new.congr fun p hp => ?_, by have := hr.owns.size_le; omega⟩, hh⟩
  unfold gLeft
  rw [hD.has p hp]
  unfold gOf
  by_cases e : T.ofP ns p = [] <;> simp [e]
theorem Copy_any {w : World} {S mb : Nat} {ns : List T.No} {la : Int} {V : T.Pl → Value} (h : HsIs w S mb ns la V) (hl : ns.length ≤ 1000000) : Calls Tryz.prog 18 #[.pointer (some ⟨S, 0, none⟩)] w fun e w' => CyO w ns la V e w' := by
  have c0 := h.blk.cell 0
  have c1 := h.blk.cell 1
  have c2 := h.blk.cell 2
  unfold hc at c0 c1 c2
  simp only [List.getElem?_toArray, List.getElem?_cons_zero, List.getElem?_cons_succ] at c0 c1 c2
  have HN := Lib.hid (none_some S mb w c0)
  have HH := Lib.hid h
  obtain ⟨D, ho, hD⟩ := h.map
  have HD := Lib.hid hD
  have hz := zero_hist
  have hmk := make_hint
  have hmn := World.ownsMap_made (w.alloc (.cells (hc mb ns.length la) 58)) Tryz.prog 42 hv
  have HLt := Lib.hid h.blk.lt
  have HMb := Lib.hid ho.lt
  clear h hD
  unfold hc at hmn
  have hb1 := bel1 w (.cells #[.map (some mb), .int .i64 (ns.length : Int), .int .i64 la] 58)
  have d0 := cell_below c0 hb1
  have ho1 := own_keep ho (hb1.block _ ho.lt)
  have hb2 := belT (bel1 w (.cells #[.map (some (w.heap.size + 1)), .int .i64 (ns.length : Int), .int .i64 la] 58)) (bel1 _ (.map #[] 0))
  have e0 := cell_below c0 hb2
  have ho2 := own_keep ho (hb2.block _ ho.lt)
  have hm2 := World.ownsMap_made (w.alloc (.cells #[.map (some (w.heap.size + 1)), .int .i64 (ns.length : Int), .int .i64 la] 58)) Tryz.prog 42 hv
  rw [World.size_alloc] at hm2
  have hh2 := ((hc_ok (w.heap.size + 1) ns.length la).new 58 w).below (bel1 _ (.map #[] 0))
  have HK2 := Lib.hid (And.intro hb2 (And.intro hm2 hh2))
  unfold hc at HK2
  clear hb1 hb2 hm2 hh2 hmn
  go_enter Tryz.func18, Tryz.ntmps18
  go_wp2_with (first
    | (go_at_call 41; refine HN.out.mono ?_; rintro e w' ⟨rfl, rfl⟩)
    | (at_len; refine wpList_len_own _ rfl _ 56 rfl 42 66 Tryz.underlying56 hv mb ns.length D rfl ho1 ?_)
    | (at_range; refine wpList_range_own _ rfl _ 56 rfl 42 66 placeLaw Tryz.underlying56 hv mb ns.length D rfl ho2 ?_; intro w4 hrg4 hg4 hs4))
  simp only [World.size_alloc] at hrg4 hs4
  have H0 : Hid (CyI w w.heap.size mb (w.heap.size + 1) (w.heap.size + 1 + 1) ns la V D (Maps.has D) (Maps.size D) w4) := by
    have hb4 : Below ((w.alloc (.cells #[.map (some (w.heap.size + 1)), .int .i64 (ns.length : Int), .int .i64 la] 58)).alloc (.map #[] 0)).heap.size _ w4 := (Below.refl _ _).grown hg4 (Nat.le_refl _) (fun j hj => by cases hj)
    exact CyI.start HH.out HD.out (belT HK2.out.1 hb4) hrg4 (own_keep HK2.out.2.1 (hb4.block _ HK2.out.2.1.lt)) (HK2.out.2.2.below hb4)
  clear hrg4 hg4 hs4 ho1 ho2 HK2 ho d0 e0
  go_frame
  simp only [World.size_alloc]
  go_loopw [24] (fun _ wr => ∃ (left : Lit → Bool) (cnt : Nat), Hid (CyI w w.heap.size mb (w.heap.size + 1) (w.heap.size + 1 + 1) ns la V D left cnt wr)) (fun _ wr => wr.rangeLeft mb (w.heap.size + 1 + 1))
  case atStart => exact ⟨_, _, H0.out⟩
  case round =>
    obtain ⟨left, cnt, HI⟩ := hrel
    clear H0
    have hrg := HI.out.r
    go_wp2_with (at_next; refine wpList_next_ranges _ rfl _ rfl 42 placeLaw hv (fun p : T.Pl => .agg #[.int .i64 p.1, .int .i64 p.2]) (fun v : Value => v) (fun key kl hkey => by obtain ⟨p, rfl, _⟩ := place_inv hkey; exact ⟨p, rfl⟩) (fun v y hv => ⟨v, rfl⟩) mb (w.heap.size + 1 + 1) ns.length _ _ _ rfl hrg ?_ ?_)
    · intro _ hl0
      have HE := Lib.hid (HI.out.end_ HH.out hl0)
      clear hrg hl0
      go_wp2
      go_ret
      exact ⟨_, _, rfl, HE.out, HI.out.b, by omega, by omega⟩
    · intro pa pb v kl y yp w5 cnt1 hkey hlx hv1 hat hrg1 hlt hg5 hs5 hen
      obtain ⟨p', e1, rfl, hpi⟩ := place_inv hkey
      unfold pla at e1
      simp at e1
      obtain ⟨rfl, rfl⟩ := e1
      rw [hv_at] at hv1
      simp at hv1
      obtain ⟨rfl, rfl⟩ := hv1
      have hvp : v = V p' := by
        have hhas := Maps.has_true_of_atKey hat
        rw [HD.out.has p' hpi] at hhas
        have hg : gOf ns V p' = some (V p') := by
          unfold gOf at hhas ⊢
          split at hhas
          · cases hhas
          · rename_i hne; rw [if_neg hne]
        have := HD.out.at_ p' hpi _ hg .nil
        rw [hat] at this
        simpa using this
      obtain ⟨ao, c, hve, hnc, hnm⟩ := (HH.out.row p').shape
      rw [hve] at hvp
      subst hvp
      have h0 : ao = none → (T.ofP ns p').length = 0 := fun e => by
        obtain ⟨cs, h1, _⟩ := HH.out.row p'
        rw [hve, e] at h1
        obtain ⟨_, ao', c', h2, h3, _, h4⟩ := h1
        simp at h2
        rcases Nat.eq_zero_or_pos c' with h5 | h5
        · omega
        · obtain ⟨_, _, _, h6, _⟩ := h4 h5
          rw [← h2.1] at h6; cases h6
      generalize hn : (T.ofP ns p').length = n at *
      have HClip := Lib.hid (Clip_any ao n c hnc hnm h0)
      obtain ⟨k, D2, hm2, hd2, hk2⟩ := HI.out.m
      have hb5 : Below w.heap.size w w5 := HI.out.b.grown hg5 HI.out.b.size (fun j hj => by cases hj; omega)
      have hm5 := own_keep hm2 (hg5.block _ hm2.lt (fun e => by have e := Option.some.inj e; omega))
      have hh5 : Rf 58 3 w5 w.heap.size (hc (w.heap.size + 1) ns.length la) := ⟨HI.out.h.blk.keep (hg5.block _ HI.out.h.lt (fun e => by have e := Option.some.inj e; omega)), HI.out.h.2, HI.out.h.3⟩
      have hb6 := bel1 w5 (.cells #[.int .i64 p'.1, .int .i64 p'.2] 42)
      have hbk6 := blk_new w5 #[.int .i64 p'.1, .int .i64 p'.2] 42
      have HS6 : Hid (Cy8 w.heap.size (w.heap.size + 1) ns.length la w5.heap.size p' (w5.alloc (.cells #[.int .i64 p'.1, .int .i64 p'.2] 42)).drew) := Lib.hid (Cy8.stb _ _ _ _ _ _ _ _ ⟨hh5.below hb6, hbk6⟩ (Below.refl _ _).drew)
      have HX5 := Lib.hid (And.intro hb5 (And.intro hm5 (And.intro hh5 (And.intro hrg1 (And.intro hb6 (And.intro hd2 (And.intro hk2 (And.intro hat hlx))))))))
      have HLt2 := Lib.hid hlt
      have HPi := Lib.hid hpi
      have HLe := Lib.hid hrg.left_eq
      have HVe := Lib.hid hve
      rw [hs5] at HS6
      clear hkey hlx hat hrg1 hlt hg5 hpi hve hnc h0 hm2 hd2 hk2 hb5 hm5 hh5 hb6 hbk6 hrg hn
      go_wp2
      refine Free.any (Cy8 w.heap.size (w.heap.size + 1) ns.length la wr.heap.size p') (Cy8.stb _ _ _ _ _ p') HS6.out (fun st => ?_)
      refine Free.tk 0 (some 28) ?_
      refine Free.tk 1 (some 29) (v := .map (some (w.heap.size + 1))) ?_ (hy := by intro W hW; have c0 := hW.h.cell 0; unfold hc at c0; simp only [List.getElem?_toArray, List.getElem?_cons_zero] at c0; go_simp; try with_reducible rfl)
      refine Free.tk 2 (some 30) (v := .agg #[.int .i64 p'.1, .int .i64 p'.2]) ?_ (hy := by intro W hW; have b0 := hW.b.cell 0; have b1 := hW.b.cell 1; simp only [List.getElem?_toArray, List.getElem?_cons_zero, List.getElem?_cons_succ] at b0 b1; go_simp; try with_reducible rfl)
      refine Free.tk 3 (some 31) (v := .slice ao n c) ?_
      refine Free.cl 4 (some 32) (v := .slice ao n n) st (fun W hW => HClip.out W) ?_ (hy := by intro W; go_simp; try rfl)
      refine Free.one 5 (fun W hb hW => ?_)
      have hb' := belT HX5.out.2.2.2.2.1 ((Below.refl _ _).drew.trans hb)
      have hmW := own_keep HX5.out.2.1 (hb'.block _ HX5.out.2.1.lt)
      obtain ⟨w', hup, hown, hg⟩ := hmW.update placeLaw Tryz.underlying56 (by have := HX5.out.2.2.2.2.2.2.1; unfold maxLen; omega) (key_place HPi.out) (hv_at (.slice ao n n))
      unfold pla at hup
      have hhW := HX5.out.2.2.1.below hb'
      have hne : w.heap.size ≠ w.heap.size + 1 := by omega
      have hh' : Rf 58 3 w' w.heap.size (hc (w.heap.size + 1) ns.length la) := ⟨hhW.blk.keep (hg.block _ hhW.lt (fun e => by have e := Option.some.inj e; omega)), hhW.2, hhW.3⟩
      have hbk' : Blk w' wr.heap.size #[.int .i64 p'.1, .int .i64 p'.2] 42 := hW.b.keep (hg.block _ hW.b.lt (fun e => by have := HI.out.r.lt; have e := Option.some.inj e; omega))
      have hrW : w'.ranges Tryz.prog 42 hv mb (w.heap.size + 1 + 1) ns.length D (fun z => left z && !z.sameKey (pk p')) cnt1 := by
        have hr5 := HX5.out.2.2.2.1
        have l1 := hr5.lt
        have l2 := hr5.owns.lt
        have z := hb'.size
        have hm := HMb.out
        refine ranges_keep hr5 ((hg.block _ (by omega) (fun e => by have e := Option.some.inj e; omega)).trans (hb'.block _ l2)) ((hg.block _ (by omega) (fun e => by have e := Option.some.inj e; omega)).trans (hb'.block _ l1))
      have hbw' : Below w.heap.size w w' := (belT HX5.out.1 hb').grown hg (belT HX5.out.1 hb').size (fun j hj => by cases hj; omega)
      have hfin := CyI.put (S := S) HI.out HH.out HD.out HPi.out HX5.out.2.2.2.2.2.2.2.2 (by rw [HVe.out]; exact HX5.out.2.2.2.2.2.2.2.1) HLt2.out hmW.isMap HX5.out.2.2.2.2.2.1 HX5.out.2.2.2.2.2.2.1 hbw' hrW (by rw [HVe.out]; exact hown) hh'
      have HFin := Lib.hid hfin
      refine o_skb none w' (by unfold execOp; go_simp) ⟨⟨hh', hbk'⟩, ?_⟩
      refine Free.done (fun W2 hb2 hW2 => ?_)
      have HE := Lib.hid (HFin.out.after hb2)
      clear hb hW hb' hmW hup hown hg hhW hne hh' hbk' hrW hbw' hfin hb2 hW2
      go_wp2
      refine ⟨⟨_, _, HE⟩, ?_⟩
      rw [HE.out.r.left_eq, HLe.out]
      exact HLt2.out
end Go.Proofs.YtiohlmccnllklaaGreatDoor.Q

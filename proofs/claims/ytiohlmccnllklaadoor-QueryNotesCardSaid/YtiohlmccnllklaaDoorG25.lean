/-
  Layer 14: what the document's answer holds while it looks for roots. No walk. Layer 14: Roots of the document's answer: walk.
-/
import Derived.Test.YtiohlmccnllklaaDoorG23
import Derived.Test.YtiohlmccnllklaaDoorG24
set_option linter.unusedVariables false
set_option linter.unusedSimpArgs false
namespace Go.Proofs.YtiohlmccnllklaaDoor.Q
open Go.RowKit
set_option maxRecDepth 100000
set_option linter.unusedVariables false
set_option linter.unusedSimpArgs false

/-- The cells of a place ahead of a step. -/
def whc (b : T.Pt) : List Value := [.int .i64 b.1.1, .int .i64 b.1.2, .int .i64 b.2]
theorem whc_sz (b : T.Pt) : (whc b).length = 3 := rfl
structure RrS (w : World) (av : Value) (Wl : List T.Pt) (ov : Value) (O : List T.Pl) (W : World) : Prop where
  b : Below w.heap.size w W
  a : Gs 73 3 W av Wl.length (Wl.flatMap whc)
  lo : ∀ k, blkOf av = some k → w.heap.size ≤ k
  o : Own W ov O
theorem RrS.below {w : World} {av : Value} {Wl : List T.Pt} {ov : Value} {O : List T.Pl} {W W' : World} (h : RrS w av Wl ov O W) (hb : Below W.heap.size W W') : RrS w av Wl ov O W' := ⟨belT h.b hb, h.a.below hb, h.lo, h.o.below hb⟩
theorem RrS.at_ {w : World} {av : Value} {Wl : List T.Pt} {ov : Value} {O : List T.Pl} {W : World} (h : RrS w av Wl ov O W) {k : Nat} (hk : k < Wl.length) : ∃ g o c b, av = .slice (some ⟨g, o, none⟩) Wl.length c ∧ Wl[k]? = some b ∧ W.cell? ⟨g, o + k * 3, none⟩ = some (.int .i64 b.1.1) ∧ W.cell? ⟨g, o + k * 3 + 1, none⟩ = some (.int .i64 b.1.2) ∧ W.cell? ⟨g, o + k * 3 + 2, none⟩ = some (.int .i64 b.2) := by
  obtain ⟨g, o, c, e, _, hr⟩ := h.a.rd.elem hk
  have hb : Wl[k]? = some Wl[k] := List.getElem?_eq_getElem hk
  rw [flat_at whc whc_sz Wl k _ hb] at hr
  exact ⟨g, o, c, _, e, hb, hr 0 _ rfl, hr 1 _ rfl, hr 2 _ rfl⟩
theorem RrS.out {w : World} {av : Value} {Wl : List T.Pt} {ov : Value} {O : List T.Pl} {W : World} (h : RrS w av Wl ov O W) {p : T.Pl} {e : Ending} {W' : World} (ho : WiO W ov O p e W') : ∃ v O', e = .returned v ∧ RrS w av Wl v O' W' ∧ T.RisP O' ∧ ∀ q, q ∈ O' ↔ q ∈ O ∨ q = p := by
  obtain ⟨v, O', rfl, h1, h2, h3, h4⟩ := ho
  refine ⟨v, O', rfl, ⟨belT h.b h4, h.a.below h4, h.lo, ?_⟩, h2, h3⟩
  rcases h1 with h1 | ⟨rfl, rfl⟩
  · exact h1
  · exact h.o.below h4
theorem RrS.app {w : World} {av : Value} {Wl : List T.Pt} {ov : Value} {O : List T.Pl} {W : World} (h : RrS w av Wl ov O W) {b : T.Pt} {v' : Value} {w' : World} (hg : Gs 73 3 w' v' (Wl.length + 1) (Wl.flatMap whc ++ whc b)) (ht : Turned (fun k => blkOf av = some k) W w') (hn : ∀ k, blkOf v' = some k → blkOf av = some k ∨ W.heap.size ≤ k) : RrS w v' (Wl ++ [b]) ov O w' := by
  refine ⟨h.b.trans (ht.below h.b.size h.lo), ?_, fun k hk => ?_, h.o.keep fun k cur hb => ht.block k hb.lt fun e => ?_⟩
  · rw [List.length_append, List.flatMap_append]
    simpa using hg
  · rcases hn k hk with e | e
    · exact h.lo k e
    · exact Nat.le_trans h.b.size e
  · obtain ⟨cur', h1⟩ := h.a.in_ e
    unfold Blk at hb h1
    rw [hb] at h1
    simp at h1
theorem RrS.start {w : World} (b : T.Pt) : RrS w (.slice (some ⟨w.heap.size, 0, none⟩) 1 1) [b] (.slice none 0 0) [] (w.alloc (.cells (whc b).toArray 73)) :=
  ⟨bel1 w _, Gs.lit (sz := 3) (n := 1) (cs := (whc b).toArray) w 73 rfl (by decide), fun k hk => by simp [blkOf] at hk; omega, own_nil _⟩
theorem wh_src (w : World) (b : T.Pt) : Src Tryd.prog 3 74 (.slice (some ⟨w.heap.size, 0, none⟩) 1 1) 1 (whc b) (w.alloc (.cells (whc b).toArray 73)) :=
  (Gs.lit (sz := 3) (n := 1) (cs := (whc b).toArray) w 73 rfl (by decide)).src Tryd.underlying74 (by intro u hu; simp [whc] at hu; rcases hu with rfl | rfl | rfl <;> rfl)
theorem infoWh : (Tryd.prog.info? 73).map (fun i => (i.zero, i.size, i.bytes)) = some (some (.agg #[.int .i64 0, .int .i64 0, .int .i64 0]), 3, 24) := by kernel_rfl
theorem zero_when (w : World) : (zeroValue 73).run Tryd.prog w = .ok (.agg #[.int .i64 0, .int .i64 0, .int .i64 0]) w := by kernel_rfl
/-- A block of three cells, all set. -/
theorem Blk.set3 {w : World} {B : Nat} {cs : Array Value} {ty : TypeId} (h : Blk w B cs ty) (hs : cs.size = 3) (a b c : Value) : Blk (((w.setCell ⟨B, 0, none⟩ a).setCell ⟨B, 1, none⟩ b).setCell ⟨B, 2, none⟩ c) B #[a, b, c] ty := by
  have h3 := ((Blk.setCell h 0 a).setCell 1 b).setCell 2 c
  obtain ⟨l⟩ := cs
  match l, hs with
  | [x, y, z], _ => exact h3
theorem set3_other {w : World} {B : Nat} (a b c : Value) : Turned (fun k => k = B) w (((w.setCell ⟨B, 0, none⟩ a).setCell ⟨B, 1, none⟩ b).setCell ⟨B, 2, none⟩ c) :=
  (((Turned.refl (fun k => k = B) w).setCell (p := ⟨B, 0, none⟩) (.inl rfl) a).setCell (p := ⟨B, 1, none⟩) (.inl rfl) b).setCell (p := ⟨B, 2, none⟩) (.inl rfl) c
/-- Roots, as the document's answer tells them. -/
def RrO (w : World) (ns : List T.No) (a : T.Pt) (e : Ending) (w' : World) : Prop :=
  ∃ v O, e = .returned v ∧ PlsIn w' v O ∧ T.RisP O ∧ (∀ q, q ∈ O ↔ T.Root ns a q) ∧ Below w.heap.size w w'
end Go.Proofs.YtiohlmccnllklaaDoor.Q
namespace Go.Proofs.YtiohlmccnllklaaDoor.Q
open Go.RowKit
set_option maxHeartbeats 8000000
set_option maxRecDepth 100000
set_option linter.unusedVariables false
set_option linter.unusedSimpArgs false

structure Rr6 (w0 w : World) (nv : Value) (ns : List T.No) (av : Value) (Wl : List T.Pt) (ov : Value) (O : List T.Pl) (g o : Nat) (b : T.Pt) (W : World) : Prop where
  s : RrS w av Wl ov O W
  n : NsR w0 W nv ns
  x : W.cell? ⟨g, o, none⟩ = some (.int .i64 b.1.1)
  y : W.cell? ⟨g, o + 1, none⟩ = some (.int .i64 b.1.2)
  z : W.cell? ⟨g, o + 2, none⟩ = some (.int .i64 b.2)
theorem Rr6.stb (w0 w : World) (nv : Value) (ns : List T.No) (av : Value) (Wl : List T.Pt) (ov : Value) (O : List T.Pl) (g o : Nat) (b : T.Pt) : Free.Stb (Rr6 w0 w nv ns av Wl ov O g o b) := fun W W' h hb => ⟨h.s.below hb, h.n.below hb, cell_below h.x hb, cell_below h.y hb, cell_below h.z hb⟩
/-- Places ahead of steps, compared. -/
theorem eq_place9 (p q : T.Pl) (w : World) : (Op.equalIn 9999 33 (.agg #[.int .i64 p.1, .int .i64 p.2]) (.agg #[.int .i64 q.1, .int .i64 q.2])).run Tryd.prog w = .ok (decide (p = q)) w := by
  rw [run_equalIn_struct w 9998 33 _ _ (by kernel_rfl) (by kernel_rfl)]
  simp only [Program.fieldsOf, Tryd.underlying33]
  go_simp
  obtain ⟨a, b⟩ := p
  obtain ⟨c, d⟩ := q
  simp only [Prod.mk.injEq]
  by_cases h1 : a = c <;> by_cases h2 : b = d <;> simp [h1, h2]
theorem eq_when (p q : T.Pt) (w : World) : (Op.equalIn 10000 73 (.agg #[.int .i64 p.1.1, .int .i64 p.1.2, .int .i64 p.2]) (.agg #[.int .i64 q.1.1, .int .i64 q.1.2, .int .i64 q.2])).run Tryd.prog w = .ok (decide (p = q)) w := by
  have hp := eq_place9 p.1 q.1 w
  rw [run_equalIn_struct w 9999 73 _ _ (by kernel_rfl) (by kernel_rfl)]
  simp only [Program.fieldsOf, Tryd.underlying73]
  go_simp
  obtain ⟨⟨a, b⟩, x⟩ := p
  obtain ⟨⟨c, d⟩, y⟩ := q
  simp only [Prod.mk.injEq] at hp ⊢
  by_cases h1 : a = c <;> by_cases h2 : b = d <;> by_cases h3 : x = y <;> simp_all
theorem eql_when (p q : T.Pt) (w : World) : (binOp .eql 73 (.agg #[.int .i64 p.1.1, .int .i64 p.1.2, .int .i64 p.2]) (.agg #[.int .i64 q.1.1, .int .i64 q.1.2, .int .i64 q.2])).run Tryd.prog w = .ok (.bool (decide (p = q))) w := by
  simp [binOp, Op.equal, Op.maxDepth, eq_when p q, Result.andThen]
structure Rr12 (w0 w : World) (nv : Value) (ns : List T.No) (av : Value) (Wl : List T.Pt) (ov : Value) (O : List T.Pl) (g o : Nat) (m : T.No) (fv : Value) (g2 o2 : Nat) (q : T.Pl) (W : World) : Prop where
  s : RrS w av Wl ov O W
  n : NsR w0 W nv ns
  a : W.cell? ⟨g, o, none⟩ = some (.int .i64 m.st)
  d : W.cell? ⟨g, o + 3, none⟩ = some fv
  x : W.cell? ⟨g2, o2, none⟩ = some (.int .i64 q.1)
  y : W.cell? ⟨g2, o2 + 1, none⟩ = some (.int .i64 q.2)
theorem Rr12.stb (w0 w : World) (nv : Value) (ns : List T.No) (av : Value) (Wl : List T.Pt) (ov : Value) (O : List T.Pl) (g o : Nat) (m : T.No) (fv : Value) (g2 o2 : Nat) (q : T.Pl) : Free.Stb (Rr12 w0 w nv ns av Wl ov O g o m fv g2 o2 q) := fun W W' h hb => ⟨h.s.below hb, h.n.below hb, cell_below h.a hb, cell_below h.d hb, cell_below h.x hb, cell_below h.y hb⟩
structure Rr17 (w : World) (av : Value) (Wl : List T.Pt) (ov : Value) (O : List T.Pl) (g o : Nat) (b : T.Pt) (B : Nat) (c : T.Pt) (W : World) : Prop where
  s : RrS w av Wl ov O W
  x : W.cell? ⟨g, o, none⟩ = some (.int .i64 b.1.1)
  y : W.cell? ⟨g, o + 1, none⟩ = some (.int .i64 b.1.2)
  z : W.cell? ⟨g, o + 2, none⟩ = some (.int .i64 b.2)
  k : Blk W B #[.int .i64 c.1.1, .int .i64 c.1.2, .int .i64 c.2] 73
theorem Rr17.stb (w : World) (av : Value) (Wl : List T.Pt) (ov : Value) (O : List T.Pl) (g o : Nat) (b : T.Pt) (B : Nat) (c : T.Pt) : Free.Stb (Rr17 w av Wl ov O g o b B c) := fun W W' h hb => ⟨h.s.below hb, cell_below h.x hb, cell_below h.y hb, cell_below h.z hb, h.k.below hb⟩
theorem RRoots_any {w0 w : World} {nv : Value} {ns : List T.No} (h : NsR w0 w nv ns) (h0 : Below w0.heap.size w0 w) (hl : ns.length ≤ 1000) (hsum : T.sumF ns ≤ 100000) {p : T.Pl} (hp : Pi p) (s : Int) : Calls Tryd.prog 16 #[nv, .agg #[.int .i64 p.1, .int .i64 p.2], .int .i64 s] w fun e w' => RrO w ns (p, s) e w' := by
  have hb1 := bel1 w (.cells #[.int .i64 p.1, .int .i64 p.2] 33)
  have HN := Lib.hid (fun W (hb : Below w.heap.size w W) => (show NsR w0 W nv ns from h.below hb))
  have HH0 := Lib.hid h0
  have hzw := zero_when
  have HS0 : Hid (RrS w _ [(p, s)] _ [] _) := Lib.hid (let hs := RrS.start (w := w.alloc (.cells #[.int .i64 p.1, .int .i64 p.2] 33)) (p, s); (⟨belT hb1 hs.b, hs.a, fun k hk => Nat.le_trans hb1.size (hs.lo k hk), hs.o⟩ : RrS w _ [(p, s)] _ [] _))
  have HBf := Lib.hid (T.Bfs.start ns (p, s))
  have HPi := Lib.hid hp
  obtain ⟨on, cn, rfl, _, hml⟩ := h.shape
  unfold maxLen at hml
  clear h hb1 h0 hp
  go_enter Tryd.func16, Tryd.ntmps16
  go_wp2_with fail
  go_loopw [7, 8, 9] (fun av ov i wr => ∃ (n : Nat) (u v : Value) (Wl : List T.Pt) (O : List T.Pl), u = av ∧ v = ov ∧ i = .int .i64 (n : Int) ∧ Hid (RrS w u Wl v O wr) ∧ Hid (T.Bfs ns (p, s) n Wl O) ∧ Hid (∀ b ∈ Wl, Pi b.1)) (fun _ _ i _ => T.sumF ns + 2 - natI i)
  case atStart => exact ⟨0, _, _, _, _, rfl, rfl, rfl, by have h := HS0.out; rw [World.size_alloc] at h; exact Lib.hid h, HBf, Lib.hid fun b hb => by simp at hb; subst hb; exact HPi.out⟩
  case round =>
    obtain ⟨n, av, ov, Wl, O, rfl, rfl, rfl, HS, HF, HP⟩ := hrel
    clear HS0 HBf
    have hWl := HF.out.len
    have hnl := HF.out.le
    obtain ⟨oa, ca, rfl, _, _⟩ := HS.out.a.shape
    by_cases hlt : n < Wl.length
    · have hi : (n : Int) < (Wl.length : Int) := by omega
      obtain ⟨g1, o1, d1, b, e1, l1, x1, x2, x3⟩ := HS.out.at_ hlt
      simp at e1
      obtain ⟨rfl, rfl⟩ := e1
      have HD : Hid (Rr6 w0 w (.slice on ns.length cn) ns (.slice (some ⟨g1, o1, none⟩) Wl.length ca) Wl ov O g1 (o1 + n * 3) b (World.drew wr)) := Lib.hid (Rr6.stb _ _ _ _ _ _ _ _ _ _ _ _ _ ⟨HS.out, HN.out _ HS.out.b, x1, x2, x3⟩ (Below.refl _ _).drew)
      have HLb := Lib.hid l1
      have HPb := Lib.hid (HP.out b (List.mem_of_getElem? l1))
      clear l1 x1 x2 x3 HS
      go_wp2_with fail
      refine Free.any (Rr6 w0 w (.slice on ns.length cn) ns (.slice (some ⟨g1, o1, none⟩) Wl.length ca) Wl ov O g1 (o1 + n * 3) b) (Rr6.stb _ _ _ _ _ _ _ _ _ _ b) HD.out (fun st => ?_)
      refine Free.tk 0 (some 25) ?_ (hy := by intro W hW; go_simp; try with_reducible rfl)
      refine Free.tk 1 (some 26) ?_ (hy := by intro W hW; go_simp; try with_reducible rfl)
      refine Free.tk 2 (some 27) ?_ (hy := by intro W hW; go_simp; try with_reducible rfl)
      refine Free.tk 3 (some 28) (v := .pointer (some ⟨g1, o1 + n * 3, none⟩)) ?_ (hy := by intro W hW; go_simp; try with_reducible rfl)
      refine Free.tk 4 (some 29) (v := .pointer (some ⟨g1, o1 + n * 3, none⟩)) ?_ (hy := by intro W hW; go_simp; try with_reducible rfl)
      refine Free.tk 5 (some 30) (v := .agg #[.int .i64 b.1.1, .int .i64 b.1.2]) ?_ (hy := by intro W hW; have x1 := hW.x; have x2 := hW.y; go_simp; try with_reducible rfl)
      refine Free.tk 6 (some 31) ?_ (hy := by intro W hW; go_simp; try with_reducible rfl)
      refine Free.tk 7 (some 32) ?_ (hy := by intro W hW; go_simp; try with_reducible rfl)
      refine Free.tk 8 (some 33) (v := .pointer (some ⟨g1, o1 + n * 3, none⟩)) ?_ (hy := by intro W hW; go_simp; try with_reducible rfl)
      refine Free.tk 9 (some 34) (v := .pointer (some ⟨g1, o1 + n * 3 + 2, none⟩)) ?_ (hy := by intro W hW; go_simp; try with_reducible rfl)
      refine Free.tk 10 (some 35) (v := .int .i64 b.2) ?_ (hy := by intro W hW; have x1 := hW.z; go_simp; try with_reducible rfl)
      refine Free.one 11 (fun W1 hb1 hW1 => ?_)
      refine o_callb (some 36) (by go_simp; first | exact ⟨rfl, rfl⟩ | rfl) ?_
      refine (RLast_any hW1.n b.1 b.2).mono ?_
      rintro e W2 ⟨r, rfl, hb2, hr⟩
      refine ⟨_, rfl, st _ _ hW1 hb2, ?_⟩
      refine Free.tk 12 (some 10) (v := .int .i64 r) ?_
      refine Free.done (fun W3 hb3 hW3 => ?_)
      have HD3 := Lib.hid hW3
      clear hb1 hW1 hb2 hb3 hW3
      rcases hr with ⟨rfl, hno⟩ | ⟨idx, m, rfl, hm1, hm2⟩
      · have x1 := HD3.out.x
        have x2 := HD3.out.y
        have hO := T.nodup_len HF.out.nd fun b hb => T.rch_whens (HF.out.rch b hb)
        have hOl : O.length ≤ 200000 := by
          have h1 := T.nodup_len (m := Wl.map Prod.fst) (T.RisP.nd HF.out.ris) fun q hq => by
            obtain ⟨j, d, _, h2, h3, _⟩ := (HF.out.out q).1 hq
            rw [← h3]; exact List.mem_map.2 ⟨d, List.mem_of_getElem? h2, rfl⟩
          rw [List.length_map] at h1
          omega
        have HWi := Lib.hid (with_any HD3.out.s.o.pls HF.out.ris (by omega) HPb.out)
        have HNo := Lib.hid hno
        obtain ⟨ov2, cv2, rfl, _, _⟩ := HD3.out.s.o.1.shape
        clear hno hO hOl
        go_wp2_with fail
        refine HWi.out.mono ?_
        rintro e W4 hwi
        obtain ⟨v', O', rfl, hs4, hris4, hmem4⟩ := HD3.out.s.out hwi
        have HS4 := Lib.hid hs4
        have HF4 := Lib.hid (HF.out.root HLb.out HNo.out hris4 hmem4)
        clear hs4 hris4 hmem4 hwi x1 x2
        go_wp2
        exact ⟨⟨n + 1, _, v', Wl, O', rfl, rfl, by go_num, HS4, HF4, HP⟩, by simp [natI]; omega⟩
      · have HM := Lib.hid (And.intro hm1 hm2)
        clear hm1 hm2
        have hidx : idx < ns.length := (List.getElem?_eq_some_iff.1 HM.out.1).1
        have hxi : (idx : Int) < (ns.length : Int) := by omega
        have hkk : T.kids ns b = m.fr.map fun q => (q, m.st) := by unfold T.kids; rw [HM.out.2]
        have HKi := Lib.hid hkk
        have HF0 := Lib.hid (HF.out.goes HLb.out)
        have HS3 := Lib.hid HD3.out.s
        clear hkk HD3
        go_wp2_with fail
        go_loopw [7, 11] (fun av j wr => ∃ (i : Nat) (u : Value) (W2l : List T.Pt), i ≤ m.fr.length ∧ u = av ∧ j = .int .i64 (i : Int) ∧ Hid (RrS w u W2l ov O wr) ∧ Hid (T.BfsI ns (p, s) n b i W2l O) ∧ Hid (∀ b ∈ W2l, Pi b.1)) (fun _ j _ => m.fr.length + 1 - natI j)
        case atStart => exact ⟨0, _, Wl, by omega, rfl, rfl, HS3, HF0, HP⟩
        case round =>
          obtain ⟨i, av2, W2l, hi2, rfl, rfl, HS, HFi, HP2⟩ := hrel
          clear HS3 HF0
          have hWl2 := HFi.out.len
          obtain ⟨oa2, ca2, rfl, _, _⟩ := HS.out.a.shape
          obtain ⟨g3, o3, d3, m', fv, e3, l3, _, hpf, r3⟩ := (HN.out _ HS.out.b).at_ hidx
          simp at e3
          obtain ⟨rfl, rfl⟩ := e3
          obtain rfl : m' = m := Option.some.inj (l3.symm.trans HM.out.1)
          obtain ⟨of, cf, rfl, _, hlf⟩ := hpf.shape
          unfold maxLen at hlf
          obtain ⟨y0, _, _, y3⟩ := rng4 r3
          by_cases hlj : i < m'.fr.length
          · have hji : (i : Int) < (m'.fr.length : Int) := by omega
            obtain ⟨g4, o4, d4, q, e4, l4, hqi, r4⟩ := (hpf.below (belT HH0.out HS.out.b)).at_ hlj
            simp at e4
            obtain ⟨rfl, rfl⟩ := e4
            obtain ⟨z1, z2⟩ := rng2 r4
            have HD : Hid (Rr12 w0 w (.slice (some ⟨g3, o3, none⟩) ns.length cn) ns (.slice oa2 W2l.length ca2) W2l ov O g3 (o3 + idx * 4) m' (.slice (some ⟨g4, o4, none⟩) m'.fr.length cf) g4 (o4 + i * 2) q (World.drew wr)) := Lib.hid (Rr12.stb _ _ _ _ _ _ _ _ _ _ _ _ _ _ _ _ _ ⟨HS.out, HN.out _ HS.out.b, y0, y3, z1, z2⟩ (Below.refl _ _).drew)
            have HL4 := Lib.hid l4
            have HQi := Lib.hid hqi
            have hi0 : (0 : Int) ≤ (idx : Int) := by omega
            clear l3 hpf r3 l4 r4 z1 z2 hqi HS
            go_wp2_with fail
            refine Free.any (Rr12 w0 w (.slice (some ⟨g3, o3, none⟩) ns.length cn) ns (.slice oa2 W2l.length ca2) W2l ov O g3 (o3 + idx * 4) m' (.slice (some ⟨g4, o4, none⟩) m'.fr.length cf) g4 (o4 + i * 2) q) (Rr12.stb _ _ _ _ _ _ _ _ _ _ m' _ _ _ q) HD.out (fun st => ?_)
            refine Free.tk 0 (some 56) ?_ (hy := by intro W hW; go_simp; try with_reducible rfl)
            refine Free.tk 1 (some 57) ?_ (hy := by intro W hW; go_simp; try with_reducible rfl)
            refine Free.tk 2 (some 58) (v := .pointer (some ⟨g3, o3 + idx * 4, none⟩)) ?_ (hy := by intro W hW; go_simp; try with_reducible rfl)
            refine Free.tk 3 (some 59) (v := .pointer (some ⟨g3, o3 + idx * 4 + 3, none⟩)) ?_ (hy := by intro W hW; go_simp; try with_reducible rfl)
            refine Free.tk 4 (some 60) (v := .slice (some ⟨g4, o4, none⟩) m'.fr.length cf) ?_ (hy := by intro W hW; have x1 := hW.d; go_simp; try with_reducible rfl)
            refine Free.tk 5 (some 61) ?_ (hy := by intro W hW; go_simp; try with_reducible rfl)
            refine Free.tk 6 (some 62) (v := .pointer (some ⟨g4, o4 + i * 2, none⟩)) ?_ (hy := by intro W hW; go_simp; try with_reducible rfl)
            refine Free.tk 7 (some 63) (v := .agg #[.int .i64 q.1, .int .i64 q.2]) ?_ (hy := by intro W hW; have x1 := hW.x; have x2 := hW.y; go_simp; try with_reducible rfl)
            refine Free.tk 8 (some 64) ?_ (hy := by intro W hW; go_simp; try with_reducible rfl)
            refine Free.tk 9 (some 65) ?_ (hy := by intro W hW; go_simp; try with_reducible rfl)
            refine Free.tk 10 (some 66) (v := .pointer (some ⟨g3, o3 + idx * 4, none⟩)) ?_ (hy := by intro W hW; go_simp; try with_reducible rfl)
            refine Free.tk 11 (some 67) (v := .pointer (some ⟨g3, o3 + idx * 4, none⟩)) ?_ (hy := by intro W hW; go_simp; try with_reducible rfl)
            refine Free.tk 12 (some 68) (v := .int .i64 m'.st) ?_ (hy := by intro W hW; have x1 := hW.a; go_simp; try with_reducible rfl)
            refine Free.tk 13 (some 69) (v := .agg #[.int .i64 q.1, .int .i64 q.2, .int .i64 m'.st]) ?_ (hy := by intro W hW; go_simp; try with_reducible rfl)
            refine Free.one 14 (fun W4 hb4 hW4 => ?_)
            refine o_okb (some 12) (.pointer (some ⟨W4.heap.size, 0, none⟩)) (W4.alloc (.cells #[.int .i64 0, .int .i64 0, .int .i64 0] 73)) (by go_simp; try rfl) ⟨st _ _ hW4 (bel1 W4 _), ?_⟩
            refine Free.one 15 (fun W5 hb5 hW5 => ?_)
            have hB5 := (blk_new W4 #[.int .i64 0, .int .i64 0, .int .i64 0] 73).below hb5
            have c0 := hB5.cell 0
            have c1 := hB5.cell 1
            have c2 := hB5.cell 2
            have f0 := hB5.frozen 0
            have f1 := hB5.frozen 1
            have f2 := hB5.frozen 2
            simp only [List.getElem?_toArray, List.getElem?_cons_zero, List.getElem?_cons_succ] at c0 c1 c2
            have hB6 := Blk.set3 hB5 rfl (.int .i64 q.1) (.int .i64 q.2) (.int .i64 m'.st)
            have hbb := belT (bel1 W4 (.cells #[.int .i64 0, .int .i64 0, .int .i64 0] 73)) hb5
            have hb6 := hbb.trans ((set3_other (w := W5) (B := W4.heap.size) (.int .i64 q.1) (.int .i64 q.2) (.int .i64 m'.st)).below hbb.size (fun k e => by omega))
            refine o_skb none (((W5.setCell ⟨W4.heap.size, 0, none⟩ (.int .i64 q.1)).setCell ⟨W4.heap.size, 1, none⟩ (.int .i64 q.2)).setCell ⟨W4.heap.size, 2, none⟩ (.int .i64 m'.st)) (by go_simp; try rfl) ⟨st _ _ hW4 hb6, ?_⟩
            refine Free.done (fun W7 hb7 hW7 => ?_)
            have HS7 := Lib.hid (And.intro hW7.s (hB6.below hb7))
            obtain ⟨B, hBe⟩ : ∃ B, B = W4.heap.size := ⟨_, rfl⟩
            rw [← hBe] at HS7 ⊢
            clear hb4 hW4 hb5 hW5 hB5 c0 c1 c2 f0 f1 f2 hB6 hbb hb6 hb7 hW7 hBe HD y0 y3
            go_wp2_with fail
            go_loopw [13, 14] (fun t j wr => ∃ (k : Nat) (c : Bool), k ≤ W2l.length ∧ t = .bool c ∧ j = .int .i64 (k : Int) ∧ Hid (RrS w (.slice oa2 W2l.length ca2) W2l ov O wr ∧ Blk wr B #[.int .i64 q.1, .int .i64 q.2, .int .i64 m'.st] 73) ∧ Hid (c = true ↔ (q, m'.st) ∈ W2l.take k)) (fun _ j _ => W2l.length + 1 - natI j)
            case atStart => exact ⟨0, false, by omega, rfl, rfl, HS7, Lib.hid (by simp)⟩
            case round =>
              obtain ⟨k, c, hk, rfl, rfl, HS8, HC⟩ := hrel
              by_cases hlk : k < W2l.length
              · have hki : (k : Int) < (W2l.length : Int) := by omega
                obtain ⟨g5, o5, d5, d, e5, l5, x1, x2, x3⟩ := HS8.out.1.at_ hlk
                simp at e5
                obtain ⟨rfl, rfl⟩ := e5
                have HD8 : Hid (Rr17 w (.slice (some ⟨g5, o5, none⟩) W2l.length ca2) W2l ov O g5 (o5 + k * 3) d B (q, m'.st) (World.drew wr)) := Lib.hid (Rr17.stb _ _ _ _ _ _ _ _ _ _ _ _ ⟨HS8.out.1, x1, x2, x3, HS8.out.2⟩ (Below.refl _ _).drew)
                have hts : W2l.take (k + 1) = W2l.take k ++ [d] := by rw [List.take_add_one, l5]; rfl
                have HTs := Lib.hid hts
                clear x1 x2 x3 l5 hts HS8
                cases c with
                | true =>
                  go_wp2_with fail
                  refine Free.any (Rr17 w (.slice (some ⟨g5, o5, none⟩) W2l.length ca2) W2l ov O g5 (o5 + k * 3) d B (q, m'.st)) (Rr17.stb _ _ _ _ _ _ _ d _ _) HD8.out (fun st => ?_)
                  refine Free.tk 0 (some 76) (v := .bool true) ?_ (hy := by intro W hW; go_simp; try with_reducible rfl)
                  refine Free.tk 1 (some 77) (v := .bool true) ?_ (hy := by intro W hW; go_simp; try with_reducible rfl)
                  refine Free.sk 2 (some 78) ?_
                  refine Free.sk 3 (some 79) ?_
                  refine Free.sk 4 (some 80) ?_
                  refine Free.sk 5 (some 81) ?_
                  refine Free.sk 6 (some 82) ?_
                  refine Free.sk 7 (some 83) ?_
                  refine Free.tk 8 (some 84) (v := .bool true) ?_ (hy := by intro W hW; go_simp; try with_reducible rfl)
                  refine Free.tk 9 (some 13) (v := .bool true) ?_ (hy := by intro W hW; go_simp; try with_reducible rfl)
                  refine Free.done (fun W9 hb9 hW9 => ?_)
                  have HS9 := Lib.hid (And.intro hW9.s hW9.k)
                  have HC9 : Hid (true = true ↔ (q, m'.st) ∈ W2l.take (k + 1)) := Lib.hid ⟨fun _ => by rw [HTs.out]; exact List.mem_append_left _ (HC.out.1 (by first | rfl | trivial)), fun _ => rfl⟩
                  clear hb9 hW9
                  go_wp2
                  exact ⟨⟨k + 1, true, by omega, rfl, by go_num, HS9, HC9⟩, by simp [natI]; omega⟩
                | false =>
                  go_wp2_with fail
                  refine Free.any (Rr17 w (.slice (some ⟨g5, o5, none⟩) W2l.length ca2) W2l ov O g5 (o5 + k * 3) d B (q, m'.st)) (Rr17.stb _ _ _ _ _ _ _ d _ _) HD8.out (fun st => ?_)
                  refine Free.tk 0 (some 76) (v := .bool false) ?_ (hy := by intro W hW; go_simp; try with_reducible rfl)
                  refine Free.tk 1 (some 77) (v := .bool false) ?_ (hy := by intro W hW; go_simp; try with_reducible rfl)
                  refine Free.tk 2 (some 78) ?_ (hy := by intro W hW; go_simp; try with_reducible rfl)
                  refine Free.tk 3 (some 79) ?_ (hy := by intro W hW; go_simp; try with_reducible rfl)
                  refine Free.tk 4 (some 80) (v := .pointer (some ⟨g5, o5 + k * 3, none⟩)) ?_ (hy := by intro W hW; go_simp; try with_reducible rfl)
                  refine Free.tk 5 (some 81) (v := .agg #[.int .i64 d.1.1, .int .i64 d.1.2, .int .i64 d.2]) ?_ (hy := by intro W hW; have x1 := hW.x; have x2 := hW.y; have x3 := hW.z; go_simp; try with_reducible rfl)
                  refine Free.tk 6 (some 82) (v := .agg #[.int .i64 q.1, .int .i64 q.2, .int .i64 m'.st]) ?_ (hy := by intro W hW; have x1 := hW.k.cell 0; have x2 := hW.k.cell 1; have x3 := hW.k.cell 2; simp only [List.getElem?_toArray, List.getElem?_cons_zero, List.getElem?_cons_succ] at x1 x2 x3; go_simp; try with_reducible rfl)
                  by_cases hdq : d = (q, m'.st)
                  · refine Free.tk 7 (some 83) (v := .bool true) ?_ (hy := by intro W hW; have he := fun w => eql_when d (q, m'.st) w; simp only [decide_eq_true hdq] at he; go_simp; try with_reducible rfl)
                    refine Free.tk 8 (some 84) (v := .bool true) ?_ (hy := by intro W hW; go_simp; try with_reducible rfl)
                    refine Free.tk 9 (some 13) (v := .bool true) ?_ (hy := by intro W hW; go_simp; try with_reducible rfl)
                    refine Free.done (fun W9 hb9 hW9 => ?_)
                    have HS9 := Lib.hid (And.intro hW9.s hW9.k)
                    have HC9 : Hid (true = true ↔ (q, m'.st) ∈ W2l.take (k + 1)) := Lib.hid ⟨fun _ => by rw [HTs.out, hdq]; simp, fun _ => rfl⟩
                    clear hb9 hW9 hdq
                    go_wp2
                    exact ⟨⟨k + 1, true, by omega, rfl, by go_num, HS9, HC9⟩, by simp [natI]; omega⟩
                  · refine Free.tk 7 (some 83) (v := .bool false) ?_ (hy := by intro W hW; have he := fun w => eql_when d (q, m'.st) w; simp only [decide_eq_false hdq] at he; go_simp; try with_reducible rfl)
                    refine Free.tk 8 (some 84) (v := .bool false) ?_ (hy := by intro W hW; go_simp; try with_reducible rfl)
                    refine Free.tk 9 (some 13) (v := .bool false) ?_ (hy := by intro W hW; go_simp; try with_reducible rfl)
                    refine Free.done (fun W9 hb9 hW9 => ?_)
                    have HS9 := Lib.hid (And.intro hW9.s hW9.k)
                    have HC9 : Hid (false = true ↔ (q, m'.st) ∈ W2l.take (k + 1)) := Lib.hid ⟨fun h => (by cases h), fun h => by
                      rw [HTs.out] at h
                      rcases List.mem_append.1 h with h | h
                      · exact absurd (HC.out.2 h) (by first | decide | (intro h; exact h))
                      · simp only [List.mem_singleton] at h; exact absurd h.symm hdq⟩
                    clear hb9 hW9 hdq
                    go_wp2
                    exact ⟨⟨k + 1, false, by omega, rfl, by go_num, HS9, HC9⟩, by simp [natI]; omega⟩
              · obtain rfl : k = W2l.length := by omega
                have HCk := HC.out
                rw [List.take_length] at HCk
                have hci : (T.kids ns b)[i]? = some (q, m'.st) := by rw [HKi.out, List.getElem?_map, HL4.out]; rfl
                cases c with
                | true =>
                  have HF9 := Lib.hid (HFi.out.old hci (HCk.1 rfl))
                  have HS9 := Lib.hid HS8.out.1
                  clear HCk hci
                  go_wp2
                  exact ⟨⟨i + 1, _, W2l, by omega, rfl, by go_num, HS9, HF9, HP2⟩, by simp [natI]; omega⟩
                | false =>
                  have HF9 := Lib.hid (HFi.out.new hci (fun h => absurd (HCk.2 h) (by decide)))
                  have HP9 : Hid (∀ b ∈ W2l ++ [(q, m'.st)], Pi b.1) := Lib.hid fun x hx => by
                    rcases List.mem_append.1 hx with h | h
                    · exact HP2.out x h
                    · simp only [List.mem_singleton] at h; subst h; exact HQi.out
                  have c0 := HS8.out.2.cell 0
                  have c1 := HS8.out.2.cell 1
                  have c2 := HS8.out.2.cell 2
                  simp only [List.getElem?_toArray, List.getElem?_cons_zero, List.getElem?_cons_succ] at c0 c1 c2
                  have hb9 := bel1 wr (.cells (whc (q, m'.st)).toArray 73)
                  have hS9 := HS8.out.1.below hb9
                  have hg9 := hS9.a
                  clear HCk hci
                  go_wp2_with (refine wp_append_g rfl _ _ rfl Tryd.underlying74 infoWh rfl (by omega) (by omega) rfl rfl hg9 (wh_src wr (q, m'.st)) (by omega) ?_; intro v9 w9 hg6 ht6 hn6; have HS9 := Lib.hid (hS9.app hg6 ht6 hn6); clear hb9 hS9 hg9 hg6 ht6 hn6 c0 c1 c2)
                  go_wp2
                  exact ⟨⟨i + 1, v9, W2l ++ [(q, m'.st)], by omega, rfl, by go_num, HS9, HF9, HP9⟩, by simp [natI]; omega⟩
          · obtain rfl : i = m'.fr.length := by omega
            have hF9 := HFi.out
            rw [show m'.fr.length = (T.kids ns b).length by rw [HKi.out, List.length_map]] at hF9
            have HF9 := Lib.hid (hF9.end_ HM.out.2)
            clear hF9 l3 hpf r3
            go_wp2
            exact ⟨⟨n + 1, _, ov, W2l, O, rfl, rfl, by go_num, HS, HF9, HP2⟩, by simp [natI]; omega⟩
    · obtain rfl : n = Wl.length := by omega
      have HR : Hid (RrO w ns (p, s) (.returned ov) wr) := Lib.hid ⟨_, O, rfl, HS.out.o.pls, HF.out.ris, HF.out.roots, HS.out.b⟩
      go_wp2
      go_ret
      exact HR.out
end Go.Proofs.YtiohlmccnllklaaDoor.Q

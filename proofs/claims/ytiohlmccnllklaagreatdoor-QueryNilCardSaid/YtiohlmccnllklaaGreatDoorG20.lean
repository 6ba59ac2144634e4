/-
  Layer 14: a history and the document's notes, side by side. No walk. Layer 14: made of the statements: walk.
-/
import Derived.Test.YtiohlmccnllklaaGreatDoorG18
import Derived.Test.YtiohlmccnllklaaGreatDoorG19
import Derived.Test.YtiohlmccnllklaaGreatDoorG07
set_option linter.unusedVariables false
set_option linter.unusedSimpArgs false
namespace Go.Proofs.YtiohlmccnllklaaGreatDoor.Q
open Go.RowKit
set_option maxRecDepth 100000
set_option linter.unusedVariables false
set_option linter.unusedSimpArgs false

/-- Notes that are read: their places lie where w has them. -/
def NsR (w : World) (W : World) (nv : Value) (ns : List T.No) : Prop := ∃ cs, Gs 63 4 W nv ns.length cs ∧ NtC (PlsIn w) ns cs
/-- A history S of the notes m, the document's notes ns at nv, both made behind w. -/
structure MdS (w : World) (S mb : Nat) (m : List T.No × Int) (ns : List T.No) (nv : Value) (W : World) : Prop where
  b : Below w.heap.size w W
  h : ∃ V, HsIs W S mb m.1 m.2 V ∧ (∀ k, hF S mb V k → w.heap.size ≤ k) ∧ ∀ k, blkOf nv = some k → ¬ hF S mb V k
  n : NsR w W nv ns
  lo : ∀ k, blkOf nv = some k → w.heap.size ≤ k
theorem NsR.below {w W W' : World} {nv : Value} {ns : List T.No} (h : NsR w W nv ns) (hb : Below W.heap.size W W') : NsR w W' nv ns := by
  obtain ⟨cs, h1, h2⟩ := h
  exact ⟨cs, h1.below hb, h2⟩
theorem NsR.base {w w1 W : World} {nv : Value} {ns : List T.No} (h : NsR w W nv ns) (hb : Below w.heap.size w w1) : NsR w1 W nv ns := by
  obtain ⟨cs, h1, h2⟩ := h
  exact ⟨cs, h1, h2.mono fun v l hv => hv.below hb⟩
theorem MdS.below {w : World} {S mb : Nat} {m : List T.No × Int} {ns : List T.No} {nv : Value} {W W' : World} (h : MdS w S mb m ns nv W) (hb : Below W.heap.size W W') : MdS w S mb m ns nv W' := by
  obtain ⟨V, h1, h2, h3⟩ := h.h
  exact ⟨belT h.b hb, ⟨V, h1.below hb, h2, h3⟩, h.n.below hb, h.lo⟩
theorem MdS.hw {w : World} {S mb : Nat} {m : List T.No × Int} {ns : List T.No} {nv : Value} {W : World} (h : MdS w S mb m ns nv W) : HsW w S mb m W := by
  obtain ⟨V, h1, h2, _⟩ := h.h
  exact ⟨h.b, V, h1, h2⟩
theorem MdS.start {w : World} {S mb : Nat} {W : World} (h : HsW w S mb ([], 0) W) : MdS w S mb ([], 0) [] (.slice none 0 0) W := by
  obtain ⟨V, h1, h2⟩ := h.h
  exact ⟨h.b, ⟨V, h1, h2, fun k hk => by simp [blkOf] at hk⟩, ⟨[], Gs.nil _ _ _, rfl⟩, fun k hk => by simp [blkOf] at hk⟩
theorem MdS.add {w : World} {S mb : Nat} {m : List T.No × Int} {ns : List T.No} {nv : Value} {W : World} (h : MdS w S mb m ns nv W) {v : Value} {ts : List T.Tc} (hv : TsIn w v ts) (hl : m.1.length + ts.length ≤ 900000)
    (hfl : ∀ t ∈ ts, t.2.length ≤ 1000000) {s : Int} (hs : I64 s) : Calls Tryz.prog 15 #[.pointer (some ⟨S, 0, none⟩), .int .i64 s, v] W fun e w' => e = .returned (.int .i64 (if s < m.2 then 2 else 0)) ∧ MdS w S mb (T.stM m (s, ts)) ns nv w' := by
  obtain ⟨V, h1, h2, h3⟩ := h.h
  have hb : ∀ W', Turned (hF S mb V) W W' → Below w.heap.size w W' := fun W' ht => h.b.trans (ht.below h.b.size h2)
  refine (Add_any h1 (fun W' ht => hv.below (hb W' ht)) hl hfl hs).mono ?_
  rintro e w' ⟨rfl, h4⟩
  obtain ⟨V', h5, h6⟩ := h4.h
  obtain ⟨cs, g1, g2⟩ := h.n
  refine ⟨rfl, hb _ h4.t, ⟨V', h5, fun k hk => ?_, fun k hk e => ?_⟩, ⟨cs, g1.keep fun k hk => h4.t.block k (g1.lt hk) (h3 k hk), g2⟩, h.lo⟩
  · rcases h6 k hk with e | e
    · exact h2 k e
    · exact Nat.le_trans h.b.size e
  · rcases h6 k e with e2 | e2
    · exact h3 k hk e2
    · have := g1.lt hk; omega
theorem MdS.app {w : World} {S mb : Nat} {m : List T.No × Int} {ns : List T.No} {nv : Value} {W : World} (h : MdS w S mb m ns nv W) {n : T.No} {fv : Value} (hf : PlsIn w fv n.fr) (hn : PiN n) {cs : List Value} (hc : NtC (PlsIn w) ns cs) (hg : Gs 63 4 W nv ns.length cs)
    {v' : Value} {w' : World} (hg' : Gs 63 4 w' v' (ns.length + 1) (cs ++ noc n fv)) (ht : Turned (fun k => blkOf nv = some k) W w') (hv : ∀ k, blkOf v' = some k → blkOf nv = some k ∨ W.heap.size ≤ k) : MdS w S mb m (ns ++ [n]) v' w' := by
  obtain ⟨V, h1, h2, h3⟩ := h.h
  have hT : HsIs w' S mb m.1 m.2 V := h1.turned ht fun k hk => ⟨h3 k hk, fun cur hb => by
    obtain ⟨cur', h5⟩ := hg.in_ hk
    unfold Blk at hb h5
    rw [hb] at h5
    simp at h5⟩
  refine ⟨h.b.trans (ht.below h.b.size h.lo), ⟨V, hT, h2, fun k hk e => ?_⟩, ⟨cs ++ noc n fv, by rw [List.length_append]; exact hg', hc.snoc hf hn⟩, fun k hk => ?_⟩
  · rcases hv k hk with e2 | e2
    · exact h3 k e2 e
    · have := h1.lt e; omega
  · rcases hv k hk with e2 | e2
    · exact h.lo k e2
    · exact Nat.le_trans h.b.size e2
theorem T.stM_no {m : List T.No × Int} {a : T.Ad} (h : a.1 < m.2) : T.stM m a = m := by unfold T.stM; rw [if_pos h]
theorem T.stM_ok {m : List T.No × Int} {a : T.Ad} (h : ¬ a.1 < m.2) : T.stM m a = (m.1 ++ T.tsN a.1 a.2, if T.tsN a.1 a.2 = [] then m.2 else a.1) := by unfold T.stM; rw [if_neg h]
theorem md_succ {l : List T.Ad} {k : Nat} {a : T.Ad} (h : l[k]? = some a) : T.mdN (l.take (k + 1)) = T.stM (T.mdN (l.take k)) a := by
  unfold T.mdN
  rw [List.take_add_one, h, List.foldl_append]; rfl
theorem md_cap {l : List T.Ad} (h : T.NVast l) (hl : l.length ≤ 30) (k : Nat) : (T.mdN (l.take k)).1.length ≤ 300 ∧ T.sumF (T.mdN (l.take k)).1 ≤ 1800 := by
  have h1 := T.mdN_len (l := l.take k) fun a ha => h a (List.mem_of_mem_take ha)
  have h2 : (l.take k).length ≤ 30 := by rw [List.length_take]; omega
  omega
/-- What made tells. -/
def MdO (w : World) (l : List T.Ad) (e : Ending) (w' : World) : Prop :=
  ∃ S mb nv, e = .returned (.tuple #[.pointer (some ⟨S, 0, none⟩), nv, .bool true]) ∧ MdS w S mb (T.mdN l) (T.mdN l).1 nv w'
end Go.Proofs.YtiohlmccnllklaaGreatDoor.Q
namespace Go.Proofs.YtiohlmccnllklaaGreatDoor.Q
open Go.RowKit
set_option maxHeartbeats 8000000
set_option maxRecDepth 100000
set_option linter.unusedVariables false
set_option linter.unusedSimpArgs false

/-- The cells of an add. -/
structure Ad2 (w : World) (g o : Nat) (a : T.Ad) (tv : Value) (W : World) : Prop where
  b : Below w.heap.size w W
  c : W.cell? ⟨g, o, none⟩ = some (.int .i64 a.1)
  d : W.cell? ⟨g, o + 1, none⟩ = some tv
theorem Ad2.stb (w : World) (g o : Nat) (a : T.Ad) (tv : Value) : Free.Stb (Ad2 w g o a tv) := fun W W' h hb => ⟨belT h.b hb, cell_below h.c hb, cell_below h.d hb⟩
theorem Ad2.up {w : World} {g o : Nat} {a : T.Ad} {tv : Value} {W' : World} (h : Ad2 w g o a tv w) (hb : Below w.heap.size w W') : Ad2 w g o a tv W' := ⟨hb, cell_below h.c hb, cell_below h.d hb⟩
/-- .. and of a touch that was copied. -/
structure Ad3 (w : World) (g o : Nat) (a : T.Ad) (tv : Value) (B : Nat) (t : T.Tc) (fv : Value) (W : World) : Prop where
  a : Ad2 w g o a tv W
  t : Blk W B #[.int .i64 t.1.1, .int .i64 t.1.2, fv] 61
theorem Ad3.stb (w : World) (g o : Nat) (a : T.Ad) (tv : Value) (B : Nat) (t : T.Tc) (fv : Value) : Free.Stb (Ad3 w g o a tv B t fv) := fun W W' h hb => ⟨Ad2.stb _ _ _ _ _ _ _ h.a hb, h.t.below hb⟩
theorem zero_touch (w : World) : (zeroValue 61).run Tryz.prog w = .ok (.agg #[.int .i64 0, .int .i64 0, .slice none 0 0]) w := Tryz.zeroValue61 w
theorem made_any {w : World} {v : Value} {l : List T.Ad} (h : AdsIn w v l) (hv : T.NVast l) (hl : l.length ≤ 30) : Calls Tryz.prog 17 #[v] w fun e w' => MdO w l e w' := by
  have HA := Lib.hid h
  have HV := Lib.hid hv
  have hzt := zero_touch
  have hzp := zero_place
  obtain ⟨oa, ca, rfl, _, hla⟩ := h.shape
  unfold maxLen at hla
  have HB0 := Lib.hid (Below.refl w.heap.size w)
  clear h hv
  go_enter Tryz.func17, Tryz.ntmps17
  go_wp2_with fail
  refine (New_W HB0.out).mono ?_
  rintro e w1 ⟨S, mb, rfl, hw, _⟩
  have HI0 := Lib.hid (MdS.start hw)
  clear hw
  go_wp2_with fail
  go_loopw [6, 7, 8] (fun nv la i wr => ∃ (k : Nat) (u : Value), k ≤ l.length ∧ u = nv ∧ la = .int .i64 (T.mdN (l.take k)).2 ∧ i = .int .i64 (k : Int) ∧ Hid (MdS w S mb (T.mdN (l.take k)) (T.mdN (l.take k)).1 u wr)) (fun _ _ i _ => l.length + 1 - natI i)
  case atStart => exact ⟨0, _, by omega, rfl, by rw [List.take_zero]; rfl, rfl, by rw [List.take_zero]; exact HI0⟩
  case round =>
    obtain ⟨k, nv, hk, rfl, rfl, rfl, HM⟩ := hrel
    clear HI0
    by_cases hlt : k < l.length
    · have hi : (k : Int) < (l.length : Int) := by omega
      obtain ⟨g1, o1, c1, a, tv, e1, l1, ha64, ht, r1⟩ := HA.out.at_ hlt
      simp at e1
      obtain ⟨rfl, rfl⟩ := e1
      obtain ⟨q1, q2⟩ := rng2 r1
      have HC0 : Hid (Ad2 w g1 (o1 + k * 2) a tv w) := ⟨Below.refl _ _, q1, q2⟩
      have HS0 := Lib.hid (HC0.out.up HM.out.b)
      have HTs := Lib.hid ht
      have HSu := Lib.hid (md_succ l1)
      have hNV := HV.out a (List.mem_of_getElem? l1)
      have hcap := (md_cap HV.out hl k).1
      have hgood := T.mdN_good (l.take k)
      have HUp := Lib.hid hgood
      have hnn := hgood.nn
      have HAdd := Lib.hid (fun W (h : MdS w S mb (T.mdN (l.take k)) (T.mdN (l.take k)).1 nv W) => h.add HTs.out (by omega) (fun t ht => by have := hNV.2 t ht; omega) ha64)
      have HCap := Lib.hid hcap
      have HNv := Lib.hid hNV
      have H64 := Lib.hid ha64
      generalize hm : T.mdN (l.take k) = m at *
      have y1 := HS0.out.c
      have y2 := HS0.out.d
      have HSd : Hid (Ad2 w g1 (o1 + k * 2) a tv (World.drew _)) := Lib.hid (Ad2.stb _ _ _ _ _ _ _ HS0.out (Below.refl _ _).drew)
      have HMd := Lib.hid (HM.out.below (Below.refl _ _).drew)
      obtain ⟨ot, ct, rfl, _, hlt2⟩ := ht.shape
      unfold maxLen at hlt2
      clear ht r1 q1 q2 l1 hNV hcap hgood ha64 HM
      by_cases hs : a.1 < m.2
      · have HSt : Hid (T.mdN (l.take (k + 1)) = m) := by rw [HSu.out]; exact T.stM_no hs
        by_cases hneg : a.1 < 0
        · go_wp2_with fail
          refine Free.any (Ad2 w g1 (o1 + k * 2) a (.slice ot a.2.length ct)) (Ad2.stb _ _ _ _ _) HSd.out (fun st => ?_)
          refine Free.tk 0 (some 34) ?_ (hy := by intro W hW; go_simp; try with_reducible rfl)
          refine Free.tk 1 (some 35) ?_ (hy := by intro W hW; go_simp; try with_reducible rfl)
          refine Free.tk 2 (some 36) ?_ (hy := by intro W hW; go_simp; try with_reducible rfl)
          refine Free.tk 3 (some 37) (v := .pointer (some ⟨g1, o1 + k * 2, none⟩)) ?_ (hy := by intro W hW; go_simp; try with_reducible rfl)
          refine Free.tk 4 (some 38) (v := .pointer (some ⟨g1, o1 + k * 2, none⟩)) ?_ (hy := by intro W hW; go_simp; try with_reducible rfl)
          refine Free.tk 5 (some 39) (v := .int .i64 a.1) ?_ (hy := by intro W hW; have y1 := hW.c; go_simp; try with_reducible rfl)
          refine Free.tk 6 (some 40) ?_ (hy := by intro W hW; go_simp; try with_reducible rfl)
          refine Free.tk 7 (some 41) ?_ (hy := by intro W hW; go_simp; try with_reducible rfl)
          refine Free.tk 8 (some 42) (v := .pointer (some ⟨g1, o1 + k * 2, none⟩)) ?_ (hy := by intro W hW; go_simp; try with_reducible rfl)
          refine Free.tk 9 (some 43) (v := .pointer (some ⟨g1, o1 + k * 2 + 1, none⟩)) ?_ (hy := by intro W hW; go_simp; try with_reducible rfl)
          refine Free.tk 10 (some 44) (v := .slice ot a.2.length ct) ?_ (hy := by intro W hW; have y2 := hW.d; go_simp; try with_reducible rfl)
          refine Free.tk 12 (some 46) (v := .int .i64 2) ?_ (hy := by intro W hW; go_simp; try with_reducible rfl)
          refine Free.one 11 (fun W1 hb1 hW1 => ?_)
          refine o_callb (some 45) (by go_simp; first | exact ⟨rfl, rfl⟩ | rfl) ?_
          refine (HAdd.out _ (HMd.out.below hb1)).mono ?_
          rintro e W2 ⟨rfl, hm2⟩
          rw [if_pos hs]
          refine ⟨_, rfl, HC0.out.up hm2.b, ?_⟩
          refine Free.tk 13 (some 47) (v := .bool false) ?_ (hy := by intro W hW; go_simp; try with_reducible rfl)
          refine Free.done (fun W3 hb3 hW3 => ?_)
          have HM3 := Lib.hid (hm2.below hb3)
          clear hb1 hW1 hm2 hb3 hW3 y1 y2 HAdd HMd HSd
          rw [T.stM_no hs] at HM3
          go_wp2
          refine ⟨⟨k + 1, nv, by omega, rfl, by rw [HSt.out], by go_num, ?_⟩, by simp [natI]; omega⟩
          rw [HSt.out]
          exact HM3
        · go_wp2_with fail
          refine Free.any (Ad2 w g1 (o1 + k * 2) a (.slice ot a.2.length ct)) (Ad2.stb _ _ _ _ _) HSd.out (fun st => ?_)
          refine Free.tk 0 (some 34) ?_ (hy := by intro W hW; go_simp; try with_reducible rfl)
          refine Free.tk 1 (some 35) ?_ (hy := by intro W hW; go_simp; try with_reducible rfl)
          refine Free.tk 2 (some 36) ?_ (hy := by intro W hW; go_simp; try with_reducible rfl)
          refine Free.tk 3 (some 37) (v := .pointer (some ⟨g1, o1 + k * 2, none⟩)) ?_ (hy := by intro W hW; go_simp; try with_reducible rfl)
          refine Free.tk 4 (some 38) (v := .pointer (some ⟨g1, o1 + k * 2, none⟩)) ?_ (hy := by intro W hW; go_simp; try with_reducible rfl)
          refine Free.tk 5 (some 39) (v := .int .i64 a.1) ?_ (hy := by intro W hW; have y1 := hW.c; go_simp; try with_reducible rfl)
          refine Free.tk 6 (some 40) ?_ (hy := by intro W hW; go_simp; try with_reducible rfl)
          refine Free.tk 7 (some 41) ?_ (hy := by intro W hW; go_simp; try with_reducible rfl)
          refine Free.tk 8 (some 42) (v := .pointer (some ⟨g1, o1 + k * 2, none⟩)) ?_ (hy := by intro W hW; go_simp; try with_reducible rfl)
          refine Free.tk 9 (some 43) (v := .pointer (some ⟨g1, o1 + k * 2 + 1, none⟩)) ?_ (hy := by intro W hW; go_simp; try with_reducible rfl)
          refine Free.tk 10 (some 44) (v := .slice ot a.2.length ct) ?_ (hy := by intro W hW; have y2 := hW.d; go_simp; try with_reducible rfl)
          refine Free.tk 12 (some 46) (v := .int .i64 2) ?_ (hy := by intro W hW; go_simp; try with_reducible rfl)
          refine Free.one 11 (fun W1 hb1 hW1 => ?_)
          refine o_callb (some 45) (by go_simp; first | exact ⟨rfl, rfl⟩ | rfl) ?_
          refine (HAdd.out _ (HMd.out.below hb1)).mono ?_
          rintro e W2 ⟨rfl, hm2⟩
          rw [if_pos hs]
          refine ⟨_, rfl, HC0.out.up hm2.b, ?_⟩
          refine Free.tk 13 (some 47) (v := .bool false) ?_ (hy := by intro W hW; go_simp; try with_reducible rfl)
          refine Free.done (fun W3 hb3 hW3 => ?_)
          have HM3 := Lib.hid (hm2.below hb3)
          clear hb1 hW1 hm2 hb3 hW3 y1 y2 HAdd HMd HSd
          rw [T.stM_no hs] at HM3
          go_wp2
          refine ⟨⟨k + 1, nv, by omega, rfl, by rw [HSt.out], by go_num, ?_⟩, by simp [natI]; omega⟩
          rw [HSt.out]
          exact HM3
      · have hneg : ¬ a.1 < 0 := by omega
        go_wp2_with fail
        refine Free.any (Ad2 w g1 (o1 + k * 2) a (.slice ot a.2.length ct)) (Ad2.stb _ _ _ _ _) HSd.out (fun st => ?_)
        refine Free.tk 0 (some 34) ?_ (hy := by intro W hW; go_simp; try with_reducible rfl)
        refine Free.tk 1 (some 35) ?_ (hy := by intro W hW; go_simp; try with_reducible rfl)
        refine Free.tk 2 (some 36) ?_ (hy := by intro W hW; go_simp; try with_reducible rfl)
        refine Free.tk 3 (some 37) (v := .pointer (some ⟨g1, o1 + k * 2, none⟩)) ?_ (hy := by intro W hW; go_simp; try with_reducible rfl)
        refine Free.tk 4 (some 38) (v := .pointer (some ⟨g1, o1 + k * 2, none⟩)) ?_ (hy := by intro W hW; go_simp; try with_reducible rfl)
        refine Free.tk 5 (some 39) (v := .int .i64 a.1) ?_ (hy := by intro W hW; have y1 := hW.c; go_simp; try with_reducible rfl)
        refine Free.tk 6 (some 40) ?_ (hy := by intro W hW; go_simp; try with_reducible rfl)
        refine Free.tk 7 (some 41) ?_ (hy := by intro W hW; go_simp; try with_reducible rfl)
        refine Free.tk 8 (some 42) (v := .pointer (some ⟨g1, o1 + k * 2, none⟩)) ?_ (hy := by intro W hW; go_simp; try with_reducible rfl)
        refine Free.tk 9 (some 43) (v := .pointer (some ⟨g1, o1 + k * 2 + 1, none⟩)) ?_ (hy := by intro W hW; go_simp; try with_reducible rfl)
        refine Free.tk 10 (some 44) (v := .slice ot a.2.length ct) ?_ (hy := by intro W hW; have y2 := hW.d; go_simp; try with_reducible rfl)
        refine Free.tk 12 (some 46) (v := .int .i64 0) ?_ (hy := by intro W hW; go_simp; try with_reducible rfl)
        refine Free.one 11 (fun W1 hb1 hW1 => ?_)
        refine o_callb (some 45) (by go_simp; first | exact ⟨rfl, rfl⟩ | rfl) ?_
        refine (HAdd.out _ (HMd.out.below hb1)).mono ?_
        rintro e W2 ⟨rfl, hm2⟩
        rw [if_neg (show ¬ a.1 < m.2 by omega)]
        refine ⟨_, rfl, HC0.out.up hm2.b, ?_⟩
        refine Free.tk 13 (some 47) (v := .bool false) ?_ (hy := by intro W hW; go_simp; try with_reducible rfl)
        refine Free.done (fun W3 hb3 hW3 => ?_)
        have HM3 := Lib.hid (hm2.below hb3)
        clear hb1 hW1 hm2 hb3 hW3 y1 y2 HAdd HMd HSd
        rw [T.stM_ok (show ¬ a.1 < m.2 by omega)] at HM3
        have HSt : Hid (T.mdN (l.take (k + 1)) = (m.1 ++ T.tsN a.1 a.2, if T.tsN a.1 a.2 = [] then m.2 else a.1)) := by rw [HSu.out]; exact T.stM_ok (show ¬ a.1 < m.2 by omega)
        have HMi : Hid (MdS w S mb (m.1 ++ T.tsN a.1 a.2, if T.tsN a.1 a.2 = [] then m.2 else a.1) (m.1 ++ T.tsN a.1 (a.2.take 0)) nv W3) := by
          rw [List.take_zero]
          have e : T.tsN a.1 ([] : List T.Tc) = [] := rfl
          rw [e, List.append_nil]
          exact HM3
        clear HM3
        obtain ⟨M, hM⟩ : ∃ M : List T.No × Int, M = (m.1 ++ T.tsN a.1 a.2, if T.tsN a.1 a.2 = [] then m.2 else a.1) := ⟨_, rfl⟩
        rw [← hM] at HMi HSt
        have HEM := Lib.hid hM
        clear hM
        go_wp2_with fail
        go_loopw [6, 7, 10, 11] (fun nv' la j b wr => ∃ (i : Nat) (u : Value), i ≤ a.2.length ∧ u = nv' ∧ la = .int .i64 (if T.tsN a.1 (a.2.take i) = [] then m.2 else a.1) ∧ j = .int .i64 (i : Int) ∧ Hid (MdS w S mb M (m.1 ++ T.tsN a.1 (a.2.take i)) u wr)) (fun _ _ j _ _ => a.2.length + 1 - natI j)
        case atStart => exact ⟨0, _, by omega, rfl, by rw [List.take_zero]; rfl, rfl, HMi⟩
        case round =>
          obtain ⟨i, u, hi2, rfl, rfl, rfl, HM⟩ := hrel
          clear HMi
          obtain ⟨la9, HLa9⟩ : ∃ x, Hid (x = if T.tsN a.1 (a.2.take i) = [] then m.2 else a.1) := ⟨_, Lib.hid rfl⟩
          rw [← HLa9.out]
          have HS1 := HC0.out.up HM.out.b
          have y1 := HS1.c
          have y2 := HS1.d
          by_cases hlj : i < a.2.length
          · have hji : (i : Int) < (a.2.length : Int) := by omega
            obtain ⟨g2, o2, c2, t, fv, e2, l2, hpi, hpf, r2⟩ := HTs.out.at_ hlj
            simp at e2
            obtain ⟨rfl, rfl⟩ := e2
            obtain ⟨of, cf, rfl, _, hlf⟩ := hpf.shape
            unfold maxLen at hlf
            obtain ⟨z1, z2, z3⟩ := rng3 r2
            replace z1 := cell_below z1 HM.out.b
            replace z2 := cell_below z2 HM.out.b
            replace z3 := cell_below z3 HM.out.b
            have HSn := Lib.hid (T.tsN_snoc (s := a.1) l2)
            have hb1 := bel1 wr (.cells #[.int .i64 t.1.1, .int .i64 t.1.2, .slice of t.2.length cf] 61)
            have HM1 := Lib.hid (HM.out.below hb1)
            have HT1 : Hid (Blk _ wr.heap.size #[.int .i64 t.1.1, .int .i64 t.1.2, .slice of t.2.length cf] 61) := Lib.hid (blk_new wr _ 61)
            have HPf := Lib.hid hpf
            have HPn : Hid (PiN ⟨a.1, t.1, t.2⟩) := Lib.hid ⟨H64.out, hpi⟩
            have HLn : Hid ((T.tsN a.1 (a.2.take i)).length ≤ 10) := Lib.hid (by have h1 := T.tsN_len a.1 (a.2.take i); have h2 := HNv.out.1; rw [List.length_take] at h1; omega)
            by_cases hz : t.1 = T.none0
            · have he := fun w => neq_place t.1 (0, 0) w
              have hz' : t.1 = (0, 0) := hz
              simp only [decide_eq_true hz', Bool.not_true] at he
              have HN : Hid (T.tsN a.1 (a.2.take (i + 1)) = T.tsN a.1 (a.2.take i)) := by rw [HSn.out, if_pos hz, List.append_nil]; exact Lib.hid rfl
              clear hz hz' hb1 HS1 hpf l2 r2 hpi
              go_wp2
              refine ⟨⟨i + 1, u, by omega, rfl, by rw [HN.out, HLa9.out], by go_num, ?_⟩, by simp [natI]; omega⟩
              rw [HN.out]
              exact HM1
            · have he := fun w => neq_place t.1 (0, 0) w
              have hz' : ¬ t.1 = (0, 0) := hz
              simp only [decide_eq_false hz', Bool.not_false] at he
              have HN : Hid (T.tsN a.1 (a.2.take (i + 1)) = T.tsN a.1 (a.2.take i) ++ [⟨a.1, t.1, t.2⟩]) := by rw [HSn.out, if_neg hz]; exact Lib.hid rfl
              have HS3 : Hid (Ad3 w g1 (o1 + k * 2) a (.slice (some ⟨g2, o2, none⟩) a.2.length ct) wr.heap.size t (.slice of t.2.length cf) (World.drew _)) := Lib.hid (Ad3.stb _ _ _ _ _ _ _ _ _ _ ⟨HC0.out.up HM1.out.b, HT1.out⟩ (Below.refl _ _).drew)
              have HM2 := Lib.hid (HM1.out.below (Below.refl _ _).drew)
              clear hz hz' hb1 HS1 hpf l2 r2 hpi HM1 HM
              go_wp2_with fail
              refine Free.any (Ad3 w g1 (o1 + k * 2) a (.slice (some ⟨g2, o2, none⟩) a.2.length ct) wr.heap.size t (.slice of t.2.length cf)) (Ad3.stb _ _ _ _ _ _ t _) HS3.out (fun st => ?_)
              refine Free.tk 0 (some 74) ?_ (hy := by intro W hW; go_simp; try with_reducible rfl)
              refine Free.tk 1 (some 75) ?_ (hy := by intro W hW; go_simp; try with_reducible rfl)
              refine Free.tk 2 (some 76) ?_ (hy := by intro W hW; go_simp; try with_reducible rfl)
              refine Free.tk 3 (some 77) (v := .pointer (some ⟨g1, o1 + k * 2, none⟩)) ?_ (hy := by intro W hW; go_simp; try with_reducible rfl)
              refine Free.tk 4 (some 78) (v := .pointer (some ⟨g1, o1 + k * 2, none⟩)) ?_ (hy := by intro W hW; go_simp; try with_reducible rfl)
              refine Free.tk 5 (some 79) (v := .int .i64 a.1) ?_ (hy := by intro W hW; have y1 := hW.a.c; go_simp; try with_reducible rfl)
              refine Free.tk 6 (some 80) (v := .pointer (some ⟨wr.heap.size, 0, none⟩)) ?_ (hy := by intro W hW; go_simp; try with_reducible rfl)
              refine Free.tk 7 (some 81) (v := .agg #[.int .i64 t.1.1, .int .i64 t.1.2]) ?_ (hy := by intro W hW; have x1 := hW.t.cell 0; have x2 := hW.t.cell 1; simp only [List.getElem?_toArray, List.getElem?_cons_zero, List.getElem?_cons_succ] at x1 x2; go_simp; try with_reducible rfl)
              refine Free.tk 8 (some 82) (v := .pointer (some ⟨wr.heap.size, 2, none⟩)) ?_ (hy := by intro W hW; go_simp; try with_reducible rfl)
              refine Free.tk 9 (some 83) (v := .slice of t.2.length cf) ?_ (hy := by intro W hW; have x1 := hW.t.cell 2; simp only [List.getElem?_toArray, List.getElem?_cons_zero, List.getElem?_cons_succ] at x1; go_simp; try with_reducible rfl)
              refine Free.tk 10 (some 84) (v := .agg #[.int .i64 a.1, .int .i64 t.1.1, .int .i64 t.1.2, .slice of t.2.length cf]) ?_ (hy := by intro W hW; go_simp; try with_reducible rfl)
              refine Free.one 11 (fun W4 hb4 hW4 => ?_)
              refine o_okb (some 85) (.slice (some ⟨W4.heap.size, 0, none⟩) 1 1) (W4.alloc (.cells (noc ⟨a.1, t.1, t.2⟩ (.slice of t.2.length cf)).toArray 63)) (by unfold noc; go_simp; try rfl) ⟨st _ _ hW4 (bel1 W4 _), ?_⟩
              refine Free.one 12 (fun W5 hb5 hW5 => ?_)
              have hM5 := (HM2.out.below hb4).below (belT (bel1 W4 (.cells (noc ⟨a.1, t.1, t.2⟩ (.slice of t.2.length cf)).toArray 63)) hb5)
              have hsr := ((Gs.lit (sz := 4) (n := 1) (cs := (noc ⟨a.1, t.1, t.2⟩ (.slice of t.2.length cf)).toArray) W4 63 rfl (by decide)).below hb5).src (P := Tryz.prog) Tryz.underlying66 (noc_one ⟨a.1, t.1, t.2⟩ rfl)
              obtain ⟨cs, hgs, hnt⟩ := hM5.n
              have hcap : (m.1 ++ T.tsN a.1 (a.2.take i)).length + 1 ≤ 1000000 := by rw [List.length_append]; have := HLn.out; have := HCap.out; omega
              refine o_append_g (d := some 86) _ _ rfl rfl Tryz.underlying66 infoNt rfl (by omega) (by omega) rfl rfl hgs hsr hcap ?_
              intro v6 w6 hg6 ht6 hn6
              have hM6 := hM5.app HPf.out HPn.out hnt hgs hg6 ht6 hn6
              have hT6 : Blk w6 wr.heap.size #[.int .i64 t.1.1, .int .i64 t.1.2, .slice of t.2.length cf] 61 := hW5.t.turned ht6 (fun e => hgs.ne hW5.t (by decide) e rfl)
              refine ⟨⟨HC0.out.up hM6.b, hT6⟩, ?_⟩
              refine Free.tk 13 (some 6) (v := v6) ?_
              refine Free.done (fun W7 hb7 hW7 => ?_)
              have HM7 := Lib.hid (hM6.below hb7)
              have y3 := hW7.a.c
              rw [List.append_assoc, ← HN.out] at HM7
              have hne : ¬ T.tsN a.1 (a.2.take (i + 1)) = [] := by rw [HN.out]; simp
              have HNe := Lib.hid hne
              clear hb4 hW4 hb5 hW5 hM5 hsr hgs hnt hcap hg6 ht6 hn6 hM6 hT6 hb7 hW7 hne y1 y2
              go_wp2
              exact ⟨⟨i + 1, _, by omega, rfl, by rw [if_neg HNe.out], by go_num, HM7⟩, by simp [natI]; omega⟩
          · obtain rfl : i = a.2.length := by omega
            have HM9 := HM.out
            rw [List.take_length] at HM9
            have HFin : Hid (MdS w S mb (T.mdN (l.take (k + 1))) (T.mdN (l.take (k + 1))).1 u wr) := by
              rw [HSt.out]
              have e : M.1 = m.1 ++ T.tsN a.1 a.2 := by rw [HEM.out]
              rw [e]
              exact HM9
            have HLa : Hid ((T.mdN (l.take (k + 1))).2 = if T.tsN a.1 a.2 = [] then m.2 else a.1) := by rw [HSt.out, HEM.out]; exact Lib.hid rfl
            clear HM9 HS1
            go_wp2
            exact ⟨⟨k + 1, u, by omega, rfl, by rw [HLa.out, HLa9.out, List.take_length], by go_num, HFin⟩, by simp [natI]; omega⟩
    · obtain rfl : k = l.length := by omega
      rw [List.take_length] at HM
      obtain ⟨V, hv1, _, _⟩ := HM.out.h
      obtain ⟨cs, hgs, _⟩ := HM.out.n
      obtain ⟨on, cn, rfl, _, _⟩ := hgs.shape
      have HLe := Lib.hid (len_any hv1.blk)
      have HF : Hid (MdO w l (.returned (.tuple #[.pointer (some ⟨S, 0, none⟩), .slice on (T.mdN l).1.length cn, .bool true])) wr) := ⟨S, mb, _, rfl, HM.out⟩
      clear hv1 hgs
      go_wp2_with fail
      refine HLe.out.mono ?_
      rintro e w9 ⟨rfl, rfl⟩
      go_wp2
      go_ret3
      exact HF.out
end Go.Proofs.YtiohlmccnllklaaGreatDoor.Q

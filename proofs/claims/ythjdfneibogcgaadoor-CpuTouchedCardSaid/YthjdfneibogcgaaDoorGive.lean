/-
  Layer 10: give, decide of package cpu; places: walks. Written by gen_give.py.
-/
import Derived.Test.YthjdfneibogcgaaDoorTouch
import Derived.Test.YthjdfneibogcgaaDoorStep5
namespace Go.Proofs.YthjdfneibogcgaaDoor
open Go.RowKit
set_option maxHeartbeats 8000000
set_option linter.unusedVariables false
set_option linter.unusedSimpArgs false

theorem infoT : (Tryd.prog.info? 70).map (fun i => (i.zero, i.size, i.bytes)) = some (some (.agg #[.int .i64 0, .int .i64 0, .slice none 0 0]), 3, 40) := by kernel_rfl
theorem infoPl : (Tryd.prog.info? 49).map (fun i => (i.zero, i.size, i.bytes)) = some (some (.agg #[.int .i64 0, .int .i64 0]), 2, 16) := by kernel_rfl
/-- The cells of a place. -/
def pla (p : Plc) : Array Value := #[.int .i64 p.kind, .int .i64 p.n]
theorem pla_ok (p : Plc) : Ok1 2 (pla p) := ⟨rfl, by simp [pla, Value.oneCell']⟩
/-- A row of one touch. -/
theorem t_src (w : World) (k n : Int) (v : Value) (hv : v.oneCell' = true) : Src Tryd.prog 3 44 (.slice (some ⟨w.heap.size, 0, none⟩) 1 1) 1 [.int .i64 k, .int .i64 n, v] (w.alloc (.cells #[.int .i64 k, .int .i64 n, v] 70)) := by
  refine Src.ofSlice _ Tryd.underlying44 _ 1 1 _ rfl (fun j u hj => ?_) (fun u hu => ?_)
  · rw [add_lit, (blk_new w _ _).cell, Nat.zero_add]
    simpa using hj
  · simp at hu
    rcases hu with rfl | rfl | rfl
    · rfl
    · rfl
    · exact hv
theorem o_store_ts {d : Option Tmp} {op : Oper} {a : Act} {w : World} {K : Act → World → Prop} {Q : Exit → Act → World → Prop} {x y : Operand} {b j : Nat} {u : Value} {ao : Option Addr} {n c : Nat} (hd : op.dst = d) (hc : w.cell? ⟨b, j, none⟩ = some u) (hf : w.frozen? ⟨b, j, none⟩ = false) (ho : op.op = .store 44 x y) (hx : a.eval x = .pointer (some ⟨b, j, none⟩)) (hy : a.eval y = .slice ao n c)
    (h : K (a.put d undef) (w.setCell ⟨b, j, none⟩ (.slice ao n c))) : op.wp Tryd.prog a w K Q := by
  subst hd
  unfold Oper.wp execOp
  simp only [ho, hx, hy]
  go_simp
  exact h
theorem o_load_ts {d : Option Tmp} {op : Oper} {a : Act} {w : World} {K : Act → World → Prop} {Q : Exit → Act → World → Prop} {x : Operand} {b j : Nat} {ao : Option Addr} {n c : Nat} (hd : op.dst = d) (hc : w.cell? ⟨b, j, none⟩ = some (.slice ao n c)) (ho : op.op = .load 44 x) (hx : a.eval x = .pointer (some ⟨b, j, none⟩))
    (h : K (a.put d (.slice ao n c)) w) : op.wp Tryd.prog a w K Q := by
  subst hd
  unfold Oper.wp execOp
  simp only [ho, hx]
  go_simp
  exact h
/-- A touch was appended: what holds then, and behind the store. -/
theorem give_step {N T : Nat} {w W W2 : World} {l : List Tch} {v v2 fv : Value} {cs : List Value} {t : Tch} (hb : Below w.heap.size w W) (hN : N ≤ w.heap.size) (hT : Blk W T #[v] 64) (hNT : N ≤ T) (hc : TcC W l cs) (hp : PlIs W fv t.fr) (hv : ∀ k, blkOf v = some k → N ≤ k) (hgv : Gs 70 3 W v l.length cs)
    (hg : Gs 70 3 W2 v2 (l.length + 1) (cs ++ [.int .i64 t.to.kind, .int .i64 t.to.n, fv])) (ht : Turned (fun k => blkOf v = some k) W W2) (hn : ∀ k, blkOf v2 = some k → blkOf v = some k ∨ W.heap.size ≤ k) :
    W2.cell? ⟨T, 0, none⟩ = some v ∧ W2.frozen? ⟨T, 0, none⟩ = false ∧ At N (W2.setCell ⟨T, 0, none⟩ v2) T (l ++ [t]) ∧ Kp N w (W2.setCell ⟨T, 0, none⟩ v2) := by
  have hvT : ∀ k, blkOf v = some k → k ≠ T := fun k hk => hgv.ne hT (by decide) hk
  have hT2 : Blk W2 T #[v] 64 := hT.turned ht (fun e => hvT T e rfl)
  have k1 : Kp N W W2 := Kp.turned ht (by have := hb.size; omega) (fun k hk => ⟨hv k hk, by obtain ⟨cur, hcur⟩ := hgv.in_ hk; exact ⟨cur, _, hcur, .inr rfl⟩⟩)
  have k2 : Kp N W2 (W2.setCell ⟨T, 0, none⟩ v2) := Kp.turned (F := fun k => k = T) ((Turned.refl (fun k => k = T) W2).setCell (p := ⟨T, 0, none⟩) (.inl rfl) v2) (by have := hb.size; have := ht.size; omega) (fun k hk => by subst hk; exact ⟨hNT, _, _, hT2, .inl rfl⟩)
  have hv2 : ∀ k, blkOf v2 = some k → k ≠ T := fun k hk => hg.ne hT2 (by decide) hk
  have kW : Kp N w W := (Kp.of_below hb hN)
  refine ⟨by rw [hT2.cell]; rfl, hT2.frozen 0, ⟨⟨v2, hT2.setCell 0 v2, ?_, fun k hk => ?_⟩, hNT⟩, (kW.trans k1).trans k2⟩
  · have h2 : TsIs W2 v2 (l ++ [t]) := TsIs.more (cs' := []) hc hg hp k1
    obtain ⟨cs2, g2, c2⟩ := h2
    exact ⟨cs2, g2.keep (fun k hk => Below.heap_setCell _ _ _ _ (hv2 k hk)), TcC.kp k2 _ _ c2⟩
  · rcases hn k hk with e | e
    · exact hv k e
    · have := hb.size; omega
set_option maxRecDepth 20000 in
theorem give_any {N : Nat} {w : World} {T : Nat} {l : List Tch} (h : At N w T l) (hl : l.length ≤ 8) (p : Plc) (fv : Value) (fr : List Plc) (hp : PlIs w fv fr) :
    Calls Tryd.prog 56 #[.pointer (some ⟨T, 0, none⟩), .agg (pla p), fv] w fun e w' => e = .returned (.tuple #[]) ∧ At N w' T (l ++ [⟨p, fr⟩]) ∧ Kp N w w' := by
  have hNw := h.lt
  obtain ⟨⟨v, h1, ⟨cs, hg, hc⟩, h3⟩, hNT⟩ := h
  obtain ⟨ao, c, rfl, hcap, _⟩ := hg.shape
  obtain ⟨fo, fc, rfl, hfc, hfm⟩ := hp.shape
  obtain ⟨pk, pn⟩ := p
  have H1 := Lib.hid h1
  have HG := Lib.hid hg
  have HC := Lib.hid hc
  have H3 := Lib.hid h3
  have HP := Lib.hid hp
  have RB := Lib.hid ((pla_ok ⟨pk, pn⟩).new 49 w)
  have HBz := Lib.hid (bel1 w (.cells (pla ⟨pk, pn⟩) 49))
  have hlt := h1.lt
  unfold maxLen at hfm
  clear h1 hg hc h3 hp hcap hfc
  go_enter Tryd.func56, Tryd.ntmps56
  go_wp2
  have hK0 : Rf 49 2 (w.alloc (.cells (pla ⟨pk, pn⟩) 49)).drew w.heap.size (pla ⟨pk, pn⟩) := RB.out.drew
  refine wp_region_held_drew (S := fun W => Rf 49 2 W w.heap.size (pla ⟨pk, pn⟩)) (by kernel_rfl) hK0 (fun _ => ?_)
  have hS := hK0
  refine take_d (i := 0) (d := some 6) (v := ?_) rfl rfl (by kernel_rfl) (by kernel_rfl) (by kernel_rfl) (fun _ _ _ h => h) (.inl ⟨by rfl, ?_⟩) hS ?_
  rotate_left
  · intro W hW
    go_simp
    try with_reducible rfl
  try simp only [Act.put, List.setIfInBounds_toArray, List.set_cons_zero, List.set_cons_succ]
  refine take_d (i := 1) (d := some 7) (v := ?_) rfl rfl (by kernel_rfl) (by kernel_rfl) (by kernel_rfl) (fun _ _ _ h => h) (.inl ⟨by rfl, ?_⟩) hS ?_
  rotate_left
  · intro W hW
    go_simp
    try with_reducible rfl
  try simp only [Act.put, List.setIfInBounds_toArray, List.set_cons_zero, List.set_cons_succ]
  refine take_d (i := 2) (d := some 8) (v := ?_) rfl rfl (by kernel_rfl) (by kernel_rfl) (by kernel_rfl) (fun _ _ _ h => h) (.inl ⟨by rfl, ?_⟩) hS ?_
  rotate_left
  · intro W hW
    go_simp
    try with_reducible rfl
  try simp only [Act.put, List.setIfInBounds_toArray, List.set_cons_zero, List.set_cons_succ]
  refine take_d (i := 3) (d := some 9) (v := ?_) rfl rfl (by kernel_rfl) (by kernel_rfl) (by kernel_rfl) (fun _ _ _ h => h) (.inl ⟨by rfl, ?_⟩) hS ?_
  rotate_left
  · intro W hW
    go_simp
    try with_reducible rfl
  try simp only [Act.put, List.setIfInBounds_toArray, List.set_cons_zero, List.set_cons_succ]
  refine take_d (i := 5) (d := some 11) (v := .agg #[.int .i64 pk, .int .i64 pn]) rfl rfl (by kernel_rfl) (by kernel_rfl) (by kernel_rfl) (fun _ _ _ h => h) (y_R rowP (by kernel_rfl) rfl rfl (fun W hW => hW)) hS ?_
  try simp only [Act.put, List.setIfInBounds_toArray, List.set_cons_zero, List.set_cons_succ]
  refine take_d (i := 6) (d := some 12) (v := ?_) rfl rfl (by kernel_rfl) (by kernel_rfl) (by kernel_rfl) (fun _ _ _ h => h) (.inl ⟨by rfl, ?_⟩) hS ?_
  rotate_left
  · intro W hW
    go_simp
    try with_reducible rfl
  try simp only [Act.put, List.setIfInBounds_toArray, List.set_cons_zero, List.set_cons_succ]
  refine take_d (i := 7) (d := some 13) (v := .agg #[.int .i64 pk, .int .i64 pn, .slice fo fr.length fc]) rfl rfl (by kernel_rfl) (by kernel_rfl) (by kernel_rfl) (fun _ _ _ h => h) (.inl ⟨by rfl, fun W hW => by go_simp⟩) hS ?_
  try simp only [Act.put, List.setIfInBounds_toArray, List.set_cons_zero, List.set_cons_succ]
  refine wpAnyH_all (rs := [4,8]) (by kernel_rfl) (by simp) (fun i hi => ?_)
  simp only [List.mem_cons, List.not_mem_nil, or_false] at hi
  rcases hi with rfl | rfl
  · refine .inl ?_
    have q : (w.alloc (.cells (pla ⟨pk, pn⟩) 49)).drew.cell? ⟨T, 0, none⟩ = some (.slice ao l.length c) := ((H1.out.below (HBz.out.drew)).cell 0).trans rfl
    refine o_load_ts (d := some 10) rfl q rfl rfl ⟨hS, ?_⟩
    try simp only [Act.put, List.setIfInBounds_toArray, List.set_cons_zero, List.set_cons_succ]
    clear q
    refine wpAnyH_all (rs := [8]) (by kernel_rfl) (by simp) (fun i hi => ?_)
    simp only [List.mem_cons, List.not_mem_nil, or_false] at hi
    subst hi
    refine .inl ?_
    refine o_ok (d := some 14) rfl (.slice (some ⟨(w.alloc (.cells (pla ⟨pk, pn⟩) 49)).drew.heap.size, 0, none⟩) 1 1) ((w.alloc (.cells (pla ⟨pk, pn⟩) 49)).drew.alloc (.cells #[.int .i64 pk, .int .i64 pn, .slice fo fr.length fc] 70)) (by go_simp) ⟨hS.alloc _, ?_⟩
    try simp only [Act.put, List.setIfInBounds_toArray, List.set_cons_zero, List.set_cons_succ]
    replace hS := hS.alloc (.cells #[.int .i64 pk, .int .i64 pn, .slice fo fr.length fc] 70)
    have hbB : Below w.heap.size w ((w.alloc (.cells (pla ⟨pk, pn⟩) 49)).drew.alloc (.cells #[.int .i64 pk, .int .i64 pn, .slice fo fr.length fc] 70)) := HBz.out.drew.alloc HBz.out.size _
    refine wpAnyH_all (rs := [9]) (by kernel_rfl) (by simp) (fun i hi => ?_)
    simp only [List.mem_cons, List.not_mem_nil, or_false] at hi
    subst hi
    refine .inl ?_
    refine o_append_g (d := some 15) _ _ rfl rfl Tryd.underlying44 infoT rfl (by omega) (by omega) rfl rfl (HG.out.below hbB) (t_src (w.alloc (.cells (pla ⟨pk, pn⟩) 49)).drew pk pn (.slice fo fr.length fc) rfl) (by omega) ?_
    intro v2 w2 hg ht hn
    obtain ⟨hcell, hfz, hA, hK⟩ := give_step (t := ⟨⟨pk, pn⟩, fr⟩) hbB (by omega) (H1.out.below hbB) hNT (TcC.kp (Kp.of_below (N := N) hbB (by omega)) _ _ HC.out) (HP.out.below hbB) H3.out (HG.out.below hbB) hg ht hn
    have hS : Rf 49 2 w2 w.heap.size (pla ⟨pk, pn⟩) := hS.turned ht (fun e => by have := HG.out.lt e; omega)
    have HA := Lib.hid hA
    have HK := Lib.hid hK
    obtain ⟨ao2, c2, rfl, _⟩ := hg.shape
    clear hg ht hn hA hK hbB
    refine ⟨hS, ?_⟩
    try simp only [Act.put, List.setIfInBounds_toArray, List.set_cons_zero, List.set_cons_succ]
    refine take_d (i := 10) (d := some 16) (v := ?_) rfl rfl (by kernel_rfl) (by kernel_rfl) (by kernel_rfl) (fun _ _ _ h => h) (.inl ⟨by rfl, ?_⟩) hS ?_
    rotate_left
    · intro W hW
      go_simp
      try with_reducible rfl
    try simp only [Act.put, List.setIfInBounds_toArray, List.set_cons_zero, List.set_cons_succ]
    refine take_d (i := 11) (d := some 17) (v := ?_) rfl rfl (by kernel_rfl) (by kernel_rfl) (by kernel_rfl) (fun _ _ _ h => h) (.inl ⟨by rfl, ?_⟩) hS ?_
    rotate_left
    · intro W hW
      go_simp
      try with_reducible rfl
    try simp only [Act.put, List.setIfInBounds_toArray, List.set_cons_zero, List.set_cons_succ]
    refine wpAnyH_all (rs := [12]) (by kernel_rfl) (by simp) (fun i hi => ?_)
    simp only [List.mem_cons, List.not_mem_nil, or_false] at hi
    subst hi
    refine .inl ?_
    refine o_store_ts (d := none) rfl hcell hfz rfl rfl rfl ⟨hS.setCellOther _ _ (by omega), ?_⟩
    try simp only [Act.put, List.setIfInBounds_toArray, List.set_cons_zero, List.set_cons_succ]
    refine wpAnyH_done (by kernel_rfl) ?_ _
    clear hS hcell hfz
    go_wp2
    go_end0
    exact ⟨rfl, HA.out, HK.out⟩
  · refine .inl ?_
    refine o_ok (d := some 14) rfl (.slice (some ⟨(w.alloc (.cells (pla ⟨pk, pn⟩) 49)).drew.heap.size, 0, none⟩) 1 1) ((w.alloc (.cells (pla ⟨pk, pn⟩) 49)).drew.alloc (.cells #[.int .i64 pk, .int .i64 pn, .slice fo fr.length fc] 70)) (by go_simp) ⟨hS.alloc _, ?_⟩
    try simp only [Act.put, List.setIfInBounds_toArray, List.set_cons_zero, List.set_cons_succ]
    replace hS := hS.alloc (.cells #[.int .i64 pk, .int .i64 pn, .slice fo fr.length fc] 70)
    refine wpAnyH_all (rs := [4]) (by kernel_rfl) (by simp) (fun i hi => ?_)
    simp only [List.mem_cons, List.not_mem_nil, or_false] at hi
    subst hi
    refine .inl ?_
    have q : ((w.alloc (.cells (pla ⟨pk, pn⟩) 49)).drew.alloc (.cells #[.int .i64 pk, .int .i64 pn, .slice fo fr.length fc] 70)).cell? ⟨T, 0, none⟩ = some (.slice ao l.length c) := ((H1.out.below (HBz.out.drew.alloc HBz.out.size _)).cell 0).trans rfl
    refine o_load_ts (d := some 10) rfl q rfl rfl ⟨hS, ?_⟩
    try simp only [Act.put, List.setIfInBounds_toArray, List.set_cons_zero, List.set_cons_succ]
    clear q
    have hbB : Below w.heap.size w ((w.alloc (.cells (pla ⟨pk, pn⟩) 49)).drew.alloc (.cells #[.int .i64 pk, .int .i64 pn, .slice fo fr.length fc] 70)) := HBz.out.drew.alloc HBz.out.size _
    refine wpAnyH_all (rs := [9]) (by kernel_rfl) (by simp) (fun i hi => ?_)
    simp only [List.mem_cons, List.not_mem_nil, or_false] at hi
    subst hi
    refine .inl ?_
    refine o_append_g (d := some 15) _ _ rfl rfl Tryd.underlying44 infoT rfl (by omega) (by omega) rfl rfl (HG.out.below hbB) (t_src (w.alloc (.cells (pla ⟨pk, pn⟩) 49)).drew pk pn (.slice fo fr.length fc) rfl) (by omega) ?_
    intro v2 w2 hg ht hn
    obtain ⟨hcell, hfz, hA, hK⟩ := give_step (t := ⟨⟨pk, pn⟩, fr⟩) hbB (by omega) (H1.out.below hbB) hNT (TcC.kp (Kp.of_below (N := N) hbB (by omega)) _ _ HC.out) (HP.out.below hbB) H3.out (HG.out.below hbB) hg ht hn
    have hS : Rf 49 2 w2 w.heap.size (pla ⟨pk, pn⟩) := hS.turned ht (fun e => by have := HG.out.lt e; omega)
    have HA := Lib.hid hA
    have HK := Lib.hid hK
    obtain ⟨ao2, c2, rfl, _⟩ := hg.shape
    clear hg ht hn hA hK hbB
    refine ⟨hS, ?_⟩
    try simp only [Act.put, List.setIfInBounds_toArray, List.set_cons_zero, List.set_cons_succ]
    refine take_d (i := 10) (d := some 16) (v := ?_) rfl rfl (by kernel_rfl) (by kernel_rfl) (by kernel_rfl) (fun _ _ _ h => h) (.inl ⟨by rfl, ?_⟩) hS ?_
    rotate_left
    · intro W hW
      go_simp
      try with_reducible rfl
    try simp only [Act.put, List.setIfInBounds_toArray, List.set_cons_zero, List.set_cons_succ]
    refine take_d (i := 11) (d := some 17) (v := ?_) rfl rfl (by kernel_rfl) (by kernel_rfl) (by kernel_rfl) (fun _ _ _ h => h) (.inl ⟨by rfl, ?_⟩) hS ?_
    rotate_left
    · intro W hW
      go_simp
      try with_reducible rfl
    try simp only [Act.put, List.setIfInBounds_toArray, List.set_cons_zero, List.set_cons_succ]
    refine wpAnyH_all (rs := [12]) (by kernel_rfl) (by simp) (fun i hi => ?_)
    simp only [List.mem_cons, List.not_mem_nil, or_false] at hi
    subst hi
    refine .inl ?_
    refine o_store_ts (d := none) rfl hcell hfz rfl rfl rfl ⟨hS.setCellOther _ _ (by omega), ?_⟩
    try simp only [Act.put, List.setIfInBounds_toArray, List.set_cons_zero, List.set_cons_succ]
    refine wpAnyH_done (by kernel_rfl) ?_ _
    clear hS hcell hfz
    go_wp2
    go_end0
    exact ⟨rfl, HA.out, HK.out⟩
/-! ### places -/
theorem register_any (n : Int) (w : World) : Calls Tryd.prog 33 #[.int .i64 n] w fun e w' => e = .returned (.agg #[.int .i64 (1), .int .i64 (n)]) ∧ Below w.heap.size w w' := by
  have RB := Lib.hid ((pla_ok ⟨0, 0⟩).new 49 w)
  have HF := Lib.hid (RB.out.set (pla_ok ⟨1, n⟩))
  have HG := Lib.hid (below_setRow (bel1 w (.cells (pla ⟨0, 0⟩) 49)) (Nat.le_refl _) (pla ⟨1, n⟩))
  go_enter Tryd.func33, Tryd.ntmps33
  go_wp2_with ((with_reducible apply wp_store_R (pla ⟨1, n⟩) rowP); (exact ⟨RB.out, pla_ok _⟩); (rfl); (rfl))
  exact bodyPost_ret (res_R rowP (fn := Tryd.f33) rfl _ HF.out rfl) rfl ⟨rfl, HG.out⟩
theorem alone_any (k : Int) (w : World) : Calls Tryd.prog 55 #[.int .i64 k] w fun e w' => e = .returned (.agg #[.int .i64 (k), .int .i64 (0)]) ∧ Below w.heap.size w w' := by
  have RB := Lib.hid ((pla_ok ⟨0, 0⟩).new 49 w)
  have HF := Lib.hid (RB.out.set (pla_ok ⟨k, 0⟩))
  have HG := Lib.hid (below_setRow (bel1 w (.cells (pla ⟨0, 0⟩) 49)) (Nat.le_refl _) (pla ⟨k, 0⟩))
  go_enter Tryd.func55, Tryd.ntmps55
  go_wp2_with ((with_reducible apply wp_store_R (pla ⟨k, 0⟩) rowP); (exact ⟨RB.out, pla_ok _⟩); (rfl); (rfl))
  exact bodyPost_ret (res_R rowP (fn := Tryd.f55) rfl _ HF.out rfl) rfl ⟨rfl, HG.out⟩
theorem RReg_any (n : Int) (w : World) : Calls Tryd.prog 43 #[.int .i64 n] w fun e w' => e = .returned (.agg #[.int .i64 (1), .int .i64 (n)]) ∧ Below w.heap.size w w' := by
  have RB := Lib.hid ((pla_ok ⟨0, 0⟩).new 49 w)
  have HF := Lib.hid (RB.out.set (pla_ok ⟨1, n⟩))
  have HG := Lib.hid (below_setRow (bel1 w (.cells (pla ⟨0, 0⟩) 49)) (Nat.le_refl _) (pla ⟨1, n⟩))
  go_enter Tryd.func43, Tryd.ntmps43
  go_wp2_with ((with_reducible apply wp_store_R (pla ⟨1, n⟩) rowP); (exact ⟨RB.out, pla_ok _⟩); (rfl); (rfl))
  exact bodyPost_ret (res_R rowP (fn := Tryd.f43) rfl _ HF.out rfl) rfl ⟨rfl, HG.out⟩
theorem ROnly_any (k : Int) (w : World) : Calls Tryd.prog 46 #[.int .i64 k] w fun e w' => e = .returned (.agg #[.int .i64 (k), .int .i64 (0)]) ∧ Below w.heap.size w w' := by
  have RB := Lib.hid ((pla_ok ⟨0, 0⟩).new 49 w)
  have HF := Lib.hid (RB.out.set (pla_ok ⟨k, 0⟩))
  have HG := Lib.hid (below_setRow (bel1 w (.cells (pla ⟨0, 0⟩) 49)) (Nat.le_refl _) (pla ⟨k, 0⟩))
  go_enter Tryd.func46, Tryd.ntmps46
  go_wp2_with ((with_reducible apply wp_store_R (pla ⟨k, 0⟩) rowP); (exact ⟨RB.out, pla_ok _⟩); (rfl); (rfl))
  exact bodyPost_ret (res_R rowP (fn := Tryd.f46) rfl _ HF.out rfl) rfl ⟨rfl, HG.out⟩
theorem decide_any {N : Nat} {w : World} {T : Nat} {l : List Tch} (h : At N w T l) (hl : l.length ≤ 8) (fv : Value) (fr : List Plc) (hp : PlIs w fv fr) :
    Calls Tryd.prog 32 #[.pointer (some ⟨T, 0, none⟩), fv] w fun e w' => e = .returned (.tuple #[]) ∧ At N w' T (l ++ [⟨on 0, fr⟩]) ∧ Kp N w w' := by
  have HC := Lib.hid (give_any h hl (on 0) fv fr hp)
  obtain ⟨fo, fc, rfl, _, _⟩ := hp.shape
  clear hp h
  go_enter Tryd.func32, Tryd.ntmps32
  go_wp2_with fail
  refine HC.out.mono ?_
  rintro e w1 ⟨rfl, hA, hK⟩
  have HA := Lib.hid hA
  have HK := Lib.hid hK
  clear hA hK
  go_wp2
  go_end0
  exact ⟨rfl, HA.out, HK.out⟩
/-- A row of places is made, at the operation. -/
theorem o_places {d : Option Tmp} {op : Oper} {a : Act} {w : World} {K : Act → World → Prop} {Q : Exit → Act → World → Prop} (hd : op.dst = d) (l : List Plc) (hl : l.length ≤ maxLen) (h : (execOp a.eval op).run Tryd.prog w = .ok (.value (.slice (some ⟨w.heap.size, 0, none⟩) l.length l.length)) (w.alloc (.cells (l.flatMap plc).toArray 49)))
    (hK : ∀ v W, PlIs W v l → Below w.heap.size w W → K (a.put d v) W) : op.wp Tryd.prog a w K Q := by
  subst hd
  unfold Oper.wp
  rw [h]
  exact hK _ _ (PlIs.lit w l hl) (bel1 _ _)
/-- Blocks that lie there, and what a walk of touches knows. -/
def Bks (W : World) : List (Nat × TypeId × Nat × Array Value) → Prop
  | [] => True
  | (b, ty, n, c) :: r => (Rf ty n W b c ∧ ty ≠ 64 ∧ ty ≠ 70) ∧ Bks W r
theorem Bks.kp {N : Nat} {W W' : World} (hK : Kp N W W') : ∀ {l : List (Nat × TypeId × Nat × Array Value)}, Bks W l → Bks W' l
  | [], _ => trivial
  | (b, ty, n, c) :: r, ⟨⟨h, h1, h2⟩, hr⟩ => ⟨⟨⟨hK.o _ _ _ h.blk h1 h2, h.size, h.one⟩, h1, h2⟩, Bks.kp hK hr⟩
structure Tq (N : Nat) (w : World) (T : Nat) (l : List Tch) (bs : List (Nat × TypeId × Nat × Array Value)) (W : World) : Prop where
  a : At N W T l
  k : Kp N w W
  b : Bks W bs
theorem Tq.lt {N : Nat} {w W : World} {T : Nat} {l : List Tch} {bs : List (Nat × TypeId × Nat × Array Value)} (h : Tq N w T l bs W) : N ≤ W.heap.size := Nat.le_of_lt h.a.lt
theorem Tq.kp {N : Nat} {w W W' : World} {T : Nat} {l : List Tch} {bs : List (Nat × TypeId × Nat × Array Value)} (h : Tq N w T l bs W) (hb : Below W.heap.size W W') : Kp N W W' := Kp.of_below hb h.lt
theorem Tq.after {N : Nat} {w W W' : World} {T : Nat} {l : List Tch} {bs : List (Nat × TypeId × Nat × Array Value)} (h : Tq N w T l bs W) (hb : Below W.heap.size W W') : Tq N w T l bs W' := ⟨h.a.below hb, h.k.trans (h.kp hb), h.b.kp (h.kp hb)⟩
theorem Tq.drew {N : Nat} {w W : World} {T : Nat} {l : List Tch} {bs : List (Nat × TypeId × Nat × Array Value)} (h : Tq N w T l bs W) : Tq N w T l bs W.drew := h.after (Below.refl _ _).drew
theorem Tq.give {N : Nat} {w W W' : World} {T : Nat} {l l' : List Tch} {bs : List (Nat × TypeId × Nat × Array Value)} (h : Tq N w T l bs W) (hA : At N W' T l') (hK : Kp N W W') : Tq N w T l' bs W' := ⟨hA, h.k.trans hK, h.b.kp hK⟩
/-- A block more. -/
theorem Tq.box {N : Nat} {w W : World} {T : Nat} {l : List Tch} {bs : List (Nat × TypeId × Nat × Array Value)} (h : Tq N w T l bs W) {ty : TypeId} {n : Nat} {c : Array Value} (hc : Ok1 n c) (h1 : ty ≠ 64) (h2 : ty ≠ 70) : Tq N w T l ((W.heap.size, ty, n, c) :: bs) (W.alloc (.cells c ty)) :=
  have h' := h.after (bel1 W (.cells c ty))
  ⟨h'.a, h'.k, ⟨⟨hc.new ty W, h1, h2⟩, h'.b⟩⟩
theorem Tq.less {N : Nat} {w W : World} {T : Nat} {l : List Tch} {bs bs' : List (Nat × TypeId × Nat × Array Value)} (h : Tq N w T l bs W) (hb : Bks W bs → Bks W bs') : Tq N w T l bs' W := ⟨h.a, h.k, hb h.b⟩
theorem Nam.kp {N : Nat} {W W' : World} (h : Nam W) (hK : Kp N W W') (hg : 0 < N) : Nam W' := ⟨var?_below hK.b gNam hg h.named⟩
theorem Nam.lt {W : World} (h : Nam W) : 0 < W.heap.size := var_lt gNam h.named
end Go.Proofs.YthjdfneibogcgaaDoor

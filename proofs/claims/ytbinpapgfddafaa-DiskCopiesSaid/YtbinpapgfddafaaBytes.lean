/-
  Layer 8: Bytes of package disk: walks. Written by gen_bytes.py.
-/
import Derived.Test.YtbinpapgfddafaaUsed
import Derived.Test.YtbinpapgfddafaaRound
import Derived.Test.YtbinpapgfddafaaBox
import Derived.Laws.CopyRow
import Derived.Laws.EntriesVeiled
namespace Go.Proofs.Ytbinpapgfddafaa
open Go.RowKit Go.Shelf
attribute [local go_sem] Oper.semAt_some
set_option maxHeartbeats 1000000
set_option linter.unusedVariables false
set_option linter.unusedSimpArgs false

/-- Bytes are copied, at the operation. -/
theorem o_copy {P : Program} {op : Oper} {a : Act} {w w' : World} {K : Act → World → Prop} {Q : Exit → Act → World → Prop} {x y : Operand} {t s : TypeId} {dv sv v : Value} (ho : op.op = .call { callee := .builtin .copy, args := #[x, y], argTypes := #[t, s] }) (hx : a.eval x = dv) (hy : a.eval y = sv)
    (hr : (Builtin.copy_ #[t, s] op.type #[dv, sv]).run P w = .ok v w') (h : K (a.put op.dst v) w') : op.wp P a w K Q := by
  unfold Oper.wp
  simp [execOp, ho, resolve, invoke, builtin, hx, hy, hr, Result.andThen]
  exact h
theorem cut_wr {P : Nat} {l x : List Int} (hl : l.length = 64 * P) (hx : x.length = 64) {n : Nat} (hn : n < P) : (((bv l).toArray.toList.take (64 * n) ++ bv x ++ (bv l).toArray.toList.drop (64 * n + (bv x).length)).toArray) = (bv (wr l n x)).toArray := by
  simp [bv, wr, hx]
theorem Bytes1_any {w : World} {A g P : Nat} {l x : List Int} (hA : Blk w A #[.slice (some ⟨g, 0, none⟩) (64 * P) (64 * P)] 22) (hg : Blk w g (bv l).toArray 5) (hl : l.length = 64 * P) (hP : P ≤ 32) (hx : x.length = 64) {n : Nat} (hn : n < P) :
    Calls Try.prog 38 #[.int .i64 (n : Int), .agg (sc x), .pointer (some ⟨A, 0, none⟩)] w fun e w' => (∃ v, e = .returned v) ∧ Blk w' g (bv (wr l n x)).toArray 5 ∧ Turned (fun k => k = g) w w' := by
  have hAg : A ≠ g := by
    rintro rfl
    unfold Blk at hA hg
    rw [hA] at hg
    simp at hg
  have h1 : Blk (w.alloc (.cells (sc x) 61)) A #[.slice (some ⟨g, 0, none⟩) (64 * P) (64 * P)] 22 := hA.alloc _
  have h2 : Blk (w.alloc (.cells (sc x) 61)) g (bv l).toArray 5 := hg.alloc _
  have h3 := bs_new w hx
  have hi1 : (Try.prog.info? 5).map (·.size) = some 1 := by kernel_rfl
  have hsrc : ∀ j v, (bv x)[j]? = some v → (w.alloc (.cells (sc x) 61)).drew.cell? ((⟨w.heap.size, 0, none⟩ : Addr).add j) = some v := fun j v hj => by
    rw [add_lit, Nat.zero_add]
    have := h3.blk.drew.cell j
    rw [this]
    simpa [sc] using hj
  have hrun := fun ty => run_copy_row (P := Try.prog) (w.alloc (.cells (sc x) 61)).drew 22 22 ty 5 g (64 * n) (64 * P - 64 * n) (64 * P - 64 * n) ⟨w.heap.size, 0, none⟩ 64 64 (bv l).toArray 5 (bv x) Try.underlying22 hi1 h2.drew (by rw [bv_length, hx]; simp [Nat.min_def]; omega) hsrc (by rw [bv_length, hx]; simp [bv, hl]; omega) (bv_one x)
  rw [cut_wr hl hx hn] at hrun
  have ht : Turned (fun k => k = g) (w.alloc (.cells (sc x) 61)).drew ((w.alloc (.cells (sc x) 61)).drew.setRow g (bv (wr l n x)).toArray) := turned_setRow _ _ _
  have HF := Lib.hid (show Blk ((w.alloc (.cells (sc x) 61)).drew.setRow g (bv (wr l n x)).toArray) g (bv (wr l n x)).toArray 5 ∧ Turned (fun k => k = g) w ((w.alloc (.cells (sc x) 61)).drew.setRow g (bv (wr l n x)).toArray) from ⟨h2.drew.set _, (((Turned.refl (fun k => k = g) w).alloc _).drew).trans ht (fun k e => .inl e)⟩)
  have hK0 := h1.drew
  have hK1 := Lib.hid (hK0.turned ht hAg)
  have HR := Lib.hid hrun
  have HW := Lib.hid (show IntKind.i64.wrap ((n : Int) * 64) = ((64 * n : Nat) : Int) from by rw [IntKind.wrap_i64]; omega)
  have HC := Lib.hid (show (64 * P = 64 * n) = False from by simp; omega)
  have n0 : (0 : Int) ≤ n := by omega
  have n1 : (n : Int) < 32 := by omega
  have n2 : (n : Int) < P := by omega
  have n3 : (P : Int) ≤ 32 := by omega
  clear hA hg h1 h2 h3 hsrc hrun ht hl
  go_enter Try.func38, Try.ntmps38
  go_wp2_with fail
  refine wp_region_held_drew (S := fun W => Blk W A #[.slice (some ⟨g, 0, none⟩) (64 * P) (64 * P)] 22) (by kernel_rfl) hK0 (fun _ => ?_)
  have hS := hK0
  refine take_d (i := 0) (d := some 5) (v := ?_) rfl rfl (by kernel_rfl) (by kernel_rfl) (by kernel_rfl) (fun _ _ _ h => h) (.inl ⟨by rfl, ?_⟩) hS ?_
  rotate_left
  · intro W hW
    have q := hW.cell 0; simp only [List.getElem?_toArray, List.getElem?_cons_zero] at q
    go_simp
    try with_reducible rfl
  try simp only [Act.put, List.setIfInBounds_toArray, List.set_cons_zero, List.set_cons_succ]
  refine take_d (i := 1) (d := some 6) (v := ?_) rfl rfl (by kernel_rfl) (by kernel_rfl) (by kernel_rfl) (fun _ _ _ h => h) (.inl ⟨by rfl, ?_⟩) hS ?_
  rotate_left
  · intro W hW
    go_simp
    try with_reducible rfl
  try simp only [Act.put, List.setIfInBounds_toArray, List.set_cons_zero, List.set_cons_succ]
  refine take_d (i := 2) (d := some 7) (v := .int .i64 ((64 * n : Nat) : Int)) rfl rfl (by kernel_rfl) (by kernel_rfl) (by kernel_rfl) (fun _ _ _ h => h) (.inl ⟨by rfl, fun W hW => by have q := HW.out; go_simp⟩) hS ?_
  try simp only [Act.put, List.setIfInBounds_toArray, List.set_cons_zero, List.set_cons_succ]
  refine take_d (i := 3) (d := some 8) (v := .slice (some ⟨g, 64 * n, none⟩) (64 * P - 64 * n) (64 * P - 64 * n)) rfl rfl (by kernel_rfl) (by kernel_rfl) (by kernel_rfl) (fun _ _ _ h => h) (.inl ⟨by rfl, fun W hW => by have q := HC.out; go_simp; rw [if_pos ⟨by omega, by omega⟩, show (64 * (n : Int)).toNat = 64 * n from by omega, if_neg (by omega)]⟩) hS ?_
  try simp only [Act.put, List.setIfInBounds_toArray, List.set_cons_zero, List.set_cons_succ]
  refine take_d (i := 4) (d := some 9) (v := ?_) rfl rfl (by kernel_rfl) (by kernel_rfl) (by kernel_rfl) (fun _ _ _ h => h) (.inl ⟨by rfl, ?_⟩) hS ?_
  rotate_left
  · intro W hW
    go_simp
    try with_reducible rfl
  try simp only [Act.put, List.setIfInBounds_toArray, List.set_cons_zero, List.set_cons_succ]
  refine wpAnyH_all (rs := [5]) (by kernel_rfl) (by simp) (fun i hi => ?_)
  simp only [List.mem_cons, List.not_mem_nil, or_false] at hi
  subst hi
  refine .inl ?_
  refine o_copy rfl rfl rfl (HR.out _) ?_
  refine ⟨hK1.out, ?_⟩
  try simp only [Act.put, List.setIfInBounds_toArray, List.set_cons_zero, List.set_cons_succ]
  refine wpAnyH_done (by kernel_rfl) ?_ _
  go_end0
  exact ⟨⟨_, rfl⟩, HF.out⟩

theorem Bytes_nil (w : World) : Calls Try.prog 25 #[.pointer none] w fun e w' => e = .returned (.slice none 0 0) ∧ Below w.heap.size w w' := by
  have c0 : (w.alloc (.cells #[.pointer none] 24)).cell? ⟨w.heap.size, 0, none⟩ = some (.pointer none) := by rw [(blk_new w #[.pointer none] 24).cell]; rfl
  go_enter Try.func25, Try.ntmps25
  go_wp2_with (first | (go_at_call 32; refine (none_nil _).mono ?_; rintro e w' ⟨rfl, rfl⟩))
  go_ret
  exact ⟨rfl, (Below.refl _ _).alloc (Nat.le_refl _) _⟩
theorem made_zeros (n : Nat) : madeCells (Value.int .u8 0).cells n = (bv (List.replicate n 0)).toArray := by
  simp only [madeCells, Value.cells, bv, List.map_replicate]
  apply Array.ext
  · simp
  · intro i h1 h2
    simp [Nat.mod_one]
/-- So many bytes of nought are made. -/
theorem make_bytes {P : Nat} (hP : P ≤ 32) {z : Int} (hz : z = 64 * (P : Int)) (W : World) : (Instr.makeSlice 22 (.int .i64 z) (.int .i64 z)).run Try.prog W = .ok (.slice (some ⟨W.heap.size, 0, none⟩) (64 * P) (64 * P)) (W.alloc (.cells (bv (nw P)).toArray 5)) := by
  obtain ⟨i0, hi, hz0, hz1, hz2⟩ := info_parts A.infoB
  have hr := run_make (P := Try.prog) W 22 5 i0 (.int .u8 0) Try.underlying22 hi hz0 .i64 .i64 z z (by omega) (by omega) (by rw [hz2]; omega) (by omega)
  rw [hr, hz1]
  have e : z.toNat = 64 * P := by omega
  rw [e, Nat.mul_one, made_zeros]
  rfl
/-- The boxes of Bytes: the disk's pointer, the bytes, where they are told, the closure. -/
abbrev byL (z S P : Nat) (l : List Int) : List Bx := [(z, #[.pointer (some ⟨S, 0, none⟩)], 24), (z + 1, (bv l).toArray, 5), (z + 1 + 1, #[.slice (some ⟨z + 1, 0, none⟩) (64 * P) (64 * P)], 22), (z + 1 + 1 + 1, #[.func (.func 38) #[] #[.pointer (some ⟨z + 1 + 1, 0, none⟩)]], 72)]
/-- The sectors that have come are laid. -/
def laid (b : List Int) (P : Nat) (ps : List Nat) : List Int := ps.foldl (fun l p => wr l p (sec b p)) (nw P)
theorem laid_snoc (b : List Int) (P : Nat) (ps : List Nat) (p : Nat) : laid b P (ps ++ [p]) = wr (laid b P ps) p (sec b p) := by simp [laid]
theorem laid_len {b : List Int} {P : Nat} (h : b.length = 64 * P) : ∀ {ps : List Nat}, (∀ p ∈ ps, p < P) → (laid b P ps).length = 64 * P := by
  intro ps
  have main : ∀ (ps : List Nat) (l : List Int), l.length = 64 * P → (∀ p ∈ ps, p < P) → (ps.foldl (fun l p => wr l p (sec b p)) l).length = 64 * P := by
    intro ps
    induction ps with
    | nil => intro l hl _; exact hl
    | cons a r ih => intro l hl hp; exact ih _ (wr_len hl (sec_len h (hp a (by simp))) (hp a (by simp))) (fun p hp' => hp p (by simp [hp']))
  exact main ps (nw P) (by simp [nw])
theorem sec_laid {b : List Int} {P : Nat} (h : b.length = 64 * P) {q : Nat} (hq : q < P) : ∀ {ps : List Nat}, (∀ p ∈ ps, p < P) → sec (laid b P ps) q = if q ∈ ps then sec b q else nou := by
  intro ps
  have main : ∀ (ps : List Nat) (l : List Int), l.length = 64 * P → (∀ p ∈ ps, p < P) → sec (ps.foldl (fun l p => wr l p (sec b p)) l) q = if q ∈ ps then sec b q else sec l q := by
    intro ps
    induction ps with
    | nil => intro l hl _; simp
    | cons a r ih =>
      intro l hl hp
      have ha := hp a (by simp)
      rw [List.foldl_cons, ih _ (wr_len hl (sec_len h ha) ha) (fun p hp' => hp p (by simp [hp']))]
      by_cases hr : q ∈ r
      · simp [hr]
      · by_cases e : q = a
        · subst e; simp [hr, sec_wr_same hl (sec_len h ha) ha]
        · simp [hr, e, sec_wr_other hl (sec_len h ha) ha hq e]
  intro hp
  have := main ps (nw P) (by simp [nw]) hp
  rw [sec_nw hq] at this
  exact this
theorem laid_all {b : List Int} {P : Nat} (h : b.length = 64 * P) : laid b P (uses b P) = b := by
  have hp : ∀ p ∈ uses b P, p < P := fun p hp => (mem_uses.1 hp).1
  refine ext_sec (laid_len h hp) h fun q hq => ?_
  rw [sec_laid h hq hp]
  by_cases e : q ∈ uses b P
  · rw [if_pos e]
  · rw [if_neg e]
    rw [mem_uses] at e
    simp [hq, usd] at e
    exact e.symm

theorem by_start (w : World) (S P : Nat) : Bxs w (byL w.heap.size S P (nw P)) ((((w.alloc (.cells #[.pointer (some ⟨S, 0, none⟩)] 24)).alloc (.cells (bv (nw P)).toArray 5)).alloc (.cells #[.slice (some ⟨w.heap.size + 1, 0, none⟩) (64 * P) (64 * P)] 22)).alloc (.cells #[.func (.func 38) #[] #[.pointer (some ⟨w.heap.size + 1 + 1, 0, none⟩)]] 72)) := by
  have := ((((Bxs.nil w).alloc #[.pointer (some ⟨S, 0, none⟩)] 24).alloc (bv (nw P)).toArray 5).alloc #[.slice (some ⟨w.heap.size + 1, 0, none⟩) (64 * P) (64 * P)] 22).alloc #[.func (.func 38) #[] #[.pointer (some ⟨w.heap.size + 1 + 1, 0, none⟩)]] 72
  simp only [World.size_alloc] at this
  exact ⟨this.below, fun p hp => this.at_ p (by simp only [byL, List.mem_cons, List.not_mem_nil, or_false] at hp ⊢; rcases hp with rfl | rfl | rfl | rfl <;> simp)⟩
section
variable {w W W' : World} {S P : Nat} {l : List Int}
theorem by_facts (h : Bxs w (byL w.heap.size S P l) W) : Blk W w.heap.size #[.pointer (some ⟨S, 0, none⟩)] 24 ∧ Blk W (w.heap.size + 1) (bv l).toArray 5 ∧ Blk W (w.heap.size + 1 + 1) #[.slice (some ⟨w.heap.size + 1, 0, none⟩) (64 * P) (64 * P)] 22 ∧ Blk W (w.heap.size + 1 + 1 + 1) #[.func (.func 38) #[] #[.pointer (some ⟨w.heap.size + 1 + 1, 0, none⟩)]] 72 :=
  ⟨h.get w.heap.size (by simp), h.get (w.heap.size + 1) (by simp), h.get (w.heap.size + 1 + 1) (by simp), h.get (w.heap.size + 1 + 1 + 1) (by simp)⟩
theorem by_set (h : Bxs w (byL w.heap.size S P l) W) {l' : List Int} (ht : Turned (fun k => k = w.heap.size + 1) W W') (hb : Blk W' (w.heap.size + 1) (bv l').toArray 5) : Bxs w (byL w.heap.size S P l') W' :=
  h.turned ht (fun k e => by omega) (fun p hp => by
    simp only [byL, List.mem_cons, List.not_mem_nil, or_false] at hp
    rcases hp with rfl | rfl | rfl | rfl
    · exact ⟨fun e => by simp at e, fun _ => by simp⟩
    · exact ⟨fun _ => hb, fun hn => absurd rfl hn⟩
    · exact ⟨fun e => by simp at e, fun _ => by simp⟩
    · exact ⟨fun e => by simp at e; omega, fun _ => by simp⟩)
end
set_option maxRecDepth 100000 in
theorem Bytes_any {w : World} {S P : Nat} {b : List Int} {F : Nat → Prop} (h : Dk w S P b F) : Calls Try.prog 25 #[.pointer (some ⟨S, 0, none⟩)] w fun e w' => ∃ v, e = .returned v ∧ NumsIn .u8 w' v b ∧ (∀ k, rdBlk v = some k → w.heap.size ≤ k) ∧ Below w.heap.size w w' := by
  have hmf : ∀ (fn : Fn) (first cap : Array Value) (w : World), (Instr.makeFunc fn first cap).run Try.prog w = .ok (.func fn first cap) w := fun _ _ _ _ => rfl
  have HA := Lib.hid (fun W (hb : Below w.heap.size w W) => (show Dk W S P b F from h.below hb))
  have HD := Lib.hid h.dsk
  have H0 := Lib.hid (by_start w S P)
  have hb0 : Below w.heap.size w (w.alloc (.cells #[.pointer (some ⟨S, 0, none⟩)] 24)) := (Below.refl _ _).alloc (Nat.le_refl _) _
  have hc0 : (w.alloc (.cells #[.pointer (some ⟨S, 0, none⟩)] 24)).cell? ⟨w.heap.size, 0, none⟩ = some (.pointer (some ⟨S, 0, none⟩)) := by rw [(blk_new w #[.pointer (some ⟨S, 0, none⟩)] 24).cell]; rfl
  have hcS := (h.below hb0).cell
  have hhi := h.dsk.hi
  have hmk := fun W => make_bytes hhi (z := (P : Int) * 64) (by omega) W
  clear h hb0
  refine (callsIn_wide (n := 5)).1 ?_
  refine callsIn_of_wp_marks Try.func25 rfl trivial ?_ rfl
  refine wpIn_wide.2 ?_
  simp only [Try.ntmps25, List.size_toArray, List.length_cons, List.length_nil, Nat.reduceAdd, Nat.reduceSub, Array.replicate_succ, Array.replicate_zero, List.push_toArray, List.append_toArray, List.nil_append, List.cons_append]
  go_wp2_with fail
  refine (none_any (HA.out _ ((Below.refl _ _).alloc (Nat.le_refl _) _))).mono ?_; rintro e W1 ⟨rfl, rfl⟩
  go_wp2_with fail
  refine (Used_any (HA.out _ H0.out.below)).mono ?_; rintro e W2 ⟨B, v, rfl, hsq⟩
  have HX := Lib.hid (H0.out.after hsq.below)
  have HB := Lib.hid hsq.blk
  have HV := Lib.hid hsq.nums
  have hzB := hsq.loB
  have hzW := hsq.below.size
  simp only [World.size_alloc] at hzB hzW
  have HLV := Lib.hid (show ∀ k, rdBlk v = some k → w.heap.size + 1 < k from fun k hk => by have := hsq.loV k hk; simp only [World.size_alloc] at this; omega)
  clear hsq H0 hmk hmf hc0 hcS
  go_wp2_with fail
  refine (wpIn_wide (n := 5)).1 (wp_over_f (gf := 42) (lb := #[.pointer (some ⟨B, 0, none⟩)]) rfl (enters_of Try.func42 (by kernel_rfl) rfl)
    (Values1_gives HB.out HV.out (by have := uses_le b P; omega) (fun k => k = w.heap.size + 1) (fun k hk e => by have := HLV.out k hk; omega))
    (fun k e => by subst e; omega) (fun _ => rfl)
    (fun pre W => ∃ _x : Unit, True ∧ Bxs w (byL w.heap.size S P (laid b P pre)) W)
    (fun c pre W => ∃ _x : Unit, False ∧ Bxs w [] W)
    (bxs_own w _ _ (by omega)) (fun c => bxs_own w _ _ (by omega)) ⟨(), trivial, HX.out⟩
    (fun tm x => (tm.setIfInBounds 17 (.int .i64 (x : Int))).setIfInBounds 5 (.int .i64 (x : Int)))
    ?assign ?body ?done (fun _ _ _ _ _ _ _ hx _ => by obtain ⟨_, h, _⟩ := hx; exact h.elim))
  case assign =>
    intro ll mm x W1 K hK
    gi_wp2
    simp only [List.setIfInBounds_toArray, List.set_cons_zero, List.set_cons_succ] at hK
    exact hK
  case body =>
    rintro ll mm pre x rest W hf ⟨_, _, hX⟩
    simp only [List.setIfInBounds_toArray, List.set_cons_zero, List.set_cons_succ]
    have hx4 : x < P := (mem_uses.1 (show x ∈ uses b P from by rw [hf]; simp)).1
    have hpre : ∀ p ∈ pre, p < P := fun p hp => (mem_uses.1 (show p ∈ uses b P from by rw [hf]; simp [hp])).1
    have hll := laid_len HD.out.len hpre
    obtain ⟨k0, k1, k2, k3⟩ := by_facts hX
    have hK0 : (Blk W.drew w.heap.size #[.pointer (some ⟨S, 0, none⟩)] 24 ∧ Blk W.drew (w.heap.size + 1 + 1 + 1) #[.func (.func 38) #[] #[.pointer (some ⟨w.heap.size + 1 + 1, 0, none⟩)]] 72) := ⟨k0.drew, k3.drew⟩
    have HX9 := Lib.hid hX.drew
    have HL := Lib.hid hll
    clear hf hX k0 k1 k2 k3 hpre
    gi_wp2
    refine wpIn_region_round (S := fun W => Blk W w.heap.size #[.pointer (some ⟨S, 0, none⟩)] 24 ∧ Blk W (w.heap.size + 1 + 1 + 1) #[.func (.func 38) #[] #[.pointer (some ⟨w.heap.size + 1 + 1, 0, none⟩)]] 72) (by kernel_rfl) (by kernel_rfl) (fun _ _ h => h) ?_
    have hS := hK0
    refine take_d (i := 0) (d := some 18) (v := ?_) rfl rfl (by kernel_rfl) (by kernel_rfl) (by kernel_rfl) (fun _ _ _ h => h) (.inl ⟨by rfl, ?_⟩) hS ?_
    rotate_left
    · intro W hW
      have q := hW.2.cell 0; simp only [List.getElem?_toArray, List.getElem?_cons_zero] at q
      go_simp
      try with_reducible rfl
    try simp only [Act.put, List.setIfInBounds_toArray, List.set_cons_zero, List.set_cons_succ]
    refine take_d (i := 1) (d := some 19) (v := ?_) rfl rfl (by kernel_rfl) (by kernel_rfl) (by kernel_rfl) (fun _ _ _ h => h) (.inl ⟨by rfl, ?_⟩) hS ?_
    rotate_left
    · intro W hW
      go_simp
      try with_reducible rfl
    try simp only [Act.put, List.setIfInBounds_toArray, List.set_cons_zero, List.set_cons_succ]
    refine take_d (i := 2) (d := some 20) (v := ?_) rfl rfl (by kernel_rfl) (by kernel_rfl) (by kernel_rfl) (fun _ _ _ h => h) (.inl ⟨by rfl, ?_⟩) hS ?_
    rotate_left
    · intro W hW
      have q := hW.1.cell 0; simp only [List.getElem?_toArray, List.getElem?_cons_zero] at q
      go_simp
      try with_reducible rfl
    try simp only [Act.put, List.setIfInBounds_toArray, List.set_cons_zero, List.set_cons_succ]
    refine take_d (i := 3) (d := some 21) (v := ?_) rfl rfl (by kernel_rfl) (by kernel_rfl) (by kernel_rfl) (fun _ _ _ h => h) (.inl ⟨by rfl, ?_⟩) hS ?_
    rotate_left
    · intro W hW
      go_simp
      try with_reducible rfl
    try simp only [Act.put, List.setIfInBounds_toArray, List.set_cons_zero, List.set_cons_succ]
    refine wpAnyH_all (rs := [4]) (by kernel_rfl) (by simp) (fun i hi => ?_)
    simp only [List.mem_cons, List.not_mem_nil, or_false] at hi
    subst hi
    refine .inl ?_
    go_simp
    refine (at_any (HA.out _ HX9.out.below) hx4).mono ?_
    rintro e wc ⟨rfl, hb1⟩
    have HX2 := Lib.hid (HX9.out.after hb1)
    have hS : Blk wc w.heap.size #[.pointer (some ⟨S, 0, none⟩)] 24 ∧ Blk wc (w.heap.size + 1 + 1 + 1) #[.func (.func 38) #[] #[.pointer (some ⟨w.heap.size + 1 + 1, 0, none⟩)]] 72 := ⟨(by_facts HX2.out).1, (by_facts HX2.out).2.2.2⟩
    refine ⟨hS, ?_⟩
    have HB1 := Lib.hid hb1
    clear hb1
    try simp only [Act.put, List.setIfInBounds_toArray, List.set_cons_zero, List.set_cons_succ]
    refine wpAnyH_all (rs := [5]) (by kernel_rfl) (by simp) (fun i hi => ?_)
    simp only [List.mem_cons, List.not_mem_nil, or_false] at hi
    subst hi
    refine .inl ?_
    go_simp
    refine (Bytes1_any (by_facts HX2.out).2.2.1 (by_facts HX2.out).2.1 HL.out HD.out.hi (sec_len HD.out.len hx4) hx4).mono ?_
    rintro e wc ⟨⟨v2, rfl⟩, hb2, ht2⟩
    have HX3 := Lib.hid (by_set HX2.out ht2 hb2)
    have hS : Blk wc w.heap.size #[.pointer (some ⟨S, 0, none⟩)] 24 ∧ Blk wc (w.heap.size + 1 + 1 + 1) #[.func (.func 38) #[] #[.pointer (some ⟨w.heap.size + 1 + 1, 0, none⟩)]] 72 := ⟨(by_facts HX3.out).1, (by_facts HX3.out).2.2.2⟩
    refine ⟨hS, ?_⟩
    have HT2 := Lib.hid ht2
    clear hb2 ht2
    try simp only [Act.put, List.setIfInBounds_toArray, List.set_cons_zero, List.set_cons_succ]
    refine wpAnyH_done (by kernel_rfl) ?_ _
    clear hK0 hS
    gi_wp2
    have ht : Turned (fun k => k = w.heap.size + 1) W wc := (((Turned.refl (fun k => k = w.heap.size + 1) W).drew).trans (Turned.of_below HB1.out _) (fun k e => .inl e)).trans HT2.out (fun k e => .inl e)
    exact ⟨KeptBut.ofTurned ht, (), trivial, by rw [laid_snoc]; exact HX3.out⟩
  case done =>
    rintro D0 W9 hD0 ⟨_, _, hX9⟩ hK
    rw [laid_all HD.out.len] at hX9
    have HX9 := Lib.hid hX9
    have HK := Lib.hid hK
    obtain ⟨k0, k1, k2, k3⟩ := by_facts hX9
    have q0 := k2.cell 0
    simp only [List.getElem?_toArray, List.getElem?_cons_zero] at q0
    clear hX9 hK k0 k1 k2 k3
    have hD9 := (Array.getElem?_eq_some_iff.1 HK.out).1
    go_wp2
    refine ⟨by simp, .inl ⟨_, _, rfl, run_takeDeferred (show W9.heap[D0]? = some (.deferred (some [])) from HK.out), ?_⟩⟩
    have hB : Below w.heap.size w (W9.putObj D0 (.deferred none)) := HX9.out.below.trans (belowK_b (w := w) (Nat.le_refl _) _ D0 _ _ (by omega) HK.out rfl rfl)
    have hg : Blk (W9.putObj D0 (.deferred none)) (w.heap.size + 1) (bv b).toArray 5 := (World.putObj_heap_other (by omega)).trans (by_facts HX9.out).2.1
    refine ⟨.slice (some ⟨w.heap.size + 1, 0, none⟩) (64 * P) (64 * P), by simp [results, Try.results25, go_sem], _, rfl, ?_, fun k hk => ?_, hB⟩
    · have hl := HD.out.len
      refine .inr ⟨_, 64 * P, by rw [hl], by omega, by unfold maxLen; omega, fun i x hi => ?_, fun x hx => wf_of_u8 (HD.out.byt x hx)⟩
      rw [add_lit, hg.cell]
      simp [bv, hi]
    · simp [rdBlk] at hk; omega
end Go.Proofs.Ytbinpapgfddafaa

/-
  Layer 3: the iterator of the private pages of package shadow: the list that it gives. Layer 3: Copy of package shadow: its drawn region, the loop over the private pages: walks. A region that draws its order, in the round of a loop over an iterator: what holds of it in the plain walk holds in the round. No program. Layer 3: All of package shadow: the iterator over the bytes that have sets, over the iterator of a copy's private pages: walks. Layer 3: Same of package shadow, alike, maps.EqualFunc over its maps: walks. Layer 3: maps.EqualFunc over two shadows' maps, alike, Same: walks.
-/
import Derived.RangeFuncNested
import Derived.RangeFuncBound
import Derived.RangeFuncCalls
import Derived.RangeFuncLeaves
import Derived.RangeFuncBox
import Derived.Shelf.Abstract
import Derived.Shelf.RegionOpen
import Derived.WalkKit
import Derived.OwnWalkIn
import Derived.TacticsInMore
import Derived.LoopNIn
import Derived.LoopIn
import Derived.Test.YtdpdoclhdjhjkaaG01
import Derived.RegionTactic
import Derived.ChangeAlike
import Derived.Deep.RegionHeld3
import Derived.Deep.MidRow
import Derived.Maps.OwnIn
import Derived.OrdersHeld
import Derived.OrdersIn
import Derived.Deep.RegionHeld
import Derived.TacticsIn
import Derived.WalkMore
import Derived.Maps.RangeWalk
import Derived.Deep.QuietTactic
import Derived.BigQuiet
import Derived.Deep.RegionWith
set_option linter.unusedVariables false
set_option linter.unusedSimpArgs false
namespace Go.Proofs.Ytdpdoclhdjhjkaa.L3
set_option maxRecDepth 100000
open Go.RowKit Go.Shelf
attribute [local go_sem] Oper.semAt_some
set_option maxHeartbeats 1000000

abbrev pEnc (G : Nat → Nat) (p : Nat) : Array Value := #[.int .i64 (p : Int), .pointer (some ⟨G p, 0, none⟩)]

theorem privs_yes {l : List Int} {k : Nat} (h : priv l k = true) : privs l (k + 1) = privs l k ++ [k] := by rw [privs_succ, if_pos h]
theorem privs_no {l : List Int} {k : Nat} (h : priv l k = false) : privs l (k + 1) = privs l k := by rw [privs_succ, h]; simp
theorem privs_split (l : List Int) (k : Nat) : ∀ d, ∃ r, privs l (k + d) = privs l k ++ r
  | 0 => ⟨[], by simp⟩
  | d + 1 => by
    obtain ⟨r, hr⟩ := privs_split l k d
    rw [show k + (d + 1) = (k + d) + 1 by omega, privs_succ, hr]
    exact ⟨_, by rw [List.append_assoc]⟩
theorem privs_mid {l : List Int} {k P : Nat} (hk : k < P) (hp : priv l k = true) : ∃ r, privs l P = privs l k ++ k :: r := by
  obtain ⟨r, hr⟩ := privs_split l (k + 1) (P - (k + 1))
  rw [show k + 1 + (P - (k + 1)) = P by omega, privs_yes hp] at hr
  exact ⟨r, by rw [hr]; simp⟩
theorem privs_part {l : List Int} {k P : Nat} (hk : k ≤ P) : ∃ r, privs l P = privs l k ++ r := by
  obtain ⟨r, hr⟩ := privs_split l k (P - k)
  rw [show k + (P - k) = P by omega] at hr
  exact ⟨r, hr⟩

end Go.Proofs.Ytdpdoclhdjhjkaa.L3
namespace Go.Proofs.Ytdpdoclhdjhjkaa.L3
set_option maxRecDepth 100000
open Go.RowKit Go.Shelf Go.ChangeMaps Go.MapKept
set_option maxHeartbeats 1000000
set_option linter.unusedSimpArgs false
attribute [local go_sem] Oper.semAt_some

def cntCells (l : List Int) : List Value := (List.range 32).map fun p => Value.int .i64 (cnt l p : Int)
theorem cntCells_len (l : List Int) : (cntCells l).length = 32 := by simp [cntCells]
theorem A.infoC : (Try.prog.info? 126).map (·.size) = some 32 := by kernel_rfl
theorem fold_cells0 (c : Nat → Nat) : List.foldl (fun cs (x : Value × Nat) => Array.setIfInBounds cs x.snd x.fst) (shCells (fun _ => 0) 0 none) ((List.range 32).map fun p => Value.int .i64 (c p : Int)).zipIdx = shCells c 0 none := by
  kernel_rfl
theorem fold_cells (l : List Int) : List.foldl (fun cs (x : Value × Nat) => Array.setIfInBounds cs x.snd x.fst) (shCells (fun _ => 0) 0 none) (cntCells l).zipIdx = shCells (cnt l) 0 none := fold_cells0 _
/-- A post that is met by going on alone. -/
def OnlyN (R : Act → World → Prop) : Exit → Act → World → Prop
  | .normal, a, w => R a w
  | _, _, _ => False
theorem wp_mid {P : Program} {c : Code} {Q : Exit → Act → World → Prop} {a : Act} {w : World} (R : Act → World → Prop) (h : c.wp P (OnlyN R) a w) (hq : ∀ a' w', R a' w' → Q .normal a' w') : c.wp P Q a w :=
  Code.wp_mono (fun e a' w' hR => by cases e <;> first | exact hq _ _ hR | exact (hR : False).elim) h
/-- Behind the first statement of Copy: the map's block, the new shadow's, the variable's. -/
structure CopyMid (w : World) (P : Nat) (l : List Int) (m s b : Nat) (W : World) : Prop where
  below : Below w.heap.size w W
  map : W.heap[m]? = some (.map #[] 0)
  blk : W.heap[s]? = some (.cells (shCells (cnt l) P (some m)) 130 (0, 0))
  box : W.heap[b]? = some (.cells #[.pointer (some ⟨s, 0, none⟩)] 86 (0, 0))
  lm : w.heap.size ≤ m
  ls : w.heap.size ≤ s
  lb : w.heap.size ≤ b
theorem copyMid1 (w : World) (P : Nat) (l : List Int) (W : World) (h : Below w.heap.size w W) : CopyMid w P l W.heap.size (W.heap.size + 1) (W.heap.size + 1 + 1)
    (((W.alloc (.map #[] 0)).alloc (.cells (shCells (cnt l) P (some W.heap.size)) 130)).alloc (.cells #[.pointer (some ⟨W.heap.size + 1, 0, none⟩)] 86)) := by
  have hz := h.size
  have e1 := heap_alloc_new W (.map #[] 0)
  have e2 := heap_alloc_new (W.alloc (.map #[] 0)) (.cells (shCells (cnt l) P (some W.heap.size)) 130)
  have e3 := heap_alloc_new ((W.alloc (.map #[] 0)).alloc (.cells (shCells (cnt l) P (some W.heap.size)) 130)) (.cells #[.pointer (some ⟨W.heap.size + 1, 0, none⟩)] 86)
  simp only [World.size_alloc] at e2 e3
  refine ⟨((h.alloc hz _).alloc (by simp; omega) _).alloc (by simp; omega) _, ?_, ?_, e3, hz, by omega, by omega⟩
  · rw [Below.heap_alloc _ _ _ (by simp; omega), Below.heap_alloc _ _ _ (by simp)]; exact e1
  · rw [Below.heap_alloc _ _ _ (by simp)]; exact e2
theorem copyMid2 (w : World) (P : Nat) (l : List Int) (W : World) (h : Below w.heap.size w W) : CopyMid w P l W.heap.size (W.heap.size + 1 + 1) (W.heap.size + 1)
    (((W.alloc (.map #[] 0)).alloc (.cells #[.pointer (some ⟨W.heap.size + 1 + 1, 0, none⟩)] 86)).alloc (.cells (shCells (cnt l) P (some W.heap.size)) 130)) := by
  have hz := h.size
  have e1 := heap_alloc_new W (.map #[] 0)
  have e2 := heap_alloc_new (W.alloc (.map #[] 0)) (.cells #[.pointer (some ⟨W.heap.size + 1 + 1, 0, none⟩)] 86)
  have e3 := heap_alloc_new ((W.alloc (.map #[] 0)).alloc (.cells #[.pointer (some ⟨W.heap.size + 1 + 1, 0, none⟩)] 86)) (.cells (shCells (cnt l) P (some W.heap.size)) 130)
  simp only [World.size_alloc] at e2 e3
  refine ⟨((h.alloc hz _).alloc (by simp; omega) _).alloc (by simp; omega) _, ?_, e3, ?_, hz, by omega, by omega⟩
  · rw [Below.heap_alloc _ _ _ (by simp; omega), Below.heap_alloc _ _ _ (by simp)]; exact e1
  · rw [Below.heap_alloc _ _ _ (by simp)]; exact e2
theorem copyMid3 (w : World) (P : Nat) (l : List Int) (W : World) (h : Below w.heap.size w W) : CopyMid w P l (W.heap.size + 1) (W.heap.size + 1 + 1) W.heap.size
    (((W.alloc (.cells #[.pointer (some ⟨W.heap.size + 1 + 1, 0, none⟩)] 86)).alloc (.map #[] 0)).alloc (.cells (shCells (cnt l) P (some (W.heap.size + 1))) 130)) := by
  have hz := h.size
  have e1 := heap_alloc_new W (.cells #[.pointer (some ⟨W.heap.size + 1 + 1, 0, none⟩)] 86)
  have e2 := heap_alloc_new (W.alloc (.cells #[.pointer (some ⟨W.heap.size + 1 + 1, 0, none⟩)] 86)) (.map #[] 0)
  have e3 := heap_alloc_new ((W.alloc (.cells #[.pointer (some ⟨W.heap.size + 1 + 1, 0, none⟩)] 86)).alloc (.map #[] 0)) (.cells (shCells (cnt l) P (some (W.heap.size + 1))) 130)
  simp only [World.size_alloc] at e2 e3
  refine ⟨((h.alloc hz _).alloc (by simp; omega) _).alloc (by simp; omega) _, ?_, e3, ?_, by omega, by omega, hz⟩
  · rw [Below.heap_alloc _ _ _ (by simp)]; exact e2
  · rw [Below.heap_alloc _ _ _ (by simp; omega), Below.heap_alloc _ _ _ (by simp)]; exact e1

/-! ### many cells at once, in a round -/
section
variable {F : Fence} {nF : Nat} {P : Program} {w : World} {ops : Array Oper} {rest : List Oper} {o : Oper} {a : Act} {Q : Exit → Act → World → Prop}
theorem load_many (hg : o.guard = none) (ty : TypeId) (x : Operand) (hop : o.op = Op.load ty x) (b k : Nat) (hx : a.eval x = .pointer (some ⟨b, k, none⟩)) (cs : List Value) (d : TypeDesc) (hc : w.rangeAt b k cs)
    (hu : P.underlying ty = some d) (hd : d.isRow = true) (hi : (P.info? ty).map (·.size) = some cs.length) (hK : wpListIn F nF P ops Q rest (a.put o.dst (.agg cs.toArray)) w) : wpListIn F nF P ops Q (o :: rest) a w := by
  refine wpListIn_plain hg fun K' hK' => ?_
  unfold Oper.wpIn
  refine ⟨by simp [Oper.about, hop], ?_⟩
  rw [Oper.semAt_plain F _ _ (by rw [hop]; intro c hc'; cases hc')]
  simp only [execOp, hop, hx, Instr.loadAt, Instr.sureAddr, Sem.run_bind, Sem.run_pure, Result.andThen_ok, run_loadVar_mid w b k ty cs d hc hu hd hi]
  exact hK' _ _ hK
theorem store_many (hg : o.guard = none) (ty : TypeId) (x y : Operand) (hop : o.op = Op.store ty x y) (b k : Nat) (cs : Array Value) (hx : a.eval x = .pointer (some ⟨b, k, none⟩)) (hy : a.eval y = .agg cs)
    (ht : w.there b k cs.size) (hi : (P.info? ty).map (·.size) = some cs.size) (h1 : cs.all (·.oneCell') = true) (hK : wpListIn F nF P ops Q rest (a.put o.dst undef) (w.setCells b k cs.toList)) : wpListIn F nF P ops Q (o :: rest) a w := by
  refine wpListIn_plain hg fun K' hK' => ?_
  unfold Oper.wpIn
  refine ⟨by simp [Oper.about, hop], ?_⟩
  rw [Oper.semAt_plain F _ _ (by rw [hop]; intro c hc'; cases hc')]
  simp only [execOp, hop, hx, hy, Instr.storeAt, Instr.sureAddr, Sem.run_bind, Sem.run_pure, Result.andThen_ok, run_storeVar_mid w b k ty cs ht hi h1]
  exact hK' _ _ hK
end
theorem setCells_other (b : Nat) : ∀ (vs : List Value) (k : Nat) (w : World) (j : Nat), j ≠ b → (w.setCells b k vs).heap[j]? = w.heap[j]?
  | [], _, _, _, _ => rfl
  | v :: r, k, w, j, hj => by rw [World.setCells, setCells_other b r (k + 1) _ j hj, Below.heap_setCell _ _ _ _ hj]
theorem setCells_same (b : Nat) : ∀ (vs : List Value) (k : Nat) (w : World) (arr : Array Value) (t : TypeId) (fr : Nat × Nat), w.heap[b]? = some (.cells arr t fr) →
    ∃ arr' : Array Value, (w.setCells b k vs).heap[b]? = some (.cells arr' t fr) ∧ arr'.size = arr.size ∧ ∀ i, arr'[i]? = if k ≤ i ∧ i < k + vs.length ∧ i < arr.size then vs[i - k]? else arr[i]?
  | [], k, w, arr, t, fr, h => ⟨arr, h, rfl, fun i => by rw [if_neg (by simp; omega)]⟩
  | v :: r, k, w, arr, t, fr, h => by
    obtain ⟨arr', h1, h2, h3⟩ := setCells_same b r (k + 1) _ _ t fr (set_cells (k := k) h v)
    refine ⟨arr', h1, by rw [h2]; simp, fun i => ?_⟩
    rw [h3 i]
    simp only [Array.size_setIfInBounds, List.length_cons]
    by_cases e : i = k
    · subst e
      rw [if_neg (by omega)]
      by_cases hi : i < arr.size
      · rw [if_pos (by omega), Array.getElem?_setIfInBounds_self_of_lt hi]; simp
      · rw [if_neg (by omega), Array.getElem?_eq_none (by simp; omega), Array.getElem?_eq_none (by omega)]
    · by_cases e2 : k + 1 ≤ i ∧ i < k + 1 + r.length ∧ i < arr.size
      · rw [if_pos e2, if_pos (by omega), show i - k = (i - (k + 1)) + 1 by omega]; simp
      · rw [if_neg e2, if_neg (by omega), Array.getElem?_setIfInBounds_ne (by omega)]
theorem setCells_whole {w : World} {b : Nat} {arr : Array Value} {t : TypeId} {fr : Nat × Nat} (h : w.heap[b]? = some (.cells arr t fr)) (vs : List Value) (hl : vs.length = arr.size) : (w.setCells b 0 vs).heap[b]? = some (.cells vs.toArray t fr) := by
  obtain ⟨arr', h1, h2, h3⟩ := setCells_same b vs 0 w arr t fr h
  rw [h1]
  have : arr' = vs.toArray := by
    refine Array.ext_getElem? fun i => ?_
    rw [h3 i]
    by_cases hi : i < arr.size
    · rw [if_pos ⟨by omega, by omega, hi⟩]; simp
    · rw [if_neg (by omega), Array.getElem?_eq_none (by omega), Array.getElem?_eq_none (by simp; omega)]
  rw [this]

/-- A whole new block is filled. -/
theorem fill_new (w : World) (cs : List Value) (t : TypeId) (hl : cs.length = 64) (h1 : ∀ v ∈ cs, v.oneCell' = true) : ∃ w2, (storeCells ⟨w.heap.size, 0, none⟩ cs).run Try.prog (w.alloc (.cells zPage t)) = .ok () w2 ∧
    w2.heap[w.heap.size]? = some (.cells cs.toArray t (0, 0)) ∧ Turned (fun _ => False) w w2 ∧ w2.heap.size = w.heap.size + 1 := by
  have hb := heap_alloc_new w (.cells zPage t)
  have hz : zPage.size = 64 := by simp [zPage]
  have hr : (storeCells ⟨w.heap.size, 0, none⟩ cs).run Try.prog (w.alloc (.cells zPage t)) = .ok () ((w.alloc (.cells zPage t)).setCells w.heap.size 0 cs) := by
    generalize w.alloc (.cells zPage t) = W0 at hb
    have := run_storeCells_cells (P := Try.prog) w.heap.size 0 cs 0 W0 (fun j hj => by simp only [World.cell?, hb]; simp [hz]; omega) (fun j hj => by simp [World.frozen?, hb]) h1
    simpa using this
  refine ⟨_, hr, setCells_whole hb cs (by rw [hl, hz]), ?_, ?_⟩
  · have hs : ∀ (vs : List Value) (k : Nat) (W : World), (W.setCells w.heap.size k vs).os = W.os ∧ (W.setCells w.heap.size k vs).tape = W.tape ∧ (W.setCells w.heap.size k vs).output = W.output ∧ (W.setCells w.heap.size k vs).heap.size = W.heap.size := fun vs => by
      induction vs with
      | nil => exact fun _ _ => ⟨rfl, rfl, rfl, rfl⟩
      | cons v r ih => intro k W; rw [World.setCells]; obtain ⟨e1, e2, e3, e4⟩ := ih (k + 1) (W.setCell ⟨w.heap.size, k, none⟩ v); exact ⟨e1, e2, e3, by rw [e4]; simp [World.setCell]⟩
    obtain ⟨e1, e2, e3, e4⟩ := hs cs 0 (w.alloc (.cells zPage t))
    exact ⟨e1, e2, e3, by rw [e4]; simp, fun k hk _ => by rw [setCells_other _ _ _ _ _ (by omega), Below.heap_alloc _ _ _ hk]⟩
  · have hs : ∀ (vs : List Value) (k : Nat) (W : World), (W.setCells w.heap.size k vs).heap.size = W.heap.size := fun vs => by
      induction vs with
      | nil => exact fun _ _ => rfl
      | cons v r ih => intro k W; rw [World.setCells, ih]; simp [World.setCell]
    rw [hs]; simp

/-! ### the loop -/
theorem A.infoP : (Try.prog.info? 128).map (·.size) = some 64 := by kernel_rfl
/-- What the new map holds when the pages pre have come. -/
structure CopyD (w : World) (l : List Int) (m : Nat) (pre : List Nat) (W : World) (G' : Nat → Nat) (D' : DataW Unit) : Prop where
  map : W.ownsMap Try.prog 3 ptrElem m pre.length D'
  has : ∀ k : Int, Maps.has D' (.int .i64 k) = decide (0 ≤ k ∧ k.toNat ∈ pre)
  at_ : ∀ p ∈ pre, ∀ z, D'.atKey (.int .i64 (p : Int)) z = .lit (.int .i64 (G' p : Int))
  size : Maps.size D' = pre.length
  page : ∀ p ∈ pre, W.heap[G' p]? = some (.cells ((pg l p).map (Value.int .u32)).toArray 128 (0, 0))
  inj : ∀ p ∈ pre, ∀ q ∈ pre, G' p = G' q → p = q
  lo : ∀ p ∈ pre, w.heap.size ≤ G' p
structure CopyI (w : World) (P : Nat) (l : List Int) (m s b : Nat) (pre : List Nat) (W : World) : Prop where
  below : Below w.heap.size w W
  blk : W.heap[s]? = some (.cells (shCells (cnt l) P (some m)) 130 (0, 0))
  box : W.heap[b]? = some (.cells #[.pointer (some ⟨s, 0, none⟩)] 86 (0, 0))
  dat : ∃ G' D', CopyD w l m pre W G' D'
theorem copyI_own (w : World) (P : Nat) (l : List Int) (m s b : Nat) {B : Nat} (hB : w.heap.size ≤ B) (hm : m < B) : OwnFrom B (CopyI w P l m s b) := by
  intro pre W W' row hs hg hr
  have keep : ∀ {j : Nat} {o : Obj}, W.heap[j]? = some o → (j < B ∨ o.isCells = true) → W'.heap[j]? = some o := fun {j o} hj ho =>
    (hg.block j (Array.getElem?_eq_some_iff.1 hj).1 (fun e => by
      obtain ⟨h1, o', h2, h3⟩ := hr j e.symm
      rw [hj] at h2; cases h2
      rcases ho with ho | ho
      · omega
      · rw [ho] at h3; cases h3)).trans hj
  obtain ⟨h1, h2, h3, G', D', d⟩ := hs
  refine ⟨h1.grown hg (by have := h1.size; omega) (fun k e => by have := (hr k e).1; omega), keep h2 (.inr rfl), keep h3 (.inr rfl), G', D', ?_, d.has, d.at_, d.size, fun p hp => keep (d.page p hp) (.inr rfl), d.inj, d.lo⟩
  obtain ⟨es, clock, hb, r⟩ := d.map
  exact ⟨es, clock, keep hb (.inl hm), r⟩
theorem size_own (n B : Nat) : OwnFrom B (fun (_ : List Nat) W => n ≤ W.heap.size) := fun _ _ _ _ hs hg _ => Nat.le_trans hs hg.size
/-- A shadow's blocks are cells and a map. -/
theorem Sh.kind {w : World} {S P : Nat} {l : List Int} {F : Nat → Prop} (h : Sh w S P l F) {k : Nat} (hk : F k) {ds : Option (List Deferred)} (hd : w.heap[k]? = some (.deferred ds)) : False := by
  obtain ⟨mb, G, D, rfl, h⟩ := h
  rcases hk with rfl | rfl | ⟨p, hp, rfl⟩
  · rw [h.blk] at hd; cases hd
  · obtain ⟨es, c, hb⟩ := h.mapBlk; rw [hb] at hd; cases hd
  · rw [h.page p hp] at hd; cases hd
/-- One page more. -/
theorem CopyI.step {w : World} {P : Nat} {l : List Int} {m s b : Nat} {pre : List Nat} {W : World} (h : CopyI w P l m s b pre W) {p : Nat} (hp : p ∉ pre) {W3 : World} (hm : w.heap.size ≤ m) (hS : s ≠ m) (hb : b ≠ m) (t : Turned (fun j => j = m) W W3)
    (hg : W3.heap[W.heap.size]? = some (.cells ((pg l p).map (Value.int .u32)).toArray 128 (0, 0))) {D' : DataW Unit} {G' : Nat → Nat} (d : CopyD w l m pre W G' D') {n : Nat}
    (hown : W3.ownsMap Try.prog 3 ptrElem m n (D'.put (.int .i64 (p : Int)) (.lit (.int .i64 (W.heap.size : Int))))) : CopyI w P l m s b (pre ++ [p]) W3 := by
  have hD := d.map.isMap
  have hsz : Maps.size (D'.put (.int .i64 (p : Int)) (.lit (.int .i64 (W.heap.size : Int)))) = (pre ++ [p]).length := by
    rw [Maps.size_put (d.map.tidy numLaw), d.has, d.size]
    simp [hp]
  have lt : ∀ q ∈ pre, G' q < W.heap.size := fun q hq => (Array.getElem?_eq_some_iff.1 (d.page q hq)).1
  have nm : ∀ q ∈ pre, G' q ≠ m := fun q hq e => by
    obtain ⟨es, clock, hb', _⟩ := d.map
    have := d.page q hq
    rw [e, hb'] at this; cases this
  refine ⟨h.below.trans (t.below h.below.size (fun k e => by subst e; exact hm)), t.keep h.blk hS, t.keep h.box hb, fun q => if q = p then W.heap.size else G' q, _, map_tight hown (by rw [hsz]; exact Nat.le_refl _), fun k => ?_, fun q hq z => ?_, hsz, fun q hq => ?_, fun q hq r hr e => ?_, fun q hq => ?_⟩
  · by_cases e : k = (p : Int)
    · subst e; rw [Maps.has_put_same hD (isKey _)]; simp
    · rw [Maps.has_put_other (by simpa using e), d.has]
      by_cases h0 : 0 ≤ k
      · have : ¬ k.toNat = p := by omega
        simp [h0, this]
      · simp [h0]
  · by_cases e : q = p
    · subst e; rw [Maps.atKey_put_same hD (isKey _)]; simp
    · rw [Maps.atKey_put_other (by simp; omega), if_neg e]
      exact d.at_ q (by simpa [e] using hq) z
  · by_cases e : q = p
    · subst e; simpa using hg
    · have hq' : q ∈ pre := by simpa [e] using hq
      rw [if_neg e]
      exact t.keep (d.page q hq') (nm q hq')
  · simp only [List.mem_append, List.mem_singleton] at hq hr
    by_cases e1 : q = p <;> by_cases e2 : r = p
    · omega
    · have hr' : r ∈ pre := by simpa [e2] using hr
      have := lt r hr'
      simp [e1, e2] at e; omega
    · have hq' : q ∈ pre := by simpa [e1] using hq
      have := lt q hq'
      simp [e1, e2] at e; omega
    · simp [e1, e2] at e
      exact d.inj q (by simpa [e1] using hq) r (by simpa [e2] using hr) e
  · by_cases e : q = p
    · subst e; simp only [if_pos]; exact h.below.size
    · rw [if_neg e]; exact d.lo q (by simpa [e] using hq)
/-- All pages have come. -/
theorem CopyI.sh {w : World} {P : Nat} {l : List Int} {m s b : Nat} {W : World} (hb : Bytes P l) (h : CopyI w P l m s b (privs l P) W) (hm : w.heap.size ≤ m) (hs : w.heap.size ≤ s) : ∃ F', Sh W s P l F' ∧ ∀ k, F' k → w.heap.size ≤ k := by
  obtain ⟨h1, h2, h3, G', D', d⟩ := h
  have hmem : ∀ p, p ∈ privs l P ↔ priv l p = true := fun p => ⟨fun h => (mem_privs.1 h).2, fun h => mem_privs.2 ⟨priv_lt hb.len h, h⟩⟩
  refine ⟨_, ⟨m, G', D', rfl, hb, h2, d.map, ⟨fun k => ?_, fun p hp => d.at_ p ((hmem p).2 hp), d.size⟩, fun p hp => d.page p ((hmem p).2 hp), fun p q hp hq => d.inj p ((hmem p).2 hp) q ((hmem q).2 hq)⟩, ?_⟩
  · rw [d.has]; simp [hmem]
  · rintro k (rfl | rfl | ⟨p, hp, rfl⟩)
    · exact hs
    · exact hm
    · exact d.lo p ((hmem p).2 hp)

end Go.Proofs.Ytdpdoclhdjhjkaa.L3
namespace Go.Proofs.Ytdpdoclhdjhjkaa.L3
open Go.RowKit
set_option maxRecDepth 100000

def noDeferB (ops : Array Oper) : Bool := ops.all fun o => match o.op with | .defer _ => false | _ => true
theorem noDefer_spec {ops : Array Oper} (h : noDeferB ops = true) {j : Nat} {o : Oper} (ho : ops[j]? = some o) (c : Call) : o.op ≠ .defer c := by
  intro e
  have h1 := Array.all_eq_true_iff_forall_mem.1 h o (Array.mem_of_getElem? ho)
  simp [e] at h1

theorem take_step {c : Bool} {A B : Prop} (hc : c = true) (h : A) : if c = true then A else B := by rw [if_pos hc]; exact h

section
variable {P : Program} {ops : Array Oper} {md : Region.Mode} {Q : Exit → Act → World → Prop}

theorem rowsIn_round {n l : Nat} {row : String} {args : Array Value} {w : World} {R : Value → World → Prop} (h : Rows P row args w R) : RowsIn (Fence.wide.inRound l) n P row args w R :=
  fun c cs _ => let ⟨v, w', r, s⟩ := h c cs; ⟨v, w', r, stepsIn_wide.2 s⟩
theorem wpOpIn_of_op {n l i : Nat} {K : Act → World → Prop} {a : Act} {w : World} (hd : noDeferB ops = true) (hno : ∀ a w, ¬ Q .outgrown a w) (h : wpOp P ops Q i K a w) : wpOpIn (Fence.wide.inRound l) n P ops Q i K a w := by
  unfold wpOp at h
  unfold wpOpIn
  cases ho : ops[i]? with
  | none => simpa [ho] using h
  | some o =>
    simp only [ho] at h ⊢
    split
    · rename_i hw
      simp only [hw, if_true] at h
      rcases h with h | ⟨_, a', w', hq⟩
      · refine ⟨fun _ _ => trivial, ?_⟩
        have hs : o.semAt (Fence.wide.inRound l).round a.eval = execOp a.eval o := Oper.semAt_some l a.eval o (fun c => noDefer_spec hd ho c)
        rw [hs]
        unfold Oper.wp at h
        generalize (execOp a.eval o).run P w = r at h ⊢
        cases r with
        | ok x w1 =>
          cases x <;> simp only [Oper.upon] at h <;> simp only [Oper.uponIn]
          case value v => exact h
          case skip => exact h
          case defer d => exact h
          case enter f args =>
            refine ⟨fun hz => by simp [Fence.wide, Fence.inRound] at hz, CallsIn.inRound l (callsIn_wide.2 (h.mono fun e w2 he => ?_))⟩
            cases e <;> exact he
          case row row args => exact ⟨fun hz => by simp [Fence.wide, Fence.inRound] at hz, rowsIn_round h⟩
        | halt x w1 => cases x <;> simp only [Oper.upon] at h <;> simp only [Oper.uponIn] <;> exact h
      · exact absurd hq (hno _ _)
    · rename_i hw
      simp only [hw] at h
      exact ⟨fun _ _ => trivial, h⟩
theorem wpAnyIn_of_any {n l : Nat} (hd : noDeferB ops = true) (hno : ∀ a w, ¬ Q .outgrown a w) : ∀ (fuel : Nat) (listed : Array Bool) (a : Act) (w : World), wpAny P md ops Q fuel listed a w → wpAnyIn (Fence.wide.inRound l) n P md ops Q fuel listed a w
  | 0, _, _, _, h => h
  | fuel + 1, _, _, _, h => ⟨h.1, fun i hi => wpOpIn_mono (fun a' w' h' => wpAnyIn_of_any hd hno fuel _ a' w' h') (wpOpIn_of_op hd hno (h.2 i hi))⟩
/-- The region in a round, S shown of the world behind the draw. -/
theorem wpIn_region_round {n l id : Nat} {S : World → Prop} {a : Act} {w : World} (hm : P.follows .mixedOrders = true) (hd : noDeferB ops = true) (hno : ∀ a w, ¬ Q .outgrown a w)
    (h : wpAnyH P .any ops Q S ops.size (Array.replicate ops.size false) a w.drew) : (Code.region id ops true).wpIn (Fence.wide.inRound l) n P Q a w :=
  wpIn_region_any hm (wpAnyIn_of_any hd hno _ _ _ _ (wpAny_of_held _ _ _ _ h))
/-- The region in a round, nothing kept: each order for itself. -/
theorem wpIn_region_round_plain {n l id : Nat} {a : Act} {w : World} (hm : P.follows .mixedOrders = true) (hd : noDeferB ops = true) (hno : ∀ a w, ¬ Q .outgrown a w)
    (h : wpAny P .any ops Q ops.size (Array.replicate ops.size false) a w.drew) : (Code.region id ops true).wpIn (Fence.wide.inRound l) n P Q a w :=
  wpIn_region_any hm (wpAnyIn_of_any hd hno _ _ _ _ h)
theorem ready_shut {fuel : Nat} {listed : Array Bool} {a : Act} {w : World} {i : Nat} {o : Oper} {rs : List Nat} (ho : ops[i]? = some o)
    (h : ∀ K' : Act → World → Prop, Shut (∀ a w, wpAny P md ops Q fuel (listed.setIfInBounds i true) a w → K' a w) → if Region.wanted o (yielded ops a.tmps) = true then Oper.wp P o a w K' Q else K' (a.put o.dst undef) w)
    (hs : AllReady P md ops Q fuel listed a w rs) : AllReady P md ops Q fuel listed a w (i :: rs) := AllReady.cons ho h hs
end
end Go.Proofs.Ytdpdoclhdjhjkaa.L3
namespace Go.Proofs.Ytdpdoclhdjhjkaa.L3
set_option maxRecDepth 100000
open Go.RowKit Go.Shelf
set_option maxHeartbeats 1000000
set_option linter.unusedSimpArgs false
attribute [local go_sem] Oper.semAt_some

/-- A byte and its set. -/
abbrev eEnc (l : List Int) (i : Nat) : Array Value := #[.int .i64 (i : Int), .int .u32 (at0 l i)]
/-- The blocks K lie as they lay. -/
def Lies (K : Nat → Prop) (W2 W : World) : Prop := ∀ k, K k → W.heap[k]? = W2.heap[k]?
theorem lies_own {β : Type} {K : Nat → Prop} {W2 : World} {B : Nat} (hK : ∀ k, K k → k < B) (hB : B ≤ W2.heap.size) : OwnFrom B (fun (_ : β) W => Lies K W2 W) := fun _ W W' row hs hg hr k hk => by
  have h1 := hs k hk
  have h2 : k < W.heap.size := by
    have h3 : k < W2.heap.size := by have := hK k hk; omega
    rw [Array.getElem?_eq_getElem h3] at h1
    exact (Array.getElem?_eq_some_iff.1 h1).1
  exact (hg.block k h2 (fun e => by have := (hr k e.symm).1; have := hK k hk; omega)).trans h1
theorem Lies.lt {K : Nat → Prop} {W2 W : World} (h : Lies K W2 W) {k : Nat} (hk : K k) (hl : k < W2.heap.size) : k < W.heap.size := by
  have h1 := h k hk
  rw [Array.getElem?_eq_getElem hl] at h1
  exact (Array.getElem?_eq_some_iff.1 h1).1

end Go.Proofs.Ytdpdoclhdjhjkaa.L3
namespace Go.Proofs.Ytdpdoclhdjhjkaa.L3
set_option maxRecDepth 100000
open Go.RowKit Go.Shelf
set_option maxHeartbeats 1000000
set_option linter.unusedSimpArgs false

/-! ### two pages held against each other -/
theorem part_u32 (l : List Int) (i : Nat) (hi : i < l.length) (w : World) : (part 22 (l.map (Value.int .u32)).toArray i).run Try.prog w = .ok (.int .u32 (at0 l i)) w := by
  have u3 := Try.underlying22
  have hg : (l.map (Value.int .u32))[i]? = some (.int .u32 (at0 l i)) := by simp [at0, hi]
  unfold part
  go_simp
  simp [at0, hi]
theorem eq_u32 (a b : Int) (w : World) : (Op.equalIn 9999 22 (.int .u32 a) (.int .u32 b)).run Try.prog w = .ok (a == b) w := by
  rw [show (9999 : Nat) = 9998 + 1 from rfl, Op.equalIn]
  simp [Sem.run_bind, run_underlying Try.underlying22, Result.andThen_ok]
theorem size_u32 (w : World) : (sizeOf 22).run Try.prog w = .ok 1 w := by kernel_rfl
def eqFrom (l m : List Int) (s : Nat) : Nat → Bool
  | 0 => true
  | n + 1 => (at0 l s == at0 m s) && eqFrom l m (s + 1) n
theorem eq_loop (l m : List Int) (hl : l.length = 64) (hm : m.length = 64) (w : World) : ∀ (n s : Nat), s + n ≤ 64 →
    Sem.run Try.prog (forIn (List.range' s n) ((none, ()) : Option Bool × Unit) fun i __s => do
      let __do_lift ← part 22 (l.map (Value.int .u32)).toArray (i * 1)
      let __do_lift_1 ← part 22 (m.map (Value.int .u32)).toArray (i * 1)
      let __do_lift ← Op.equalIn 9999 22 __do_lift __do_lift_1
      if (!__do_lift) = true then pure (ForInStep.done (some false, ())) else pure (ForInStep.yield (none, ()))) w = .ok (if eqFrom l m s n = true then (none, ()) else (some false, ())) w
  | 0, s, _ => by simp [eqFrom]
  | n + 1, s, h => by
    rw [List.range'_succ, List.forIn_cons]
    simp only [Sem.run_bind, Nat.mul_one, part_u32 l s (by omega) w, part_u32 m s (by omega) w, eq_u32, Result.andThen_ok]
    have ih := eq_loop l m hl hm w n (s + 1) (by omega)
    simp only [Nat.mul_one] at ih
    by_cases e : at0 l s = at0 m s
    · simp only [e, beq_self_eq_true, Bool.not_true, Bool.false_eq_true, if_false, Sem.run_pure, Result.andThen_ok]
      rw [ih]
      simp [eqFrom, e]
    · have e' : (at0 l s == at0 m s) = false := by simpa using e
      simp [eqFrom, e']
theorem eqFrom_at {l m : List Int} : ∀ {n s : Nat}, eqFrom l m s n = true → ∀ i, s ≤ i → i < s + n → at0 l i = at0 m i
  | 0, s, _, i, h1, h2 => by omega
  | n + 1, s, h, i, h1, h2 => by
    simp [eqFrom] at h
    by_cases e : i = s
    · subst e; exact h.1
    · exact eqFrom_at h.2 i (by omega) (by omega)
theorem eqFrom_self (l : List Int) : ∀ n s, eqFrom l l s n = true
  | 0, _ => rfl
  | n + 1, s => by simp [eqFrom, eqFrom_self l n (s + 1)]
theorem eqFrom_iff {l m : List Int} (hl : l.length = 64) (hm : m.length = 64) : eqFrom l m 0 64 = decide (l = m) := by
  rw [Bool.eq_iff_iff, decide_eq_true_eq]
  constructor
  · intro h; exact ext_at (P := 1) (by omega) (by omega) (fun i hi => eqFrom_at h i (by omega) (by omega))
  · rintro rfl; exact eqFrom_self _ _ _
theorem eq_pages (l m : List Int) (hl : l.length = 64) (hm : m.length = 64) (w : World) :
    (Op.equalIn 10000 128 (.agg (l.map (Value.int .u32)).toArray) (.agg (m.map (Value.int .u32)).toArray)).run Try.prog w = .ok (decide (l = m)) w := by
  rw [show (10000 : Nat) = 9999 + 1 from rfl, Op.equalIn]
  simp only [Sem.run_bind, run_underlying Try.underlying128, Result.andThen_ok]
  simp only [Std.Legacy.Range.forIn_eq_forIn_range', Std.Legacy.Range.size, Nat.sub_zero, Nat.add_sub_cancel, Nat.div_one, size_u32, Result.andThen_ok]
  rw [eq_loop l m hl hm w 64 0 (by omega), eqFrom_iff hl hm]
  by_cases h : l = m <;> simp [h]
theorem guard_pages (x y : Operand) (xs ys : Array Value) (w : World) : (eqGuard .eql 128 x y (.agg xs) (.agg ys)).run Try.prog w = .ok () w := by
  have : Try.prog.eqGuardType Try.prog.depth 128 = false := by kernel_rfl
  unfold eqGuard
  simp [this]
theorem eql_pages (l m : List Int) (hl : l.length = 64) (hm : m.length = 64) (w : World) :
    (binOp .eql 128 (.agg (l.map (Value.int .u32)).toArray) (.agg (m.map (Value.int .u32)).toArray)).run Try.prog w = .ok (.bool (decide (l = m))) w := by
  simp [binOp, Op.equal, Op.maxDepth, eq_pages l m hl hm, Sem.run_bind, Result.andThen]
def Pg (w : World) (a : Nat) (l : List Int) : Prop := w.heap[a]? = some (.cells (l.map (Value.int .u32)).toArray 128 (0, 0)) ∧ l.length = 64
theorem Pg.range {w W : World} {a : Nat} {l : List Int} (h : Pg w a l) (hw : W.heap = w.heap) : W.rangeAt a 0 (l.map (Value.int .u32)) := fun j v hv => by
  have h1 := h.1
  rw [← hw] at h1
  rw [Nat.zero_add]
  simp only [World.cell?, h1]
  simpa using hv

end Go.Proofs.Ytdpdoclhdjhjkaa.L3
namespace Go.Proofs.Ytdpdoclhdjhjkaa.L3
set_option maxRecDepth 100000
open Go.RowKit Go.Shelf
set_option maxHeartbeats 1000000
set_option linter.unusedSimpArgs false

theorem privs_eq {P : Nat} {l m : List Int} (h : ∀ p, p < P → priv l p = true → priv m p = true) (hl : (privs l P).length = (privs m P).length) : privs l P = privs m P := by
  have hs : (privs l P).Sublist (privs m P) := by
    have e : privs l P = (privs m P).filter (priv l) := by
      unfold privs
      rw [List.filter_filter]
      refine List.filter_congr fun p hp => ?_
      rw [List.mem_range] at hp
      cases hq : priv l p with
      | true => simp [h p hp hq]
      | false => simp
    rw [e]; exact List.filter_sublist
  exact hs.eq_of_length hl
theorem shadows_eq {P : Nat} {l m : List Int} (h1 : l.length = 64 * P) (h2 : m.length = 64 * P) (hl : (privs l P).length = (privs m P).length) (h : ∀ p, priv l p = true → priv m p = true ∧ pg l p = pg m p) : l = m := by
  have hp := privs_eq (P := P) (fun p _ hq => (h p hq).1) hl
  refine ext_at h1 h2 fun i hi => ?_
  have e : i = 64 * (i / 64) + i % 64 := by omega
  cases hq : priv l (i / 64) with
  | true =>
    have a1 := at_pg h1 (show i / 64 < P by omega) (show i % 64 < 64 by omega)
    have a2 := at_pg h2 (show i / 64 < P by omega) (show i % 64 < 64 by omega)
    rw [(h _ hq).2, a2] at a1
    simp at a1
    rw [e]; exact a1.symm
  | false =>
    have hq2 : priv m (i / 64) = false := by
      cases hm : priv m (i / 64) with
      | false => rfl
      | true =>
        have : i / 64 ∈ privs m P := mem_privs.2 ⟨by omega, hm⟩
        rw [← hp, mem_privs, hq] at this
        cases this.2
    have a1 := not_priv h1 hq (show i % 64 < 64 by omega)
    have a2 := not_priv h2 hq2 (show i % 64 < 64 by omega)
    rw [← e] at a1 a2
    rw [a1, a2]
def ptrV (c : Option Addr) : Value := .pointer c
theorem ptr_shape {v : Value} {y : DataW Unit × List MemPlace} (h : ptrElem v = some y) : ∃ c, v = ptrV c := by
  unfold ptrElem at h
  split at h
  · exact ⟨_, rfl⟩
  · exact ⟨_, rfl⟩
  · cases h
/-- What has come of the range agrees. -/
def EqSo (l m : List Int) (left : Lit → Bool) : Prop := ∀ p : Nat, priv l p = true → left (.int .i64 (p : Int)) = false → priv m p = true ∧ pg l p = pg m p

/-! ### Same -/
end Go.Proofs.Ytdpdoclhdjhjkaa.L3

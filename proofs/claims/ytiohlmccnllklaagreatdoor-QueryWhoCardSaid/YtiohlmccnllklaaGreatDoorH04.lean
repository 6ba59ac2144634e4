/-
  Layer 3: Copy of package shadow: its drawn region, the loop over the private pages: walks. A region that draws its order, in the round of a loop over an iterator: what holds of it in the plain walk holds in the round. No program. Layer 3: All of package shadow: the iterator over the bytes that have sets, over the iterator of a copy's private pages: walks. Layer 3: Same of package shadow, alike, maps.EqualFunc over its maps: walks. Layer 3: maps.EqualFunc over two shadows' maps, alike, Same: walks. Layer 3: Fill and Set of package shadow, over the closure that each hands bytes to: walks.
-/
import Derived.Test.YtiohlmccnllklaaGreatDoorH03
import Derived.RegionTactic
import Derived.ChangeAlike
import Derived.Deep.RegionHeld3
import Derived.Deep.MidRow
import Derived.Maps.OwnIn
import Derived.RangeFuncNested
import Derived.RangeFuncCalls
import Derived.WalkKit
import Derived.OrdersHeld
import Derived.OrdersIn
import Derived.Deep.RegionHeld
import Derived.TacticsIn
import Derived.WalkMore
import Derived.Maps.RangeWalk
import Derived.Deep.QuietTactic
import Derived.BigQuiet
import Derived.Deep.RegionWith
set_option linter.unusedVariables false
set_option linter.unusedSimpArgs false
namespace Go.Proofs.YtiohlmccnllklaaGreatDoor.L3
set_option maxRecDepth 100000
open Go.RowKit Go.Shelf Go.ChangeMaps Go.MapKept
set_option maxHeartbeats 1000000
set_option linter.unusedSimpArgs false
attribute [local go_sem] Oper.semAt_some

def cntCells (l : List Int) : List Value := (List.range 32).map fun p => Value.int .i64 (cnt l p : Int)
theorem cntCells_len (l : List Int) : (cntCells l).length = 32 := by simp [cntCells]
theorem A.infoC : (Tryz.prog.info? 137).map (·.size) = some 32 := by kernel_rfl
theorem fold_cells0 (c : Nat → Nat) : List.foldl (fun cs (x : Value × Nat) => Array.setIfInBounds cs x.snd x.fst) (shCells (fun _ => 0) 0 none) ((List.range 32).map fun p => Value.int .i64 (c p : Int)).zipIdx = shCells c 0 none := by
  kernel_rfl
theorem fold_cells (l : List Int) : List.foldl (fun cs (x : Value × Nat) => Array.setIfInBounds cs x.snd x.fst) (shCells (fun _ => 0) 0 none) (cntCells l).zipIdx = shCells (cnt l) 0 none := fold_cells0 _
/-- A post that is met by going on alone. -/
def OnlyN (R : Act → World → Prop) : Exit → Act → World → Prop
  | .normal, a, w => R a w
  | _, _, _ => False
theorem wp_mid {P : Program} {c : Code} {Q : Exit → Act → World → Prop} {a : Act} {w : World} (R : Act → World → Prop) (h : c.wp P (OnlyN R) a w) (hq : ∀ a' w', R a' w' → Q .normal a' w') : c.wp P Q a w :=
  Code.wp_mono (fun e a' w' hR => by cases e <;> first | exact hq _ _ hR | exact (hR : False).elim) h
/-- Behind the first statement of Copy: the map's block, the new shadow's, the variable's. -/
structure CopyMid (w : World) (P : Nat) (l : List Int) (m s b : Nat) (W : World) : Prop where
  below : Below w.heap.size w W
  map : W.heap[m]? = some (.map #[] 0)
  blk : W.heap[s]? = some (.cells (shCells (cnt l) P (some m)) 141 (0, 0))
  box : W.heap[b]? = some (.cells #[.pointer (some ⟨s, 0, none⟩)] 75 (0, 0))
  lm : w.heap.size ≤ m
  ls : w.heap.size ≤ s
  lb : w.heap.size ≤ b
theorem copyMid1 (w : World) (P : Nat) (l : List Int) (W : World) (h : Below w.heap.size w W) : CopyMid w P l W.heap.size (W.heap.size + 1) (W.heap.size + 1 + 1)
    (((W.alloc (.map #[] 0)).alloc (.cells (shCells (cnt l) P (some W.heap.size)) 141)).alloc (.cells #[.pointer (some ⟨W.heap.size + 1, 0, none⟩)] 75)) := by
  have hz := h.size
  have e1 := heap_alloc_new W (.map #[] 0)
  have e2 := heap_alloc_new (W.alloc (.map #[] 0)) (.cells (shCells (cnt l) P (some W.heap.size)) 141)
  have e3 := heap_alloc_new ((W.alloc (.map #[] 0)).alloc (.cells (shCells (cnt l) P (some W.heap.size)) 141)) (.cells #[.pointer (some ⟨W.heap.size + 1, 0, none⟩)] 75)
  simp only [World.size_alloc] at e2 e3
  refine ⟨((h.alloc hz _).alloc (by simp; omega) _).alloc (by simp; omega) _, ?_, ?_, e3, hz, by omega, by omega⟩
  · rw [Below.heap_alloc _ _ _ (by simp; omega), Below.heap_alloc _ _ _ (by simp)]; exact e1
  · rw [Below.heap_alloc _ _ _ (by simp)]; exact e2
theorem copyMid2 (w : World) (P : Nat) (l : List Int) (W : World) (h : Below w.heap.size w W) : CopyMid w P l W.heap.size (W.heap.size + 1 + 1) (W.heap.size + 1)
    (((W.alloc (.map #[] 0)).alloc (.cells #[.pointer (some ⟨W.heap.size + 1 + 1, 0, none⟩)] 75)).alloc (.cells (shCells (cnt l) P (some W.heap.size)) 141)) := by
  have hz := h.size
  have e1 := heap_alloc_new W (.map #[] 0)
  have e2 := heap_alloc_new (W.alloc (.map #[] 0)) (.cells #[.pointer (some ⟨W.heap.size + 1 + 1, 0, none⟩)] 75)
  have e3 := heap_alloc_new ((W.alloc (.map #[] 0)).alloc (.cells #[.pointer (some ⟨W.heap.size + 1 + 1, 0, none⟩)] 75)) (.cells (shCells (cnt l) P (some W.heap.size)) 141)
  simp only [World.size_alloc] at e2 e3
  refine ⟨((h.alloc hz _).alloc (by simp; omega) _).alloc (by simp; omega) _, ?_, e3, ?_, hz, by omega, by omega⟩
  · rw [Below.heap_alloc _ _ _ (by simp; omega), Below.heap_alloc _ _ _ (by simp)]; exact e1
  · rw [Below.heap_alloc _ _ _ (by simp)]; exact e2
theorem copyMid3 (w : World) (P : Nat) (l : List Int) (W : World) (h : Below w.heap.size w W) : CopyMid w P l (W.heap.size + 1) (W.heap.size + 1 + 1) W.heap.size
    (((W.alloc (.cells #[.pointer (some ⟨W.heap.size + 1 + 1, 0, none⟩)] 75)).alloc (.map #[] 0)).alloc (.cells (shCells (cnt l) P (some (W.heap.size + 1))) 141)) := by
  have hz := h.size
  have e1 := heap_alloc_new W (.cells #[.pointer (some ⟨W.heap.size + 1 + 1, 0, none⟩)] 75)
  have e2 := heap_alloc_new (W.alloc (.cells #[.pointer (some ⟨W.heap.size + 1 + 1, 0, none⟩)] 75)) (.map #[] 0)
  have e3 := heap_alloc_new ((W.alloc (.cells #[.pointer (some ⟨W.heap.size + 1 + 1, 0, none⟩)] 75)).alloc (.map #[] 0)) (.cells (shCells (cnt l) P (some (W.heap.size + 1))) 141)
  simp only [World.size_alloc] at e2 e3
  refine ⟨((h.alloc hz _).alloc (by simp; omega) _).alloc (by simp; omega) _, ?_, e3, ?_, by omega, by omega, hz⟩
  · rw [Below.heap_alloc _ _ _ (by simp)]; exact e2
  · rw [Below.heap_alloc _ _ _ (by simp; omega), Below.heap_alloc _ _ _ (by simp)]; exact e1

/-! ### many cells at once, in a round -/
section
variable {F : Fence} {nF : Nat} {P : Program} {w : World} {ops : Array Oper} {rest : List Oper} {o : Oper} {a : Act} {Q : Exit → Act → World → Prop}
theorem load_many (hg : o.guard = none) (ty : TypeId) (x : Operand) (hop : o.op = Op.load ty x) (b k : Nat) (hx : a.eval x = .pointer (some ⟨b, k, none⟩)) (cs : List Value) (d : TypeDesc) (hc : w.rangeAt b k cs)
    (hu : P.underlying ty = some d) (hd : d.isRow = true) (hi : (P.info? ty).map (·.size) = some cs.length) (hK : wpListIn F nF P ops Q rest (a.put o.dst (.agg cs.toArray)) w) : wpListIn F nF P ops Q (o :: rest) a w := by
  refine wpListIn_plain hg fun K' hK' => ?_
  unfold Oper.wpIn
  refine ⟨by simp [Oper.about, hop], ?_⟩
  rw [Oper.semAt_plain F _ _ (by rw [hop]; intro c hc'; cases hc')]
  simp only [execOp, hop, hx, Instr.loadAt, Instr.sureAddr, Sem.run_bind, Sem.run_pure, Result.andThen_ok, run_loadVar_mid w b k ty cs d hc hu hd hi]
  exact hK' _ _ hK
theorem store_many (hg : o.guard = none) (ty : TypeId) (x y : Operand) (hop : o.op = Op.store ty x y) (b k : Nat) (cs : Array Value) (hx : a.eval x = .pointer (some ⟨b, k, none⟩)) (hy : a.eval y = .agg cs)
    (ht : w.there b k cs.size) (hi : (P.info? ty).map (·.size) = some cs.size) (h1 : cs.all (·.oneCell') = true) (hK : wpListIn F nF P ops Q rest (a.put o.dst undef) (w.setCells b k cs.toList)) : wpListIn F nF P ops Q (o :: rest) a w := by
  refine wpListIn_plain hg fun K' hK' => ?_
  unfold Oper.wpIn
  refine ⟨by simp [Oper.about, hop], ?_⟩
  rw [Oper.semAt_plain F _ _ (by rw [hop]; intro c hc'; cases hc')]
  simp only [execOp, hop, hx, hy, Instr.storeAt, Instr.sureAddr, Sem.run_bind, Sem.run_pure, Result.andThen_ok, run_storeVar_mid w b k ty cs ht hi h1]
  exact hK' _ _ hK
end
theorem setCells_other (b : Nat) : ∀ (vs : List Value) (k : Nat) (w : World) (j : Nat), j ≠ b → (w.setCells b k vs).heap[j]? = w.heap[j]?
  | [], _, _, _, _ => rfl
  | v :: r, k, w, j, hj => by rw [World.setCells, setCells_other b r (k + 1) _ j hj, Below.heap_setCell _ _ _ _ hj]
theorem setCells_same (b : Nat) : ∀ (vs : List Value) (k : Nat) (w : World) (arr : Array Value) (t : TypeId) (fr : Nat × Nat), w.heap[b]? = some (.cells arr t fr) →
    ∃ arr' : Array Value, (w.setCells b k vs).heap[b]? = some (.cells arr' t fr) ∧ arr'.size = arr.size ∧ ∀ i, arr'[i]? = if k ≤ i ∧ i < k + vs.length ∧ i < arr.size then vs[i - k]? else arr[i]?
  | [], k, w, arr, t, fr, h => ⟨arr, h, rfl, fun i => by rw [if_neg (by simp; omega)]⟩
  | v :: r, k, w, arr, t, fr, h => by
    obtain ⟨arr', h1, h2, h3⟩ := setCells_same b r (k + 1) _ _ t fr (set_cells (k := k) h v)
    refine ⟨arr', h1, by rw [h2]; simp, fun i => ?_⟩
    rw [h3 i]
    simp only [Array.size_setIfInBounds, List.length_cons]
    by_cases e : i = k
    · subst e
      rw [if_neg (by omega)]
      by_cases hi : i < arr.size
      · rw [if_pos (by omega), Array.getElem?_setIfInBounds_self_of_lt hi]; simp
      · rw [if_neg (by omega), Array.getElem?_eq_none (by simp; omega), Array.getElem?_eq_none (by omega)]
    · by_cases e2 : k + 1 ≤ i ∧ i < k + 1 + r.length ∧ i < arr.size
      · rw [if_pos e2, if_pos (by omega), show i - k = (i - (k + 1)) + 1 by omega]; simp
      · rw [if_neg e2, if_neg (by omega), Array.getElem?_setIfInBounds_ne (by omega)]
theorem setCells_whole {w : World} {b : Nat} {arr : Array Value} {t : TypeId} {fr : Nat × Nat} (h : w.heap[b]? = some (.cells arr t fr)) (vs : List Value) (hl : vs.length = arr.size) : (w.setCells b 0 vs).heap[b]? = some (.cells vs.toArray t fr) := by
  obtain ⟨arr', h1, h2, h3⟩ := setCells_same b vs 0 w arr t fr h
  rw [h1]
  have : arr' = vs.toArray := by
    refine Array.ext_getElem? fun i => ?_
    rw [h3 i]
    by_cases hi : i < arr.size
    · rw [if_pos ⟨by omega, by omega, hi⟩]; simp
    · rw [if_neg (by omega), Array.getElem?_eq_none (by omega), Array.getElem?_eq_none (by simp; omega)]
  rw [this]

/-- A whole new block is filled. -/
theorem fill_new (w : World) (cs : List Value) (t : TypeId) (hl : cs.length = 64) (h1 : ∀ v ∈ cs, v.oneCell' = true) : ∃ w2, (storeCells ⟨w.heap.size, 0, none⟩ cs).run Tryz.prog (w.alloc (.cells zPage t)) = .ok () w2 ∧
    w2.heap[w.heap.size]? = some (.cells cs.toArray t (0, 0)) ∧ Turned (fun _ => False) w w2 ∧ w2.heap.size = w.heap.size + 1 := by
  have hb := heap_alloc_new w (.cells zPage t)
  have hz : zPage.size = 64 := by simp [zPage]
  have hr : (storeCells ⟨w.heap.size, 0, none⟩ cs).run Tryz.prog (w.alloc (.cells zPage t)) = .ok () ((w.alloc (.cells zPage t)).setCells w.heap.size 0 cs) := by
    generalize w.alloc (.cells zPage t) = W0 at hb
    have := run_storeCells_cells (P := Tryz.prog) w.heap.size 0 cs 0 W0 (fun j hj => by simp only [World.cell?, hb]; simp [hz]; omega) (fun j hj => by simp [World.frozen?, hb]) h1
    simpa using this
  refine ⟨_, hr, setCells_whole hb cs (by rw [hl, hz]), ?_, ?_⟩
  · have hs : ∀ (vs : List Value) (k : Nat) (W : World), (W.setCells w.heap.size k vs).os = W.os ∧ (W.setCells w.heap.size k vs).tape = W.tape ∧ (W.setCells w.heap.size k vs).output = W.output ∧ (W.setCells w.heap.size k vs).heap.size = W.heap.size := fun vs => by
      induction vs with
      | nil => exact fun _ _ => ⟨rfl, rfl, rfl, rfl⟩
      | cons v r ih => intro k W; rw [World.setCells]; obtain ⟨e1, e2, e3, e4⟩ := ih (k + 1) (W.setCell ⟨w.heap.size, k, none⟩ v); exact ⟨e1, e2, e3, by rw [e4]; simp [World.setCell]⟩
    obtain ⟨e1, e2, e3, e4⟩ := hs cs 0 (w.alloc (.cells zPage t))
    exact ⟨e1, e2, e3, by rw [e4]; simp, fun k hk _ => by rw [setCells_other _ _ _ _ _ (by omega), Below.heap_alloc _ _ _ hk]⟩
  · have hs : ∀ (vs : List Value) (k : Nat) (W : World), (W.setCells w.heap.size k vs).heap.size = W.heap.size := fun vs => by
      induction vs with
      | nil => exact fun _ _ => rfl
      | cons v r ih => intro k W; rw [World.setCells, ih]; simp [World.setCell]
    rw [hs]; simp

/-! ### the loop -/
theorem A.infoP : (Tryz.prog.info? 139).map (·.size) = some 64 := by kernel_rfl
/-- What the new map holds when the pages pre have come. -/
structure CopyD (w : World) (l : List Int) (m : Nat) (pre : List Nat) (W : World) (G' : Nat → Nat) (D' : DataW Unit) : Prop where
  map : W.ownsMap Tryz.prog 3 ptrElem m pre.length D'
  has : ∀ k : Int, Maps.has D' (.int .i64 k) = decide (0 ≤ k ∧ k.toNat ∈ pre)
  at_ : ∀ p ∈ pre, ∀ z, D'.atKey (.int .i64 (p : Int)) z = .lit (.int .i64 (G' p : Int))
  size : Maps.size D' = pre.length
  page : ∀ p ∈ pre, W.heap[G' p]? = some (.cells ((pg l p).map (Value.int .u32)).toArray 139 (0, 0))
  inj : ∀ p ∈ pre, ∀ q ∈ pre, G' p = G' q → p = q
  lo : ∀ p ∈ pre, w.heap.size ≤ G' p
structure CopyI (w : World) (P : Nat) (l : List Int) (m s b : Nat) (pre : List Nat) (W : World) : Prop where
  below : Below w.heap.size w W
  blk : W.heap[s]? = some (.cells (shCells (cnt l) P (some m)) 141 (0, 0))
  box : W.heap[b]? = some (.cells #[.pointer (some ⟨s, 0, none⟩)] 75 (0, 0))
  dat : ∃ G' D', CopyD w l m pre W G' D'
theorem copyI_own (w : World) (P : Nat) (l : List Int) (m s b : Nat) {B : Nat} (hB : w.heap.size ≤ B) (hm : m < B) : OwnFrom B (CopyI w P l m s b) := by
  intro pre W W' row hs hg hr
  have keep : ∀ {j : Nat} {o : Obj}, W.heap[j]? = some o → (j < B ∨ o.isCells = true) → W'.heap[j]? = some o := fun {j o} hj ho =>
    (hg.block j (Array.getElem?_eq_some_iff.1 hj).1 (fun e => by
      obtain ⟨h1, o', h2, h3⟩ := hr j e.symm
      rw [hj] at h2; cases h2
      rcases ho with ho | ho
      · omega
      · rw [ho] at h3; cases h3)).trans hj
  obtain ⟨h1, h2, h3, G', D', d⟩ := hs
  refine ⟨h1.grown hg (by have := h1.size; omega) (fun k e => by have := (hr k e).1; omega), keep h2 (.inr rfl), keep h3 (.inr rfl), G', D', ?_, d.has, d.at_, d.size, fun p hp => keep (d.page p hp) (.inr rfl), d.inj, d.lo⟩
  obtain ⟨es, clock, hb, r⟩ := d.map
  exact ⟨es, clock, keep hb (.inl hm), r⟩
theorem size_own (n B : Nat) : OwnFrom B (fun (_ : List Nat) W => n ≤ W.heap.size) := fun _ _ _ _ hs hg _ => Nat.le_trans hs hg.size
/-- A shadow's blocks are cells and a map. -/
theorem Sh.kind {w : World} {S P : Nat} {l : List Int} {F : Nat → Prop} (h : Sh w S P l F) {k : Nat} (hk : F k) {ds : Option (List Deferred)} (hd : w.heap[k]? = some (.deferred ds)) : False := by
  obtain ⟨mb, G, D, rfl, h⟩ := h
  rcases hk with rfl | rfl | ⟨p, hp, rfl⟩
  · rw [h.blk] at hd; cases hd
  · obtain ⟨es, c, hb⟩ := h.mapBlk; rw [hb] at hd; cases hd
  · rw [h.page p hp] at hd; cases hd
/-- One page more. -/
theorem CopyI.step {w : World} {P : Nat} {l : List Int} {m s b : Nat} {pre : List Nat} {W : World} (h : CopyI w P l m s b pre W) {p : Nat} (hp : p ∉ pre) {W3 : World} (hm : w.heap.size ≤ m) (hS : s ≠ m) (hb : b ≠ m) (t : Turned (fun j => j = m) W W3)
    (hg : W3.heap[W.heap.size]? = some (.cells ((pg l p).map (Value.int .u32)).toArray 139 (0, 0))) {D' : DataW Unit} {G' : Nat → Nat} (d : CopyD w l m pre W G' D') {n : Nat}
    (hown : W3.ownsMap Tryz.prog 3 ptrElem m n (D'.put (.int .i64 (p : Int)) (.lit (.int .i64 (W.heap.size : Int))))) : CopyI w P l m s b (pre ++ [p]) W3 := by
  have hD := d.map.isMap
  have hsz : Maps.size (D'.put (.int .i64 (p : Int)) (.lit (.int .i64 (W.heap.size : Int)))) = (pre ++ [p]).length := by
    rw [Maps.size_put (d.map.tidy numLaw), d.has, d.size]
    simp [hp]
  have lt : ∀ q ∈ pre, G' q < W.heap.size := fun q hq => (Array.getElem?_eq_some_iff.1 (d.page q hq)).1
  have nm : ∀ q ∈ pre, G' q ≠ m := fun q hq e => by
    obtain ⟨es, clock, hb', _⟩ := d.map
    have := d.page q hq
    rw [e, hb'] at this; cases this
  refine ⟨h.below.trans (t.below h.below.size (fun k e => by subst e; exact hm)), t.keep h.blk hS, t.keep h.box hb, fun q => if q = p then W.heap.size else G' q, _, map_tight hown (by rw [hsz]; exact Nat.le_refl _), fun k => ?_, fun q hq z => ?_, hsz, fun q hq => ?_, fun q hq r hr e => ?_, fun q hq => ?_⟩
  · by_cases e : k = (p : Int)
    · subst e; rw [Maps.has_put_same hD (isKey _)]; simp
    · rw [Maps.has_put_other (by simpa using e), d.has]
      by_cases h0 : 0 ≤ k
      · have : ¬ k.toNat = p := by omega
        simp [h0, this]
      · simp [h0]
  · by_cases e : q = p
    · subst e; rw [Maps.atKey_put_same hD (isKey _)]; simp
    · rw [Maps.atKey_put_other (by simp; omega), if_neg e]
      exact d.at_ q (by simpa [e] using hq) z
  · by_cases e : q = p
    · subst e; simpa using hg
    · have hq' : q ∈ pre := by simpa [e] using hq
      rw [if_neg e]
      exact t.keep (d.page q hq') (nm q hq')
  · simp only [List.mem_append, List.mem_singleton] at hq hr
    by_cases e1 : q = p <;> by_cases e2 : r = p
    · omega
    · have hr' : r ∈ pre := by simpa [e2] using hr
      have := lt r hr'
      simp [e1, e2] at e; omega
    · have hq' : q ∈ pre := by simpa [e1] using hq
      have := lt q hq'
      simp [e1, e2] at e; omega
    · simp [e1, e2] at e
      exact d.inj q (by simpa [e1] using hq) r (by simpa [e2] using hr) e
  · by_cases e : q = p
    · subst e; simp only [if_pos]; exact h.below.size
    · rw [if_neg e]; exact d.lo q (by simpa [e] using hq)
/-- All pages have come. -/
theorem CopyI.sh {w : World} {P : Nat} {l : List Int} {m s b : Nat} {W : World} (hb : Bytes P l) (h : CopyI w P l m s b (privs l P) W) (hm : w.heap.size ≤ m) (hs : w.heap.size ≤ s) : ∃ F', Sh W s P l F' ∧ ∀ k, F' k → w.heap.size ≤ k := by
  obtain ⟨h1, h2, h3, G', D', d⟩ := h
  have hmem : ∀ p, p ∈ privs l P ↔ priv l p = true := fun p => ⟨fun h => (mem_privs.1 h).2, fun h => mem_privs.2 ⟨priv_lt hb.len h, h⟩⟩
  refine ⟨_, ⟨m, G', D', rfl, hb, h2, d.map, ⟨fun k => ?_, fun p hp => d.at_ p ((hmem p).2 hp), d.size⟩, fun p hp => d.page p ((hmem p).2 hp), fun p q hp hq => d.inj p ((hmem p).2 hp) q ((hmem q).2 hq)⟩, ?_⟩
  · rw [d.has]; simp [hmem]
  · rintro k (rfl | rfl | ⟨p, hp, rfl⟩)
    · exact hs
    · exact hm
    · exact d.lo p ((hmem p).2 hp)

set_option maxRecDepth 100000 in
theorem Copy_any {w : World} {S P mb : Nat} {l : List Int} {G : Nat → Nat} {D : DataW Unit} (h : ShIs w S mb P l G D) :
    Calls Tryz.prog 75 #[.pointer (some ⟨S, 0, none⟩)] w fun e w' => ∃ S' F', e = .returned (.pointer (some ⟨S', 0, none⟩)) ∧ Sh w' S' P l F' ∧ (∀ k, F' k → w.heap.size ≤ k) ∧ Below w.heap.size w w' := by
  have hmo : Tryz.prog.follows .mixedOrders = true := by kernel_rfl
  obtain ⟨c2, c3, _⟩ := h.cells
  have hlo := h.bytes.lo
  have hSl := h.lt S (.inl rfl)
  have hmm := @run_makeMap Tryz.prog
  have hz := zero_sh
  have hs := shCells_size
  have hn := shCells_new (cnt l) 0 P none
  have hcl := cntCells_len l
  have hfold := fold_cells l
  have hr : ∀ W, Below w.heap.size w W → W.rangeAt S 0 (cntCells l) := fun W hW j v hv => by
    have hS : ShIs W S mb P l G D := h.kept' fun k hk => hW.block k (h.lt k hk)
    have hj : j < 32 := by have := (List.getElem?_eq_some_iff.1 hv).1; rwa [hcl] at this
    rw [Nat.zero_add, (hS.cellCnt hj).1]
    simp [cntCells, hj] at hv
    rw [hv]
  have hp : ∀ W, Below w.heap.size w W → W.cell? ⟨S, 32, none⟩ = some (.int .i64 (P : Int)) := fun W hW => (ShIs.cells (h.kept' (w' := W) fun k hk => hW.block k (h.lt k hk))).1
  refine (callsIn_wide (n := 5)).1 ?_
  refine callsIn_of_wp_marks Tryz.func75 rfl trivial ?_ rfl
  refine wpIn_wide.2 ?_
  simp only [Tryz.ntmps75, List.size_toArray, List.length_cons, List.length_nil, Nat.reduceAdd, Nat.reduceSub, Array.replicate_succ, Array.replicate_zero, List.push_toArray, List.append_toArray, List.nil_append, List.cons_append]
  go_wp2_with (go_at_call 111; refine (none_some S P _ c2 hlo).mono ?_; rintro e w1 ⟨rfl, rfl⟩)
  refine wp_mid (fun a' W => ∃ m s b : Nat, a' = { tmps := #[.pointer (some ⟨S, 0, none⟩), undef, .pointer none, .pointer (some ⟨b, 0, none⟩), undef, undef, undef, .pointer (some ⟨S, 0, none⟩), .bool false, .pointer (some ⟨S, 0, none⟩), .pointer (some ⟨S, 0, none⟩), .pointer (some ⟨S, 0, none⟩), .agg (cntCells l).toArray, .pointer (some ⟨S, 0, none⟩), .pointer (some ⟨S, 0, none⟩), .pointer (some ⟨S, 32, none⟩), .int .i64 (P : Int), .map (some m), .agg (shCells (cnt l) P (some m)), .pointer (some ⟨s, 0, none⟩), undef, undef, undef, undef, undef, undef, undef, undef, undef, undef, undef, undef, undef], defers := [] } ∧ CopyMid w P l m s b W) ?reg ?rest
  case reg =>
    refine wp_region_held (S := Below w.heap.size w) hmo ?_
    have hS0 : Below w.heap.size w w.drew := (Below.refl _ _).drew
    change wpAnyH _ _ _ _ _ _ _ _ w.drew
    obtain ⟨w0, hw0⟩ : ∃ w0, w0 = w.drew := ⟨_, rfl⟩
    rw [← hw0] at hS0 ⊢
    clear hw0
    have hsz := hS0.size
    refine wpAnyH_take (i := 0) (v := .pointer (some ⟨S, 0, none⟩)) rfl (by kernel_rfl) (by kernel_rfl) (by kernel_rfl) (fun _ _ _ h => h) (.inl ⟨by rfl, fun W hW => by go_simp⟩) hS0 ?_
    try simp only [Act.put, List.setIfInBounds_toArray, List.set_cons_zero, List.set_cons_succ]
    refine wpAnyH_take (i := 1) (v := .pointer (some ⟨S, 0, none⟩)) rfl (by kernel_rfl) (by kernel_rfl) (by kernel_rfl) (fun _ _ _ h => h) (.inl ⟨by rfl, fun W hW => by go_simp⟩) hS0 ?_
    try simp only [Act.put, List.setIfInBounds_toArray, List.set_cons_zero, List.set_cons_succ]
    refine wpAnyH_take (i := 2) (v := .pointer (some ⟨S, 0, none⟩)) rfl (by kernel_rfl) (by kernel_rfl) (by kernel_rfl) (fun _ _ _ h => h) (.inl ⟨by rfl, fun W hW => by go_simp⟩) hS0 ?_
    try simp only [Act.put, List.setIfInBounds_toArray, List.set_cons_zero, List.set_cons_succ]
    refine wpAnyH_take (i := 3) (v := .agg (cntCells l).toArray) rfl (by kernel_rfl) (by kernel_rfl) (by kernel_rfl) (fun _ _ _ h => h) (yieldsIf_load_mid (by rfl) 137 _ rfl S 0 rfl (cntCells l) _ (fun W hW => hr W hW) Tryz.underlying137 rfl (by rw [A.infoC, cntCells_len])) hS0 ?_
    try simp only [Act.put, List.setIfInBounds_toArray, List.set_cons_zero, List.set_cons_succ]
    refine wpAnyH_take (i := 4) (v := .pointer (some ⟨S, 0, none⟩)) rfl (by kernel_rfl) (by kernel_rfl) (by kernel_rfl) (fun _ _ _ h => h) (.inl ⟨by rfl, fun W hW => by go_simp⟩) hS0 ?_
    try simp only [Act.put, List.setIfInBounds_toArray, List.set_cons_zero, List.set_cons_succ]
    refine wpAnyH_take (i := 5) (v := .pointer (some ⟨S, 0, none⟩)) rfl (by kernel_rfl) (by kernel_rfl) (by kernel_rfl) (fun _ _ _ h => h) (.inl ⟨by rfl, fun W hW => by go_simp⟩) hS0 ?_
    try simp only [Act.put, List.setIfInBounds_toArray, List.set_cons_zero, List.set_cons_succ]
    refine wpAnyH_take (i := 6) (v := .pointer (some ⟨S, 32, none⟩)) rfl (by kernel_rfl) (by kernel_rfl) (by kernel_rfl) (fun _ _ _ h => h) (.inl ⟨by rfl, fun W hW => by go_simp⟩) hS0 ?_
    try simp only [Act.put, List.setIfInBounds_toArray, List.set_cons_zero, List.set_cons_succ]
    refine wpAnyH_take (i := 7) (v := .int .i64 (P : Int)) rfl (by kernel_rfl) (by kernel_rfl) (by kernel_rfl) (fun _ _ _ h => h) (.inl ⟨by rfl, fun W hW => by have := hp W hW; go_simp⟩) hS0 ?_
    try simp only [Act.put, List.setIfInBounds_toArray, List.set_cons_zero, List.set_cons_succ]
    refine wpAnyH_all (rs := [8, 11]) (by kernel_rfl) (by simp) (fun i hi => ?_)
    simp only [List.mem_cons, List.not_mem_nil, or_false] at hi
    rcases hi with rfl | rfl
    · refine .inl ?_
      go_simp
      refine ⟨(hS0.alloc hsz _), ?_⟩
      try simp only [Act.put, List.setIfInBounds_toArray, List.set_cons_zero, List.set_cons_succ]
      refine wpAnyH_take (i := 9) (v := .agg (shCells (cnt l) P (some w0.heap.size))) rfl (by kernel_rfl) (by kernel_rfl) (by kernel_rfl) (fun _ _ _ h => h) (.inl ⟨by rfl, fun W hW => by go_simp⟩) (hS0.alloc hsz _) ?_
      try simp only [Act.put, List.setIfInBounds_toArray, List.set_cons_zero, List.set_cons_succ]
      refine wpAnyH_all (rs := [10, 11]) (by kernel_rfl) (by simp) (fun i hi => ?_)
      simp only [List.mem_cons, List.not_mem_nil, or_false] at hi
      rcases hi with rfl | rfl
      · refine .inl ?_
        go_simp
        refine ⟨((hS0.alloc hsz _).alloc (by simp; omega) _), ?_⟩
        try simp only [Act.put, List.setIfInBounds_toArray, List.set_cons_zero, List.set_cons_succ]
        refine wpAnyH_all (rs := [11]) (by kernel_rfl) (by simp) (fun i hi => ?_)
        simp only [List.mem_cons, List.not_mem_nil, or_false] at hi
        subst hi
        refine .inl ?_
        go_simp
        refine ⟨(((hS0.alloc hsz _).alloc (by simp; omega) _).alloc (by simp; omega) _), ?_⟩
        try simp only [Act.put, List.setIfInBounds_toArray, List.set_cons_zero, List.set_cons_succ]
        refine wpAnyH_all (rs := [12]) (by kernel_rfl) (by simp) (fun i hi => ?_)
        simp only [List.mem_cons, List.not_mem_nil, or_false] at hi
        subst hi
        refine .inl ?_
        go_simp
        refine ⟨(copyMid1 w P l w0 hS0).below, ?_⟩
        try simp only [Act.put, List.setIfInBounds_toArray, List.set_cons_zero, List.set_cons_succ]
        exact wpAnyH_done (by kernel_rfl) ⟨_, _, _, rfl, copyMid1 w P l w0 hS0⟩ _
      · refine .inl ?_
        go_simp
        refine ⟨((hS0.alloc hsz _).alloc (by simp; omega) _), ?_⟩
        try simp only [Act.put, List.setIfInBounds_toArray, List.set_cons_zero, List.set_cons_succ]
        refine wpAnyH_all (rs := [10]) (by kernel_rfl) (by simp) (fun i hi => ?_)
        simp only [List.mem_cons, List.not_mem_nil, or_false] at hi
        subst hi
        refine .inl ?_
        go_simp
        refine ⟨(((hS0.alloc hsz _).alloc (by simp; omega) _).alloc (by simp; omega) _), ?_⟩
        try simp only [Act.put, List.setIfInBounds_toArray, List.set_cons_zero, List.set_cons_succ]
        refine wpAnyH_all (rs := [12]) (by kernel_rfl) (by simp) (fun i hi => ?_)
        simp only [List.mem_cons, List.not_mem_nil, or_false] at hi
        subst hi
        refine .inl ?_
        go_simp
        refine ⟨(copyMid2 w P l w0 hS0).below, ?_⟩
        try simp only [Act.put, List.setIfInBounds_toArray, List.set_cons_zero, List.set_cons_succ]
        exact wpAnyH_done (by kernel_rfl) ⟨_, _, _, rfl, copyMid2 w P l w0 hS0⟩ _
    · refine .inl ?_
      go_simp
      refine ⟨(hS0.alloc hsz _), ?_⟩
      try simp only [Act.put, List.setIfInBounds_toArray, List.set_cons_zero, List.set_cons_succ]
      refine wpAnyH_all (rs := [8]) (by kernel_rfl) (by simp) (fun i hi => ?_)
      simp only [List.mem_cons, List.not_mem_nil, or_false] at hi
      subst hi
      refine .inl ?_
      go_simp
      refine ⟨((hS0.alloc hsz _).alloc (by simp; omega) _), ?_⟩
      try simp only [Act.put, List.setIfInBounds_toArray, List.set_cons_zero, List.set_cons_succ]
      refine wpAnyH_take (i := 9) (v := .agg (shCells (cnt l) P (some (w0.heap.size + 1)))) rfl (by kernel_rfl) (by kernel_rfl) (by kernel_rfl) (fun _ _ _ h => h) (.inl ⟨by rfl, fun W hW => by go_simp⟩) ((hS0.alloc hsz _).alloc (by simp; omega) _) ?_
      try simp only [Act.put, List.setIfInBounds_toArray, List.set_cons_zero, List.set_cons_succ]
      refine wpAnyH_all (rs := [10]) (by kernel_rfl) (by simp) (fun i hi => ?_)
      simp only [List.mem_cons, List.not_mem_nil, or_false] at hi
      subst hi
      refine .inl ?_
      go_simp
      refine ⟨(((hS0.alloc hsz _).alloc (by simp; omega) _).alloc (by simp; omega) _), ?_⟩
      try simp only [Act.put, List.setIfInBounds_toArray, List.set_cons_zero, List.set_cons_succ]
      refine wpAnyH_all (rs := [12]) (by kernel_rfl) (by simp) (fun i hi => ?_)
      simp only [List.mem_cons, List.not_mem_nil, or_false] at hi
      subst hi
      refine .inl ?_
      go_simp
      refine ⟨(copyMid3 w P l w0 hS0).below, ?_⟩
      try simp only [Act.put, List.setIfInBounds_toArray, List.set_cons_zero, List.set_cons_succ]
      exact wpAnyH_done (by kernel_rfl) ⟨_, _, _, rfl, copyMid3 w P l w0 hS0⟩ _
  case rest =>
    rintro _ W ⟨m, s, b, rfl, hm⟩
    go_wp2_with (go_at_call 112; refine (eachP_any _ _).mono ?_; rintro e w' ⟨rfl, rfl⟩)
    have hb := h.bytes
    have hA : Below w.heap.size w (W.alloc (.cells #[.pointer (some ⟨S, 0, none⟩)] 75)) := hm.below.alloc hm.below.size _
    have hShA : ShIs (W.alloc (.cells #[.pointer (some ⟨S, 0, none⟩)] 75)) S mb P l G D := h.kept' fun k hk => hA.block k (h.lt k hk)
    have lm : m < W.heap.size := (Array.getElem?_eq_some_iff.1 hm.map).1
    have ls : s < W.heap.size := (Array.getElem?_eq_some_iff.1 hm.blk).1
    have lb : b < W.heap.size := (Array.getElem?_eq_some_iff.1 hm.box).1
    have nsm : s ≠ m := fun e => by have := hm.blk; rw [e, hm.map] at this; cases this
    have nbm : b ≠ m := fun e => by have := hm.box; rw [e, hm.map] at this; cases this
    refine (wpIn_wide (n := 5)).1 (wp_over (gf := 124) (lb := #[.pointer (some ⟨W.heap.size, 0, none⟩)]) rfl (enters_of Tryz.func124 (by kernel_rfl) rfl)
      (eachP1_gives hShA W.heap.size (heap_alloc_new W _) (fun k => k = m) (by omega) (fun k hk => by have := h.lt k hk; have := hm.lm; omega)) (by rintro k rfl; simp; omega) (fun _ => rfl)
      (fun pre W1 => CopyI w P l m s b pre W1 ∧ W.heap.size + 1 ≤ W1.heap.size) (fun _ _ _ => False) ((copyI_own w P l m s b hA.size (by simp; omega)).and (size_own _ _)) (fun _ _ _ _ _ hs _ _ => hs)
      ⟨⟨hA, (Below.heap_alloc _ _ _ ls).trans hm.blk, (Below.heap_alloc _ _ _ lb).trans hm.box, G, _, ⟨World.ownsMap.alloc ⟨#[], 0, hm.map, ⟨by simp, stamped_empty 0, by simp⟩, Nat.le_refl _, rfl⟩ _, fun k => by simp [Maps.has], fun p hp => by simp at hp, rfl, fun p hp => by simp at hp, fun p hp => by simp at hp, fun p hp => by simp at hp⟩⟩, by simp⟩
      (fun p => { tmps := #[.pointer (some ⟨S, 0, none⟩), undef, .pointer none, .pointer (some ⟨b, 0, none⟩), .int .i64 (p : Int), .pointer (some ⟨G p, 0, none⟩), undef, .pointer (some ⟨S, 0, none⟩), .bool false, .pointer (some ⟨S, 0, none⟩), .pointer (some ⟨S, 0, none⟩), .pointer (some ⟨S, 0, none⟩), .agg (cntCells l).toArray, .pointer (some ⟨S, 0, none⟩), .pointer (some ⟨S, 0, none⟩), .pointer (some ⟨S, 32, none⟩), .int .i64 (P : Int), .map (some m), .agg (shCells (cnt l) P (some m)), .pointer (some ⟨s, 0, none⟩), .pointer (some ⟨S, 0, none⟩), eachV W.heap.size, .int .i64 (p : Int), .pointer (some ⟨G p, 0, none⟩), undef, undef, undef, undef, undef, undef, undef, undef, undef], defers := [] }) ?assign ?body ?done ?stop)
    case assign =>
      intro ll mm x W1 K hK
      gi_wp2
      exact hK
    case body =>
      rintro ll mm pre p rest W1 hf ⟨hI, hW1W⟩
      have hpm := mem_privs.1 (mem_mid hf)
      have hnot : p ∉ pre := by
        have hnd : (privs l P).Nodup := List.Pairwise.filter _ List.nodup_range
        rw [hf, List.nodup_append] at hnd
        intro hp
        exact hnd.2.2 p hp p (by simp) rfl
      obtain ⟨G', D', hd⟩ := hI.dat
      have hSh1 : ShIs W1 S mb P l G D := h.kept' fun k hk => hI.below.block k (h.lt k hk)
      have hrange : W1.rangeAt (G p) 0 ((pg l p).map (Value.int .u32)) := fun j v hv => by
        have hj : j < 64 := by have := (List.getElem?_eq_some_iff.1 hv).1; simpa [pg_len hb.len hpm.1] using this
        rw [Nat.zero_add, (hSh1.cellPage hpm.2 hj).1]
        simp [at_pg hb.len hpm.1 hj] at hv
        rw [hv]
      have hBx := hI.box
      obtain ⟨cb, _⟩ := boxed_cell hBx
      have cs : W1.cell? ⟨s, 33, none⟩ = some (.map (some m)) := by simp [World.cell?, hI.blk, shCells_map]
      have zp := zero_page
      have hlen : ((pg l p).map (Value.int .u32)).length = 64 := by simp [pg_len hb.len hpm.1]
      have HI := Lib.hid hI
      have HD := Lib.hid hd
      have HP := Lib.hid hpm
      clear hI hd hSh1 hBx
      obtain ⟨W2, hst, q1, q2, q3⟩ := fill_new W1 ((pg l p).map (Value.int .u32)) 139 hlen (fun v hv => by obtain ⟨x, _, rfl⟩ := List.mem_map.1 hv; rfl)
      have sm : W2.ownsMap Tryz.prog 3 ptrElem m pre.length D' := q2.map HD.out.map (fun e => e)
      have cs2 : W2.cell? ⟨s, 33, none⟩ = some (.map (some m)) := by simp [World.cell?, q2.keep HI.out.blk (fun e => e), shCells_map]
      obtain ⟨cb2, _⟩ := boxed_cell (q2.keep HI.out.box (fun e => e))
      have hpl : pre.length ≤ 32 := by
        have h1 : (privs l P).length ≤ (List.range P).length := List.length_filter_le _ _
        have h2 := hb.hi
        have h3 : (privs l P).length = pre.length + (rest.length + 1) := by rw [hf]; simp
        simp at h1; omega
      have key := key_int (x := (p : Int)) (wf_i64 (by omega) (by have := hb.hi; have := HP.out.1; omega))
      have Q1 := Lib.hid q1
      have Q2 := Lib.hid q2
      have Q3 := Lib.hid q3
      have HN := Lib.hid hnot
      clear q1 q2 q3 cs cb hnot
      gi_wp2_with (first | (refine load_many rfl 139 _ rfl (G p) 0 rfl ((pg l p).map (Value.int .u32)) _ hrange Tryz.underlying139 rfl (by rw [A.infoP, hlen]) ?_) | (gi_at_mapUpdate; refine wpListIn_mapUpdate_own _ rfl _ _ _ 134 rfl 3 195 numLaw Tryz.underlying134 _ m _ _ rfl sm (by unfold maxLen; omega) _ _ _ rfl rfl key _ [] (ptr_at _) ?_; intro w3 hown3 hgrow3))
      have t3 : Turned (fun j => j = m) W2 w3 := Turned.of_grown hgrow3 (fun j e => by cases e; rfl)
      have t13 : Turned (fun j => j = m) W1 w3 := (Q2.out.mono (G := fun j => j = m) (fun _ e => e.elim)).trans t3 (fun j e => .inl e)
      have hW1 := HI.out.below.size
      exact ⟨⟨t13.size, fun k h1 h2 _ => t13.block k h1 h2⟩, HI.out.step HN.out hm.lm nsm nbm t13 (t3.keep Q1.out (by omega)) HD.out hown3, Nat.le_trans hW1W t13.size⟩
    case done =>
      rintro D0 W1 hD0 ⟨hI, _⟩ hK
      obtain ⟨cb, _⟩ := boxed_cell hI.box
      go_wp2
      obtain ⟨F', f1, f2⟩ := hI.sh hb hm.lm hm.ls
      have hD1 : W.heap.size ≤ D0 := by simp at hD0; omega
      refine ⟨by simp, .inl ⟨_, _, rfl, run_takeDeferred hK, ?_⟩⟩
      refine ⟨_, results_tmp rfl _ _ _, s, F', rfl, f1.kept' (fun k hk => World.putObj_heap_other (fun e => f1.kind (ds := some []) hk (by rw [e]; exact hK))), f2, hI.below.trans (belowK_b (w := w) (Nat.le_refl _) W1 D0 _ _ (by have := hm.below.size; omega) hK rfl rfl)⟩
    case stop =>
      rintro D0 c pre rest W1 _ _ hx _
      exact hx.elim
end Go.Proofs.YtiohlmccnllklaaGreatDoor.L3
namespace Go.Proofs.YtiohlmccnllklaaGreatDoor.L3
open Go.RowKit
set_option maxRecDepth 100000

def noDeferB (ops : Array Oper) : Bool := ops.all fun o => match o.op with | .defer _ => false | _ => true
theorem noDefer_spec {ops : Array Oper} (h : noDeferB ops = true) {j : Nat} {o : Oper} (ho : ops[j]? = some o) (c : Call) : o.op ≠ .defer c := by
  intro e
  have h1 := Array.all_eq_true_iff_forall_mem.1 h o (Array.mem_of_getElem? ho)
  simp [e] at h1

theorem take_step {c : Bool} {A B : Prop} (hc : c = true) (h : A) : if c = true then A else B := by rw [if_pos hc]; exact h

section
variable {P : Program} {ops : Array Oper} {md : Region.Mode} {Q : Exit → Act → World → Prop}

theorem rowsIn_round {n l : Nat} {row : String} {args : Array Value} {w : World} {R : Value → World → Prop} (h : Rows P row args w R) : RowsIn (Fence.wide.inRound l) n P row args w R :=
  fun c cs _ => let ⟨v, w', r, s⟩ := h c cs; ⟨v, w', r, stepsIn_wide.2 s⟩
theorem wpOpIn_of_op {n l i : Nat} {K : Act → World → Prop} {a : Act} {w : World} (hd : noDeferB ops = true) (hno : ∀ a w, ¬ Q .outgrown a w) (h : wpOp P ops Q i K a w) : wpOpIn (Fence.wide.inRound l) n P ops Q i K a w := by
  unfold wpOp at h
  unfold wpOpIn
  cases ho : ops[i]? with
  | none => simpa [ho] using h
  | some o =>
    simp only [ho] at h ⊢
    split
    · rename_i hw
      simp only [hw, if_true] at h
      rcases h with h | ⟨_, a', w', hq⟩
      · refine ⟨fun _ _ => trivial, ?_⟩
        have hs : o.semAt (Fence.wide.inRound l).round a.eval = execOp a.eval o := Oper.semAt_some l a.eval o (fun c => noDefer_spec hd ho c)
        rw [hs]
        unfold Oper.wp at h
        generalize (execOp a.eval o).run P w = r at h ⊢
        cases r with
        | ok x w1 =>
          cases x <;> simp only [Oper.upon] at h <;> simp only [Oper.uponIn]
          case value v => exact h
          case skip => exact h
          case defer d => exact h
          case enter f args =>
            refine ⟨fun hz => by simp [Fence.wide, Fence.inRound] at hz, CallsIn.inRound l (callsIn_wide.2 (h.mono fun e w2 he => ?_))⟩
            cases e <;> exact he
          case row row args => exact ⟨fun hz => by simp [Fence.wide, Fence.inRound] at hz, rowsIn_round h⟩
        | halt x w1 => cases x <;> simp only [Oper.upon] at h <;> simp only [Oper.uponIn] <;> exact h
      · exact absurd hq (hno _ _)
    · rename_i hw
      simp only [hw] at h
      exact ⟨fun _ _ => trivial, h⟩
theorem wpAnyIn_of_any {n l : Nat} (hd : noDeferB ops = true) (hno : ∀ a w, ¬ Q .outgrown a w) : ∀ (fuel : Nat) (listed : Array Bool) (a : Act) (w : World), wpAny P md ops Q fuel listed a w → wpAnyIn (Fence.wide.inRound l) n P md ops Q fuel listed a w
  | 0, _, _, _, h => h
  | fuel + 1, _, _, _, h => ⟨h.1, fun i hi => wpOpIn_mono (fun a' w' h' => wpAnyIn_of_any hd hno fuel _ a' w' h') (wpOpIn_of_op hd hno (h.2 i hi))⟩
/-- The region in a round, S shown of the world behind the draw. -/
theorem wpIn_region_round {n l id : Nat} {S : World → Prop} {a : Act} {w : World} (hm : P.follows .mixedOrders = true) (hd : noDeferB ops = true) (hno : ∀ a w, ¬ Q .outgrown a w)
    (h : wpAnyH P .any ops Q S ops.size (Array.replicate ops.size false) a w.drew) : (Code.region id ops true).wpIn (Fence.wide.inRound l) n P Q a w :=
  wpIn_region_any hm (wpAnyIn_of_any hd hno _ _ _ _ (wpAny_of_held _ _ _ _ h))
/-- The region in a round, nothing kept: each order for itself. -/
theorem wpIn_region_round_plain {n l id : Nat} {a : Act} {w : World} (hm : P.follows .mixedOrders = true) (hd : noDeferB ops = true) (hno : ∀ a w, ¬ Q .outgrown a w)
    (h : wpAny P .any ops Q ops.size (Array.replicate ops.size false) a w.drew) : (Code.region id ops true).wpIn (Fence.wide.inRound l) n P Q a w :=
  wpIn_region_any hm (wpAnyIn_of_any hd hno _ _ _ _ h)
theorem ready_shut {fuel : Nat} {listed : Array Bool} {a : Act} {w : World} {i : Nat} {o : Oper} {rs : List Nat} (ho : ops[i]? = some o)
    (h : ∀ K' : Act → World → Prop, Shut (∀ a w, wpAny P md ops Q fuel (listed.setIfInBounds i true) a w → K' a w) → if Region.wanted o (yielded ops a.tmps) = true then Oper.wp P o a w K' Q else K' (a.put o.dst undef) w)
    (hs : AllReady P md ops Q fuel listed a w rs) : AllReady P md ops Q fuel listed a w (i :: rs) := AllReady.cons ho h hs
end
end Go.Proofs.YtiohlmccnllklaaGreatDoor.L3
namespace Go.Proofs.YtiohlmccnllklaaGreatDoor.L3
set_option maxRecDepth 100000
open Go.RowKit Go.Shelf
set_option maxHeartbeats 1000000
set_option linter.unusedSimpArgs false
attribute [local go_sem] Oper.semAt_some

theorem Copy_nil (w : World) : Calls Tryz.prog 75 #[.pointer none] w fun e w' => e = .returned (.pointer none) ∧ w = w' := by
  go_enter Tryz.func75, Tryz.ntmps75
  go_wp2_with (go_at_call 111; refine (none_nil _).mono ?_; rintro e w1 ⟨rfl, rfl⟩)
  go_ret
  exact ⟨rfl, rfl⟩
/-- The iterator's value over the box B. -/
abbrev allV (B : Nat) : Value := .func (.func 189) #[] #[.pointer (some ⟨B, 0, none⟩)]
theorem All_nil (w : World) : Calls Tryz.prog 185 #[.pointer none] w fun e w' => e = .returned (allV w.heap.size) ∧ w' = w.alloc (.cells #[.pointer none] 75) := by
  have hmf : ∀ (fn : Fn) (first cap : Array Value) (w : World), (Instr.makeFunc fn first cap).run Tryz.prog w = .ok (.func fn first cap) w := fun _ _ _ _ => rfl
  go_enter Tryz.func185, Tryz.ntmps185
  go_wp2_with (go_at_call 75; refine (Copy_nil _).mono ?_; rintro e w' ⟨rfl, rfl⟩)
  go_ret
  exact ⟨rfl, rfl⟩
/-- What All leaves: a box, over a copy. -/
def AllPost (w : World) (P : Nat) (l : List Int) (v : Value) (w' : World) : Prop := ∃ B S' F', v = allV B ∧ w'.heap[B]? = some (.cells #[.pointer (some ⟨S', 0, none⟩)] 75 (0, 0)) ∧ Sh w' S' P l F' ∧ (∀ k, F' k → w.heap.size ≤ k) ∧ w.heap.size ≤ B ∧ Below w.heap.size w w'
theorem All_any {w : World} {S P : Nat} {l : List Int} {F : Nat → Prop} (h : Sh w S P l F) : Calls Tryz.prog 185 #[.pointer (some ⟨S, 0, none⟩)] w fun e w' => ∃ v, e = .returned v ∧ AllPost w P l v w' := by
  have hmf : ∀ (fn : Fn) (first cap : Array Value) (w : World), (Instr.makeFunc fn first cap).run Tryz.prog w = .ok (.func fn first cap) w := fun _ _ _ _ => rfl
  obtain ⟨mb, G, D, rfl, h⟩ := h
  have HC := Lib.hid (Copy_any h)
  clear h
  go_enter Tryz.func185, Tryz.ntmps185
  go_wp2_with (go_at_call 75; refine HC.out.mono ?_; rintro e w1 ⟨S', F', rfl, hS, hF, hb⟩; have HS := Lib.hid hS; have HF := Lib.hid hF; have HB := Lib.hid hb; clear hS hF hb)
  go_ret
  exact ⟨_, rfl, w1.heap.size, S', F', rfl, heap_alloc_new w1 _, HS.out.alloc _, HF.out, HB.out.size, HB.out.alloc HB.out.size _⟩

/-- A byte and its set. -/
abbrev eEnc (l : List Int) (i : Nat) : Array Value := #[.int .i64 (i : Int), .int .u32 (at0 l i)]
theorem All1_nil (B : Nat) (w : World) (hB : w.heap[B]? = some (.cells #[.pointer none] 75 (0, 0))) (M : Nat → Prop) (l : List Int) : Gives Tryz.prog 189 #[.pointer (some ⟨B, 0, none⟩)] (eEnc l) M ([] : List Nat) w := fun n ll J Jx W hW hJ hJx hY h0 => by
  refine callsIn_of_wp_marks Tryz.func189 rfl trivial ?_ rfl
  refine wpIn_wide.2 ?_
  simp only [Tryz.ntmps189, List.size_toArray, List.length_cons, List.length_nil, Nat.reduceAdd, Nat.reduceSub, Array.replicate_succ, Array.replicate_zero, List.push_toArray, List.append_toArray, List.nil_append, List.cons_append]
  obtain ⟨c1, _⟩ := boxed_cell ((hW.block B (Array.getElem?_eq_some_iff.1 hB).1).trans hB)
  have hBl : B < W.heap.size := Nat.lt_of_lt_of_le (Array.getElem?_eq_some_iff.1 hB).1 hW.size
  go_wp2
  go_step3
  refine wp_seq (wp_label ?_)
  go_wp2_with (go_at_call 112; refine (eachP_any _ _).mono ?_; rintro e w' ⟨rfl, rfl⟩)
  obtain ⟨W2, hW2⟩ : ∃ W2, W2 = (W.alloc (.cells #[.func (.yield ll) #[] #[]] 234)).alloc (.cells #[.pointer none] 75) := ⟨_, rfl⟩
  have hb2 : W2.heap[W.heap.size + 1]? = some (.cells #[.pointer none] 75 (0, 0)) := by
    have := heap_alloc_new (W.alloc (.cells #[.func (.yield ll) #[] #[]] 234)) (.cells #[.pointer none] 75)
    rw [World.size_alloc] at this
    rw [hW2]; exact this
  have hz2 : W2.heap.size = W.heap.size + 2 := by rw [hW2]; simp
  have h02 : J [] W2 := by rw [hW2]; exact hJ.alloc _ (hJ.alloc _ h0)
  rw [← hW2]
  refine (wpIn_wide (n := n)).1 (wp_over (gf := 124) (lb := #[.pointer (some ⟨W.heap.size + 1, 0, none⟩)]) rfl (enters_of Tryz.func124 (by kernel_rfl) rfl)
    (eachP1_nil (W.heap.size + 1) W2 hb2 (fun _ => False) (fun _ => 0)) (fun _ h => h.elim) (fun _ => rfl)
    (fun _ => J []) (fun _ _ _ => False) (fun _ A B row hs hg hr => hJ [] A B row hs hg (fun r e => ⟨by have := (hr r e).1; omega, (hr r e).2⟩)) (fun _ _ _ _ _ hs _ _ => hs) h02
    (fun p => { tmps := #[.func (.yield ll) #[] #[], .pointer (some ⟨B, 0, none⟩), .pointer (some ⟨W.heap.size, 0, none⟩), .int .i64 (p : Int), .pointer (some ⟨0, 0, none⟩), undef, undef, .pointer none, eachV (W.heap.size + 1), .int .i64 (p : Int), .pointer (some ⟨0, 0, none⟩), undef, undef, undef, undef, undef, undef, undef, undef, undef, undef, undef, undef, undef, undef, undef, undef, undef, undef, undef, undef], defers := [] }) ?assign ?body ?done ?stop)
  case assign =>
    intro l3 mm x W1 K hK
    gi_wp2
    exact hK
  case body =>
    rintro l3 mm pre p rest W1 hf
    simp at hf
  case done =>
    intro D0 W1 hD0 hI hK
    go_wp2
    refine ⟨by simp, .inl ⟨_, _, rfl, run_takeDeferred hK, ?_⟩⟩
    refine ⟨_, results_none rfl _ _ _, ⟨_, rfl⟩, .inl ?_⟩
    exact hJ.putObj _ hI (by omega) hK rfl
  case stop =>
    rintro D0 c pre rest W1 _ _ hx _
    exact hx.elim

/-- The blocks K lie as they lay. -/
def Lies (K : Nat → Prop) (W2 W : World) : Prop := ∀ k, K k → W.heap[k]? = W2.heap[k]?
theorem lies_own {β : Type} {K : Nat → Prop} {W2 : World} {B : Nat} (hK : ∀ k, K k → k < B) (hB : B ≤ W2.heap.size) : OwnFrom B (fun (_ : β) W => Lies K W2 W) := fun _ W W' row hs hg hr k hk => by
  have h1 := hs k hk
  have h2 : k < W.heap.size := by
    have h3 : k < W2.heap.size := by have := hK k hk; omega
    rw [Array.getElem?_eq_getElem h3] at h1
    exact (Array.getElem?_eq_some_iff.1 h1).1
  exact (hg.block k h2 (fun e => by have := (hr k e.symm).1; have := hK k hk; omega)).trans h1
theorem Lies.lt {K : Nat → Prop} {W2 W : World} (h : Lies K W2 W) {k : Nat} (hk : K k) (hl : k < W2.heap.size) : k < W.heap.size := by
  have h1 := h k hk
  rw [Array.getElem?_eq_getElem hl] at h1
  exact (Array.getElem?_eq_some_iff.1 h1).1

set_option maxRecDepth 100000 in
theorem All1_gives {w : World} {S P : Nat} {l : List Int} {F : Nat → Prop} (h : Sh w S P l F) (B : Nat) (hB : w.heap[B]? = some (.cells #[.pointer (some ⟨S, 0, none⟩)] 75 (0, 0))) (M : Nat → Prop) (hMl : ∀ k, M k → k < w.heap.size) (hMF : ∀ k, F k → ¬ M k) :
    Gives Tryz.prog 189 #[.pointer (some ⟨B, 0, none⟩)] (eEnc l) M (els l (64 * P)) w := fun n ll J Jx W hW hJ hJx hY h0 => by
  have hmo : Tryz.prog.follows .mixedOrders = true := by kernel_rfl
  obtain ⟨mb, G, D, rfl, h⟩ := h
  have hb := h.bytes
  have hlen := hb.len
  refine callsIn_of_wp_marks Tryz.func189 rfl trivial ?_ rfl
  refine wpIn_wide.2 ?_
  simp only [Tryz.ntmps189, List.size_toArray, List.length_cons, List.length_nil, Nat.reduceAdd, Nat.reduceSub, Array.replicate_succ, Array.replicate_zero, List.push_toArray, List.append_toArray, List.nil_append, List.cons_append]
  obtain ⟨c1, _⟩ := boxed_cell ((hW.block B (Array.getElem?_eq_some_iff.1 hB).1).trans hB)
  have hBl : B < W.heap.size := Nat.lt_of_lt_of_le (Array.getElem?_eq_some_iff.1 hB).1 hW.size
  go_wp2
  go_step3
  refine wp_seq (wp_label ?_)
  go_wp2_with (go_at_call 112; refine (eachP_any _ _).mono ?_; rintro e w' ⟨rfl, rfl⟩)
  obtain ⟨W2, hW2⟩ : ∃ W2, W2 = (W.alloc (.cells #[.func (.yield ll) #[] #[]] 234)).alloc (.cells #[.pointer (some ⟨S, 0, none⟩)] 75) := ⟨_, rfl⟩
  have hb2 : W2.heap[W.heap.size + 1]? = some (.cells #[.pointer (some ⟨S, 0, none⟩)] 75 (0, 0)) := by
    have := heap_alloc_new (W.alloc (.cells #[.func (.yield ll) #[] #[]] 234)) (.cells #[.pointer (some ⟨S, 0, none⟩)] 75)
    rw [World.size_alloc] at this
    rw [hW2]; exact this
  have hy2 : W2.heap[W.heap.size]? = some (.cells #[.func (.yield ll) #[] #[]] 234 (0, 0)) := by
    rw [hW2, Below.heap_alloc _ _ _ (by simp)]; exact heap_alloc_new W _
  have hz2 : W2.heap.size = W.heap.size + 2 := by rw [hW2]; simp
  have h02 : J [] W2 := by rw [hW2]; exact hJ.alloc _ (hJ.alloc _ h0)
  have hB2 : Below w.heap.size w W2 := by rw [hW2]; exact (hW.alloc hW.size _).alloc (by simp; have := hW.size; omega) _
  have hS2 : ShIs W2 S mb P l G D := h.kept' fun k hk => hB2.block k (h.lt k hk)
  have hWs := hW.size
  rw [← hW2]
  obtain ⟨M', hM'⟩ : ∃ M' : Nat → Prop, M' = fun k => M k ∨ (w.heap.size ≤ k ∧ k < W.heap.size) := ⟨_, rfl⟩
  obtain ⟨K, hK⟩ : ∃ K : Nat → Prop, K = fun k => shB S mb l G k ∨ k = W.heap.size := ⟨_, rfl⟩
  have hKlt : ∀ k, K k → k < W2.heap.size := by rw [hK]; rintro k (hk | hk); (have := h.lt k hk; omega); omega
  have hKM : ∀ k, K k → ¬ M' k := by
    rw [hK, hM']
    rintro k (hk | hk) (hm | hm)
    · exact hMF k hk hm
    · have := h.lt k hk; omega
    · have := hMl k hm; omega
    · omega
  have hY' : ∀ m pre x rest W1, els l (64 * P) = pre ++ x :: rest → J pre W1 → YieldAt Fence.wide m Tryz.prog ll (eEnc l x) W1 fun e W' =>
      ((e = .returned (.bool true) ∧ J (pre ++ [x]) W') ∨ (e = .returned (.bool false) ∧ Jx (pre ++ [x]) W')) ∧ KeptBut M' W1 W' := by rw [hM']; exact hY
  have HKT : Hid (∀ k, K k → ¬ Pls W2 k) := Lib.hid (by
    rw [hK]
    rintro k (hk | rfl)
    · exact hS2.noPls hk
    · exact Pls.not hy2 (by decide))
  clear hY
  refine (wpIn_wide (n := n)).1 (wp_over (gf := 124) (lb := #[.pointer (some ⟨W.heap.size + 1, 0, none⟩)]) rfl (enters_of Tryz.func124 (by kernel_rfl) rfl)
    (eachP1_gives hS2 (W.heap.size + 1) hb2 M' (by rw [hM']; rintro (hm | hm); (have := hMl _ hm; omega); omega) (fun k hk => hKM k (by rw [hK]; exact .inl hk)))
    (by rw [hM']; rintro k (hm | hm); (have := hMl _ hm; omega); omega) (fun _ => rfl)
    (fun pre W1 => J (flat l pre) W1 ∧ Lies K W2 W1) (fun c pre W1 => c = .exit 0 ∧ ∃ q r, els l (64 * P) = q ++ r ∧ Jx q W1)
    (OwnFrom.and (fun pre A B row hs hg hr => hJ (flat l pre) A B row hs hg (fun r e => ⟨by have := (hr r e).1; omega, (hr r e).2⟩)) (lies_own hKlt (Nat.le_refl _)))
    (fun c pre A B row hs hg hr => by obtain ⟨e, q, r, h1, h2⟩ := hs; exact ⟨e, q, r, h1, hJx q A B row h2 hg (fun r e => ⟨by have := (hr r e).1; omega, (hr r e).2⟩)⟩)
    ⟨h02, fun _ _ => rfl⟩
    (fun p => { tmps := #[.func (.yield ll) #[] #[], .pointer (some ⟨B, 0, none⟩), .pointer (some ⟨W.heap.size, 0, none⟩), .int .i64 (p : Int), .pointer (some ⟨G p, 0, none⟩), undef, undef, .pointer (some ⟨S, 0, none⟩), eachV (W.heap.size + 1), .int .i64 (p : Int), .pointer (some ⟨G p, 0, none⟩), undef, undef, undef, undef, undef, undef, undef, undef, undef, undef, undef, undef, undef, undef, undef, undef, undef, undef, undef, undef], defers := [] }) ?assign ?body ?done ?stop)
  case assign =>
    intro l3 mm x W1 K hK
    gi_wp2
    exact hK
  case body =>
    rintro l3 mm pre p rest W1 hf ⟨hJ1, hL1⟩
    have hpm := mem_privs.1 (mem_mid hf)
    have HS2 := Lib.hid hS2
    have HY2 := Lib.hid hy2
    clear hS2 hb2 hy2 hW2 c1
    gi_wp2
    gi_loopw [12] (fun k wr => ∃ j : Nat, j ≤ 64 ∧ k = .int .i64 j ∧ Hid (J (flat l pre ++ pgEls l p j) wr) ∧ Hid (Lies K W2 wr) ∧ Hid (KeptBut M' W1 wr)) (fun k _ => 64 - (intOf k).toNat)
    case atStart => exact ⟨0, by omega, rfl, by simpa [Hid, pgEls] using hJ1, hL1, KeptBut.refl _ _⟩
    case round =>
      obtain ⟨j, hj, rfl, hJ0, hL0, hK0⟩ := hrel
      by_cases hlt : j < 64
      · have hSr : ShIs wr S mb P l G D := HS2.out.kept' fun k hk => hL0.out k (by rw [hK]; exact .inl hk)
        have hyr : wr.heap[W.heap.size]? = some (.cells #[.func (.yield ll) #[] #[]] 234 (0, 0)) := (hL0.out _ (by rw [hK]; exact .inr rfl)).trans HY2.out
        obtain ⟨cy, _⟩ := boxed_cell hyr
        have cp := (hSr.cellPage hpm.2 hlt).1
        have HSr := Lib.hid hSr
        have j0 : (0 : Int) ≤ j := by omega
        have j1 : (j : Int) < 64 := by omega
        clear hSr hyr
        gi_wp2
        refine wpIn_region_round (S := fun W => W.heap = wr.heap) hmo (by kernel_rfl) (fun _ _ h => h) ?_
        have hS0 : wr.drew.heap = wr.heap := rfl
        have hcp : ∀ W : World, W.heap = wr.heap → W.cell? ⟨G p, j, none⟩ = some (.int .u32 (at0 l (64 * p + j))) := fun W hW => by simpa only [World.cell?, hW] using cp
        refine wpAnyH_take (i := 0) (v := .int .i64 (j : Int)) rfl (by kernel_rfl) (by kernel_rfl) (by kernel_rfl) (fun _ _ _ h => h) (.inl ⟨by rfl, fun W hW => by go_simp⟩) hS0 ?_
        try simp only [Act.put, List.setIfInBounds_toArray, List.set_cons_zero, List.set_cons_succ]
        refine wpAnyH_take (i := 1) (v := .pointer (some ⟨G p, 0, none⟩)) rfl (by kernel_rfl) (by kernel_rfl) (by kernel_rfl) (fun _ _ _ h => h) (.inl ⟨by rfl, fun W hW => by go_simp⟩) hS0 ?_
        try simp only [Act.put, List.setIfInBounds_toArray, List.set_cons_zero, List.set_cons_succ]
        refine wpAnyH_take (i := 2) (v := .pointer (some ⟨G p, j, none⟩)) rfl (by kernel_rfl) (by kernel_rfl) (by kernel_rfl) (fun _ _ _ h => h) (.inl ⟨by rfl, fun W hW => by go_simp⟩) hS0 ?_
        try simp only [Act.put, List.setIfInBounds_toArray, List.set_cons_zero, List.set_cons_succ]
        refine wpAnyH_take (i := 3) (v := .int .u32 (at0 l (64 * p + j))) rfl (by kernel_rfl) (by kernel_rfl) (by kernel_rfl) (fun _ _ _ h => h) (.inl ⟨by rfl, fun W hW => by have := hcp W hW; go_simp⟩) hS0 ?_
        try simp only [Act.put, List.setIfInBounds_toArray, List.set_cons_zero, List.set_cons_succ]
        refine wpAnyH_take (i := 4) (v := .int .i64 (j : Int)) rfl (by kernel_rfl) (by kernel_rfl) (by kernel_rfl) (fun _ _ _ h => h) (.inl ⟨by rfl, fun W hW => by go_simp⟩) hS0 ?_
        try simp only [Act.put, List.setIfInBounds_toArray, List.set_cons_zero, List.set_cons_succ]
        refine wpAnyH_take (i := 5) (v := .int .u32 (at0 l (64 * p + j))) rfl (by kernel_rfl) (by kernel_rfl) (by kernel_rfl) (fun _ _ _ h => h) (.inl ⟨by rfl, fun W hW => by go_simp⟩) hS0 ?_
        try simp only [Act.put, List.setIfInBounds_toArray, List.set_cons_zero, List.set_cons_succ]
        refine wpAnyH_done (by kernel_rfl) ?_ _
        clear hcp cp hS0
        have hbt := hb.at_ (64 * p + j)
        cases hz : nz l (64 * p + j) with
        | true =>
          have hne : (at0 l (64 * p + j) == 0) = false := by simpa [nz] using hz
          obtain ⟨r, hr⟩ := flat_split hf hlt hz
          rw [flat_privs hlen] at hr
          have hYj := hY' 0 _ _ r wr.drew hr (hJ _ wr wr.drew none hJ0.out ⟨rfl, rfl, rfl, Nat.le_refl _, fun _ _ _ => rfl⟩ (fun r e => by cases e))
          have e1 : (((64 * p + j : Nat)) : Int) = (p : Int) * 64 + (j : Int) := by omega
          have HL := Lib.hid (pgEls_yes hz)
          have HR := Lib.hid hr
          have hp0 := hpm.1
          have hP32 := hb.hi
          obtain ⟨f0, t0, a0, b0, hy0, hR0⟩ := hYj
          rw [show eEnc l (64 * p + j) = #[.int .i64 ((p : Int) * 64 + (j : Int)), .int .u32 (at0 l (64 * p + j))] by rw [← e1]] at hy0
          have HRa := Lib.hid (fun m' : Nat => (show RoundIn Fence.wide m' Tryz.prog ll f0 t0 a0 b0 wr.drew _ from ⟨hR0.1, fun c cs _ => hR0.2 c cs (room_wide _)⟩))
          have hn3 : ¬ at0 l (64 * p + j) = 0 := by simpa [nz] using hz
          have hn2 : (at0 l (64 * p + j) != 0) = true := by simpa [nz] using hz
          clear hR0 hz hr
          generalize at0 l (64 * p + j) = x0 at hne hn2 hn3 hy0 ⊢
          gi_wp2
          refine ⟨fun hd => (by cases hd), (HRa.out _).mono ?_⟩
          rintro e W0 ⟨(⟨rfl, hj0⟩ | ⟨rfl, hx0⟩), hk0⟩
          · have hk1 : KeptBut M' wr W0 := hk0
            gi_wp2
            refine ⟨⟨j + 1, by omega, by go_num, by rw [HL.out, ← List.append_assoc]; exact hj0, fun k hk => (hk1.2 k (hL0.out.lt hk (hKlt k hk)) (hKM k hk) (fun e => HKT.out k hk (e.eq (hL0.out k hk)))).trans (hL0.out k hk), hK0.out.trans hk1⟩, ?_⟩
            simp [intOf]; omega
          · have hk1 : KeptBut M' wr W0 := hk0
            gi_wp2
            exact ⟨hK0.out.trans hk1, rfl, _, r, by rw [HR.out]; simp, hx0⟩
        | false =>
          have he : (at0 l (64 * p + j) == 0) = true := by simpa [nz] using hz
          have he2 : (at0 l (64 * p + j) != 0) = false := by simpa [nz] using hz
          have he3 : at0 l (64 * p + j) = 0 := by simpa [nz] using hz
          have HL := Lib.hid (pgEls_no hz)
          rw [he3]
          have hJd : Hid (J (flat l pre ++ pgEls l p j) wr.drew) := hJ _ wr wr.drew none hJ0.out ⟨rfl, rfl, rfl, Nat.le_refl _, fun _ _ _ => rfl⟩ (fun r e => by cases e)
          have hLd : Hid (Lies K W2 wr.drew) := hL0.out
          have hKd : Hid (KeptBut M' W1 wr.drew) := hK0.out
          clear he he2 he3 hz
          gi_wp2
          all_goals refine ⟨fun _ h => (by cases h), ?_⟩
          all_goals gi_wp2
          all_goals refine ⟨⟨j + 1, by omega, by go_num, by rw [HL.out]; exact hJd.out, hLd.out, hKd.out⟩, ?_⟩
          all_goals simp [intOf]
          all_goals omega
      · gi_wp2
        obtain rfl : j = 64 := by omega
        exact ⟨hK0.out, by rw [flat_snoc]; exact hJ0.out, hL0.out⟩
  case done =>
    rintro D0 W1 hD0 ⟨hI, hL⟩ hK
    go_wp2
    refine ⟨by simp, .inl ⟨_, _, rfl, run_takeDeferred hK, ?_⟩⟩
    refine ⟨_, results_none rfl _ _ _, ⟨_, rfl⟩, .inl ?_⟩
    rw [← flat_privs hlen]
    exact hJ.putObj _ hI (by omega) hK rfl
  case stop =>
    rintro D0 c pre rest W1 hD0 hf ⟨rfl, q, r, hq, hx⟩ hK
    refine wpIn_wide.2 ?_
    go_wp2
    refine ⟨by simp, .inl ⟨_, _, rfl, run_takeDeferred hK, ?_⟩⟩
    refine ⟨_, results_none rfl _ _ _, ⟨_, rfl⟩, .inr ⟨q, r, hq, hJx.putObj _ hx (by omega) hK rfl⟩⟩
end Go.Proofs.YtiohlmccnllklaaGreatDoor.L3
namespace Go.Proofs.YtiohlmccnllklaaGreatDoor.L3
set_option maxRecDepth 100000
open Go.RowKit Go.Shelf
set_option maxHeartbeats 1000000
set_option linter.unusedSimpArgs false

/-! ### two pages held against each other -/
theorem part_u32 (l : List Int) (i : Nat) (hi : i < l.length) (w : World) : (part 23 (l.map (Value.int .u32)).toArray i).run Tryz.prog w = .ok (.int .u32 (at0 l i)) w := by
  have u3 := Tryz.underlying23
  have hg : (l.map (Value.int .u32))[i]? = some (.int .u32 (at0 l i)) := by simp [at0, hi]
  unfold part
  go_simp
  simp [at0, hi]
theorem eq_u32 (a b : Int) (w : World) : (Op.equalIn 9999 23 (.int .u32 a) (.int .u32 b)).run Tryz.prog w = .ok (a == b) w := by
  rw [show (9999 : Nat) = 9998 + 1 from rfl, Op.equalIn]
  simp [Sem.run_bind, run_underlying Tryz.underlying23, Result.andThen_ok]
theorem size_u32 (w : World) : (sizeOf 23).run Tryz.prog w = .ok 1 w := by kernel_rfl
def eqFrom (l m : List Int) (s : Nat) : Nat → Bool
  | 0 => true
  | n + 1 => (at0 l s == at0 m s) && eqFrom l m (s + 1) n
theorem eq_loop (l m : List Int) (hl : l.length = 64) (hm : m.length = 64) (w : World) : ∀ (n s : Nat), s + n ≤ 64 →
    Sem.run Tryz.prog (forIn (List.range' s n) ((none, ()) : Option Bool × Unit) fun i __s => do
      let __do_lift ← part 23 (l.map (Value.int .u32)).toArray (i * 1)
      let __do_lift_1 ← part 23 (m.map (Value.int .u32)).toArray (i * 1)
      let __do_lift ← Op.equalIn 9999 23 __do_lift __do_lift_1
      if (!__do_lift) = true then pure (ForInStep.done (some false, ())) else pure (ForInStep.yield (none, ()))) w = .ok (if eqFrom l m s n = true then (none, ()) else (some false, ())) w
  | 0, s, _ => by simp [eqFrom]
  | n + 1, s, h => by
    rw [List.range'_succ, List.forIn_cons]
    simp only [Sem.run_bind, Nat.mul_one, part_u32 l s (by omega) w, part_u32 m s (by omega) w, eq_u32, Result.andThen_ok]
    have ih := eq_loop l m hl hm w n (s + 1) (by omega)
    simp only [Nat.mul_one] at ih
    by_cases e : at0 l s = at0 m s
    · simp only [e, beq_self_eq_true, Bool.not_true, Bool.false_eq_true, if_false, Sem.run_pure, Result.andThen_ok]
      rw [ih]
      simp [eqFrom, e]
    · have e' : (at0 l s == at0 m s) = false := by simpa using e
      simp [eqFrom, e']
theorem eqFrom_at {l m : List Int} : ∀ {n s : Nat}, eqFrom l m s n = true → ∀ i, s ≤ i → i < s + n → at0 l i = at0 m i
  | 0, s, _, i, h1, h2 => by omega
  | n + 1, s, h, i, h1, h2 => by
    simp [eqFrom] at h
    by_cases e : i = s
    · subst e; exact h.1
    · exact eqFrom_at h.2 i (by omega) (by omega)
theorem eqFrom_self (l : List Int) : ∀ n s, eqFrom l l s n = true
  | 0, _ => rfl
  | n + 1, s => by simp [eqFrom, eqFrom_self l n (s + 1)]
theorem eqFrom_iff {l m : List Int} (hl : l.length = 64) (hm : m.length = 64) : eqFrom l m 0 64 = decide (l = m) := by
  rw [Bool.eq_iff_iff, decide_eq_true_eq]
  constructor
  · intro h; exact ext_at (P := 1) (by omega) (by omega) (fun i hi => eqFrom_at h i (by omega) (by omega))
  · rintro rfl; exact eqFrom_self _ _ _
theorem eq_pages (l m : List Int) (hl : l.length = 64) (hm : m.length = 64) (w : World) :
    (Op.equalIn 10000 139 (.agg (l.map (Value.int .u32)).toArray) (.agg (m.map (Value.int .u32)).toArray)).run Tryz.prog w = .ok (decide (l = m)) w := by
  rw [show (10000 : Nat) = 9999 + 1 from rfl, Op.equalIn]
  simp only [Sem.run_bind, run_underlying Tryz.underlying139, Result.andThen_ok]
  simp only [Std.Legacy.Range.forIn_eq_forIn_range', Std.Legacy.Range.size, Nat.sub_zero, Nat.add_sub_cancel, Nat.div_one, size_u32, Result.andThen_ok]
  rw [eq_loop l m hl hm w 64 0 (by omega), eqFrom_iff hl hm]
  by_cases h : l = m <;> simp [h]
theorem guard_pages (x y : Operand) (xs ys : Array Value) (w : World) : (eqGuard .eql 139 x y (.agg xs) (.agg ys)).run Tryz.prog w = .ok () w := by
  have : Tryz.prog.eqGuardType Tryz.prog.depth 139 = false := by kernel_rfl
  unfold eqGuard
  simp [this]
theorem eql_pages (l m : List Int) (hl : l.length = 64) (hm : m.length = 64) (w : World) :
    (binOp .eql 139 (.agg (l.map (Value.int .u32)).toArray) (.agg (m.map (Value.int .u32)).toArray)).run Tryz.prog w = .ok (.bool (decide (l = m))) w := by
  simp [binOp, Op.equal, Op.maxDepth, eq_pages l m hl hm, Sem.run_bind, Result.andThen]
def Pg (w : World) (a : Nat) (l : List Int) : Prop := w.heap[a]? = some (.cells (l.map (Value.int .u32)).toArray 139 (0, 0)) ∧ l.length = 64
theorem Pg.range {w W : World} {a : Nat} {l : List Int} (h : Pg w a l) (hw : W.heap = w.heap) : W.rangeAt a 0 (l.map (Value.int .u32)) := fun j v hv => by
  have h1 := h.1
  rw [← hw] at h1
  rw [Nat.zero_add]
  simp only [World.cell?, h1]
  simpa using hv

end Go.Proofs.YtiohlmccnllklaaGreatDoor.L3
namespace Go.Proofs.YtiohlmccnllklaaGreatDoor.L3
set_option maxRecDepth 100000
open Go.RowKit Go.Shelf
set_option maxHeartbeats 1000000
set_option linter.unusedSimpArgs false

theorem privs_eq {P : Nat} {l m : List Int} (h : ∀ p, p < P → priv l p = true → priv m p = true) (hl : (privs l P).length = (privs m P).length) : privs l P = privs m P := by
  have hs : (privs l P).Sublist (privs m P) := by
    have e : privs l P = (privs m P).filter (priv l) := by
      unfold privs
      rw [List.filter_filter]
      refine List.filter_congr fun p hp => ?_
      rw [List.mem_range] at hp
      cases hq : priv l p with
      | true => simp [h p hp hq]
      | false => simp
    rw [e]; exact List.filter_sublist
  exact hs.eq_of_length hl
theorem shadows_eq {P : Nat} {l m : List Int} (h1 : l.length = 64 * P) (h2 : m.length = 64 * P) (hl : (privs l P).length = (privs m P).length) (h : ∀ p, priv l p = true → priv m p = true ∧ pg l p = pg m p) : l = m := by
  have hp := privs_eq (P := P) (fun p _ hq => (h p hq).1) hl
  refine ext_at h1 h2 fun i hi => ?_
  have e : i = 64 * (i / 64) + i % 64 := by omega
  cases hq : priv l (i / 64) with
  | true =>
    have a1 := at_pg h1 (show i / 64 < P by omega) (show i % 64 < 64 by omega)
    have a2 := at_pg h2 (show i / 64 < P by omega) (show i % 64 < 64 by omega)
    rw [(h _ hq).2, a2] at a1
    simp at a1
    rw [e]; exact a1.symm
  | false =>
    have hq2 : priv m (i / 64) = false := by
      cases hm : priv m (i / 64) with
      | false => rfl
      | true =>
        have : i / 64 ∈ privs m P := mem_privs.2 ⟨by omega, hm⟩
        rw [← hp, mem_privs, hq] at this
        cases this.2
    have a1 := not_priv h1 hq (show i % 64 < 64 by omega)
    have a2 := not_priv h2 hq2 (show i % 64 < 64 by omega)
    rw [← e] at a1 a2
    rw [a1, a2]
def ptrV (c : Option Addr) : Value := .pointer c
theorem ptr_shape {v : Value} {y : DataW Unit × List MemPlace} (h : ptrElem v = some y) : ∃ c, v = ptrV c := by
  unfold ptrElem at h
  split at h
  · exact ⟨_, rfl⟩
  · exact ⟨_, rfl⟩
  · cases h
/-- What has come of the range agrees. -/
def EqSo (l m : List Int) (left : Lit → Bool) : Prop := ∀ p : Nat, priv l p = true → left (.int .i64 (p : Int)) = false → priv m p = true ∧ pg l p = pg m p

/-! ### Same -/
end Go.Proofs.YtiohlmccnllklaaGreatDoor.L3
namespace Go.Proofs.YtiohlmccnllklaaGreatDoor.L3
open Go.RowKit
set_option maxRecDepth 100000
set_option maxHeartbeats 1000000

theorem PutPost.step {w w1 w2 : World} {S P : Nat} {l l' : List Int} {F F1 : Nat → Prop} (t1 : Turned F w w1) (hF : ∀ j, F1 j → F j ∨ w.heap.size ≤ j) (h : PutPost w1 S P l' F1 w2) : PutPost w S P l' F w2 := by
  obtain ⟨F2, h1, h2, h3⟩ := h
  refine ⟨F2, h1, t1.trans h2 hF, fun j hj => ?_⟩
  rcases h3 j hj with h4 | h4
  · exact hF j h4
  · right; have := t1.size; omega
theorem PutPost.refl {w : World} {S P : Nat} {l : List Int} {F : Nat → Prop} (h : Sh w S P l F) : PutPost w S P l F w := ⟨F, h, Turned.refl _ _, fun _ hj => .inl hj⟩
theorem Fill1_any {w : World} {S P : Nat} {l : List Int} {F : Nat → Prop} (h : Sh w S P l F) {p k : Nat} (hp : p < P) (hk : k < 64) (x : Int) (hx : S16 x) (BS BX : Nat)
    (b1 : w.heap[BS]? = some (.cells #[.pointer (some ⟨S, 0, none⟩)] 75 (0, 0))) (b2 : w.heap[BX]? = some (.cells #[.int .u32 x] 23 (0, 0))) :
    Calls Tryz.prog 193 #[.int .i64 (p : Int), .int .i64 (k : Int), .pointer (some ⟨BS, 0, none⟩), .pointer (some ⟨BX, 0, none⟩)] w fun e w' => (∃ v, e = .returned v) ∧ PutPost w S P (l.set (64 * p + k) x) F w' := by
  obtain ⟨c1, f1⟩ := boxed_cell b1
  obtain ⟨c2, f2⟩ := boxed_cell b2
  have HP := Lib.hid (put_any h hp hk x hx)
  clear h b1 b2 hx hp hk
  go_enter Tryz.func193, Tryz.ntmps193
  go_wp2_with (go_at_call 194; refine (HP.out).mono ?_; rintro e w' ⟨⟨v, rfl⟩, hp⟩; have HQ := Lib.hid hp; clear hp)
  go_end0
  exact ⟨⟨_, rfl⟩, HQ.out⟩
theorem eachF_any (c1 c2 : Value) (a n : Nat) (ha : a + n ≤ 2048) (I : Nat → World → Prop) (w : World) (h0 : I 0 w)
    (hstep : ∀ k W, k < n → I k W → Calls Tryz.prog 193 #[.int .i64 (((a + k) / 64 : Nat) : Int), .int .i64 (((a + k) % 64 : Nat) : Int), c1, c2] W fun e W' => (∃ v, e = .returned v) ∧ I (k + 1) W') :
    Calls Tryz.prog 192 #[.int .i64 (a : Int), .int .i64 (n : Int), .func (.func 193) #[] #[c1, c2]] w fun e w' => (∃ v, e = .returned v) ∧ I n w' := by
  have HS := Lib.hid hstep
  clear hstep
  go_enter Tryz.func192, Tryz.ntmps192
  go_wp2
  go_loopw [6] (fun i wr => ∃ k : Nat, k ≤ n ∧ i = .int .i64 ((a + k : Nat) : Int) ∧ Hid (I k wr)) (fun i _ => a + n - (intOf i).toNat)
  case atStart => exact ⟨0, by omega, rfl, h0⟩
  case round =>
    obtain ⟨k, hk, rfl, hI⟩ := hrel
    by_cases hlt : k < n
    · go_wp2_with fail
      have e1 : ((a : Int) + (k : Int)) / 64 = (((a + k) / 64 : Nat) : Int) := by omega
      have e2 : ((a : Int) + (k : Int)) % 64 = (((a + k) % 64 : Nat) : Int) := by omega
      rw [e1, e2]
      refine (HS.out k _ hlt hI.out).mono ?_
      rintro e W' ⟨⟨v, rfl⟩, hI'⟩
      clear e1 e2
      go_wp2
      go_roundw
      case rel => exact ⟨k + 1, by omega, by go_num, hI'⟩
      case measure => simp [intOf]; omega
    · go_wp2
      go_end0
      obtain rfl : k = n := by omega
      exact ⟨⟨_, rfl⟩, hI.out⟩

/-- The bytes' sets behind a fill. -/
def fillR (P : Nat) (l : List Int) (a n x : Int) : List Int := if refR P a n x = 0 then fillL l a.toNat x n.toNat else l
theorem refR_ok {P : Nat} {a n x : Int} (h : refR P a n x = 0) : x < 65536 ∧ insB P a n = true := by
  unfold refR at h
  split at h
  · cases h
  · split at h
    · exact ⟨by omega, by assumption⟩
    · cases h
theorem Bytes.fillR {P : Nat} {l : List Int} (h : Bytes P l) (a n : Int) {x : Int} (hx : W32 x) : Bytes P (fillR P l a n x) := by
  unfold Go.Proofs.YtiohlmccnllklaaGreatDoor.L3.fillR
  split
  · exact h.fill _ ⟨hx.1, (refR_ok ‹_›).1⟩ _
  · exact h
def FillIs (w : World) (S P : Nat) (l : List Int) (x : Int) (a : Nat) (F : Nat → Prop) (k : Nat) (W : World) : Prop :=
  W.heap[w.heap.size]? = some (.cells #[.pointer (some ⟨S, 0, none⟩)] 75 (0, 0)) ∧ W.heap[w.heap.size + 1]? = some (.cells #[.int .u32 x] 23 (0, 0)) ∧
    ∃ F', Sh W S P (fillL l a x k) F' ∧ Turned F w W ∧ ∀ j, F' j → F j ∨ w.heap.size + 2 ≤ j
theorem Fill_nil (a n x : Int) (w : World) : Calls Tryz.prog 188 #[.pointer none, .int .i64 a, .int .i64 n, .int .u32 x] w fun e w' => e = .returned (.int .i64 1) ∧ Below w.heap.size w w' := by
  go_enter Tryz.func188, Tryz.ntmps188
  go_wp2_with (go_at_call 191; refine (refusal_nil _ _ _ _).mono ?_; rintro e w' ⟨rfl, rfl⟩)
  go_ret
  exact ⟨rfl, ((Below.refl _ _).alloc (Nat.le_refl _) _).alloc (by simp) _⟩
theorem Fill_any {w : World} {S P : Nat} {l : List Int} {F : Nat → Prop} (h : Sh w S P l F) (a n x : Int) (hx : W32 x) :
    Calls Tryz.prog 188 #[.pointer (some ⟨S, 0, none⟩), .int .i64 a, .int .i64 n, .int .u32 x] w fun e w' => e = .returned (.int .i64 (refR P a n x)) ∧ PutPost w S P (fillR P l a n x) F w' := by
  obtain ⟨c0, h1, h2⟩ := h.cell
  have hSl := h.lt S h.mem
  have HR : Hid (∀ W, W.cell? ⟨S, 32, none⟩ = w.cell? ⟨S, 32, none⟩ → Calls Tryz.prog 191 #[.pointer (some ⟨S, 0, none⟩), .int .i64 a, .int .i64 n, .int .u32 x] W fun e w' => e = .returned (.int .i64 (refR P a n x)) ∧ W = w') := fun W hW => refusal_cell S P a n x hx W (hW.trans c0) h1 h2
  have hcl : ((w.alloc (.cells #[.pointer (some ⟨S, 0, none⟩)] 75)).alloc (.cells #[.int .u32 x] 23)).cell? ⟨S, 32, none⟩ = w.cell? ⟨S, 32, none⟩ := by
    rw [World.cell?_alloc_lt _ _ _ (by simp; omega), World.cell?_alloc_lt _ _ _ (by simpa using hSl)]
  have HCL := Lib.hid hcl
  have hA : Below w.heap.size w ((w.alloc (.cells #[.pointer (some ⟨S, 0, none⟩)] 75)).alloc (.cells #[.int .u32 x] 23)) := ((Below.refl _ _).alloc (Nat.le_refl _) _).alloc (by simp) _
  by_cases hi : refR P a n x = 0
  · obtain ⟨hx1, hi2⟩ := refR_ok hi
    have hxs : S16 x := ⟨hx.1, hx1⟩
    obtain ⟨i, k, rfl, rfl, hik⟩ := insB_yes hi2
    have hP32 := h2
    have HE : Hid (∀ W, FillIs w S P l x i F 0 W → Calls Tryz.prog 192 #[.int .i64 (i : Int), .int .i64 (k : Int), .func (.func 193) #[] #[.pointer (some ⟨w.heap.size, 0, none⟩), .pointer (some ⟨w.heap.size + 1, 0, none⟩)]] W fun e w' => (∃ v, e = .returned v) ∧ FillIs w S P l x i F k w') := fun W hW => by
      refine eachF_any _ _ i k (by omega) (FillIs w S P l x i F) W hW ?_
      rintro j W1 hj ⟨u1, u2, F1, u3, u4, u5⟩
      refine (Fill1_any u3 (show (i + j) / 64 < P by omega) (show (i + j) % 64 < 64 by omega) x hxs w.heap.size (w.heap.size + 1) u1 u2).mono ?_
      rintro e W2 ⟨hv, F2, v1, v2, v3⟩
      rw [show 64 * ((i + j) / 64) + (i + j) % 64 = i + j by omega] at v1
      have hlt := h.lt
      have hs1 : w.heap.size + 1 < W1.heap.size := (Array.getElem?_eq_some_iff.1 u2).1
      refine ⟨hv, v2.keep u1 (fun hf => ?_), v2.keep u2 (fun hf => ?_), F2, v1, u4.trans v2 (fun j' hj' => ?_), fun j' hj' => ?_⟩
      · rcases u5 _ hf with h' | h'
        · have := hlt _ h'; omega
        · omega
      · rcases u5 _ hf with h' | h'
        · have := hlt _ h'; omega
        · omega
      · rcases u5 _ hj' with h' | h'
        · exact .inl h'
        · right; omega
      · rcases v3 _ hj' with h' | h'
        · exact u5 _ h'
        · right; omega
    have HU0 : Hid (FillIs w S P l x i F 0 ((w.alloc (.cells #[.pointer (some ⟨S, 0, none⟩)] 75)).alloc (.cells #[.int .u32 x] 23))) := by
      refine ⟨?_, ?_, F, h.below hA, Turned.of_below hA _, fun j hj => .inl hj⟩
      · rw [Below.heap_alloc _ _ _ (by simp)]; exact heap_alloc_new w _
      · have := heap_alloc_new (w.alloc (.cells #[.pointer (some ⟨S, 0, none⟩)] 75)) (.cells #[.int .u32 x] 23)
        rwa [World.size_alloc] at this
    rw [hi] at HR ⊢
    have HF : Hid (fillR P l (i : Int) (k : Int) x = fillL l i x k) := by simp [Hid, fillR, hi]
    clear h hcl hA hi hx hxs hx1 hi2
    go_enter Tryz.func188, Tryz.ntmps188
    go_wp2_with (first | (go_at_call 191; refine (HR.out _ HCL.out).mono ?_; rintro e w' ⟨rfl, rfl⟩) | (go_at_call 192; refine (HE.out _ HU0.out).mono ?_; rintro e w' ⟨⟨v, rfl⟩, hu⟩; have HU := Lib.hid hu; clear hu))
    go_ret
    obtain ⟨u1, u2, F1, u3, u4, u5⟩ := HU.out
    exact ⟨rfl, F1, by rw [HF.out]; exact u3, u4, fun j hj => by rcases u5 j hj with h' | h'; exact .inl h'; right; omega⟩
  · have hi' : (refR P a n x == 0) = false := by simpa using hi
    have HF : Hid (fillR P l a n x = l) := by simp [Hid, fillR, hi]
    have HH : Hid (Sh ((w.alloc (.cells #[.pointer (some ⟨S, 0, none⟩)] 75)).alloc (.cells #[.int .u32 x] 23)) S P l F) := h.below hA
    have HA := Lib.hid hA
    generalize refR P a n x = r at HR hi' ⊢
    clear hi h hcl hA
    go_enter Tryz.func188, Tryz.ntmps188
    go_wp2_with (first | (go_at_call 191; refine (HR.out _ HCL.out).mono ?_; rintro e w' ⟨rfl, rfl⟩))
    go_ret
    exact ⟨rfl, F, by rw [HF.out]; exact HH.out, Turned.of_below HA.out _, fun j hj => .inl hj⟩
end Go.Proofs.YtiohlmccnllklaaGreatDoor.L3

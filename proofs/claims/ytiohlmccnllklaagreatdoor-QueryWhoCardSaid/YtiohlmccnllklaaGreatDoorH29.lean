/-
  Layer 14: notes and histories as the world holds them. No walk. Layer 14: small functions: none, decides, copied, New, Len, comparisons: walks. Layer 14: the place in a row of notes at which a step is: walk.
-/
import Derived.Test.YtiohlmccnllklaaGreatDoorH05
import Derived.Test.YtiohlmccnllklaaGreatDoorH06
import Derived.Test.YtiohlmccnllklaaGreatDoorH01
import Derived.Test.YtiohlmccnllklaaGreatDoorH11
import Derived.Maps.RangeWalk
import Derived.Maps.Ext
import Derived.Maps.OwnSet
import Derived.WideKeyEntry
import Derived.DeepKeys5
set_option linter.unusedVariables false
set_option linter.unusedSimpArgs false
namespace Go.Proofs.YtiohlmccnllklaaGreatDoor.Q
open Go.RowKit
set_option maxHeartbeats 4000000
set_option maxRecDepth 100000
set_option linter.unusedVariables false
set_option linter.unusedSimpArgs false

theorem bel1 (w : World) (o : Obj) : Below w.heap.size w (w.alloc o) := (Below.refl _ _).alloc (Nat.le_refl _) o
theorem size1 (w : World) (o : Obj) : (w.alloc o).heap.size = w.heap.size + 1 := by simp
theorem belT {a b c : World} (h : Below a.heap.size a b) (k : Below b.heap.size b c) : Below a.heap.size a c := h.trans (k.mono h.size)
def natI : Value → Nat | .int _ q => q.toNat | _ => 0
theorem rowN : RowT 63 4 := ⟨⟨_, Tryz.underlying63⟩, by kernel_rfl⟩
theorem rowH : RowT 58 3 := ⟨⟨_, Tryz.underlying58⟩, by kernel_rfl⟩
theorem rowQ : RowT 120 3 := ⟨⟨_, Tryz.underlying120⟩, by kernel_rfl⟩
theorem rowA2 : RowT 113 2 := ⟨⟨_, Tryz.underlying113⟩, by kernel_rfl⟩
/-! ### places as keys -/
def pk (p : T.Pl) : Lit := .string (keyBytes [.int .i64 p.1, .int .i64 p.2])
theorem placeType : Tryz.prog.keyType 42 = true := by kernel_rfl
theorem placeKL : Go.WideMaps.KeyLaw Tryz.prog 42 := deep_law_gate (by kernel_rfl) (of_decide_eq_true (by kernel_rfl)) (of_decide_eq_true (by kernel_rfl)) placeType (by kernel_rfl)
theorem placeLaw : Maps.Keyed Tryz.prog 42 := Maps.Keyed.of_law placeKL
theorem key_place {p : T.Pl} (hp : Pi p) : keyOf Tryz.prog 42 (.agg (pla p)) = some (pk p) := by
  obtain ⟨a, b⟩ := p
  have wa := wf_i64 hp.1.1 hp.1.2
  have wb := wf_i64 hp.2.1 hp.2.2
  have hc : Tryz.prog.cellsOf 42 = 2 := by kernel_rfl
  have hi : Tryz.prog.cellsOf 3 = 1 := by kernel_rfl
  have hj : Tryz.prog.cellsOf 40 = 1 := by kernel_rfl
  obtain ⟨m, hm⟩ : ∃ m, Tryz.prog.types.size = m + 1 := ⟨Tryz.prog.types.size - 1, by have : 0 < Tryz.prog.types.size := of_decide_eq_true (by kernel_rfl); omega⟩
  have hu := Tryz.underlying42
  have hv := Tryz.underlying3
  have hw := Tryz.underlying40
  unfold keyOf pla
  simp only [hu]
  rw [if_pos (by simp [placeType, Value.formed, hu, hc]), hm]
  unfold Program.keyLits
  simp only [hu, Value.cells]
  rw [if_pos (by rw [hc]; exact ⟨rfl, by kernel_rfl⟩)]
  simp at wa wb
  simp [Program.keyLits, hi, hj, hv, hw, wa, wb, pk]
theorem isKey_pk (p : T.Pl) : WideAt.IsKeyLit (pk p) := trivial
theorem pk_ne {p q : T.Pl} (hp : Pi p) (hq : Pi q) (h : p ≠ q) : pk p ≠ pk q := fun e => by
  have h1 := key_place hp
  have h2 := key_place hq
  rw [e] at h1
  have e2 := placeLaw.inj h1 h2
  simp [pla] at e2
  exact h (Prod.ext e2.1 e2.2)

/-! ### an element as it is held -/
def hv (v : Value) : Option (DataW Value × List MemPlace) := some (.held v, [])
theorem hv_at (v : Value) : hv v = some (.held v, []) := rfl
theorem hv_inv {v u : Value} {ps : List MemPlace} (h : hv v = some (.held u, ps)) : v = u := by simpa [hv] using congrArg (fun z => z.map Prod.fst) h
/-- What a map by places holds. -/
structure NtD (g : T.Pl → Option Value) (D : DataW Value) : Prop where
  has : ∀ p : T.Pl, Pi p → Maps.has D (pk p) = (g p).isSome
  at_ : ∀ p : T.Pl, Pi p → ∀ x, g p = some x → ∀ z, D.atKey (pk p) z = .held x
theorem ntD_new : NtD (fun _ => none) (.map []) := ⟨fun p _ => by simp [Maps.has], fun p _ x hx => by cases hx⟩
theorem NtD.put {g : T.Pl → Option Value} {D : DataW Value} (h : NtD g D) (hm : Maps.IsMap D) {q : T.Pl} (hq : Pi q) (x : Value) : NtD (fun p => if p = q then some x else g p) (D.put (pk q) (.held x)) := by
  constructor
  · intro p hp
    by_cases e : p = q
    · subst e; rw [Maps.has_put_same hm (isKey_pk _)]; simp
    · rw [Maps.has_put_other (pk_ne hp hq e), h.has p hp]; simp [e]
  · intro p hp y hy z
    by_cases e : p = q
    · subst e
      simp at hy; subst hy
      rw [Maps.atKey_put_same hm (isKey_pk _)]
    · simp [e] at hy
      rw [Maps.atKey_put_other (pk_ne hp hq e)]; exact h.at_ p hp y hy z
theorem own_keep {H : Type} {P : Program} {k : TypeId} {R : Value → Option (DataW H × List MemPlace)} {w w' : World} {b n : Nat} {D : DataW H} (h : w.ownsMap P k R b n D) (e : w'.heap[b]? = w.heap[b]?) : w'.ownsMap P k R b n D := by
  obtain ⟨es, c, hb, r⟩ := h
  exact ⟨es, c, e.trans hb, r⟩
theorem own_blk {H : Type} {P : Program} {k : TypeId} {R : Value → Option (DataW H × List MemPlace)} {w : World} {b n : Nat} {D : DataW H} (h : w.ownsMap P k R b n D) : ∃ es c, w.heap[b]? = some (.map es c) := by
  obtain ⟨es, c, hb, _⟩ := h
  exact ⟨es, c, hb⟩

/-! ### notes -/
/-- A note's cells. -/
def noc (n : T.No) (fv : Value) : List Value := [.int .i64 n.st, .int .i64 n.pl.1, .int .i64 n.pl.2, fv]
theorem noc_sz (n : T.No) (fv : Value) : (noc n fv).length = 4 := rfl
theorem noc_ok (n : T.No) {fv : Value} (h : fv.oneCell' = true) : Ok1 4 (noc n fv).toArray := ⟨rfl, by simp [noc, h, show ∀ (k : IntKind) (x : Int), (Value.int k x).oneCell' = true from fun _ _ => rfl]⟩
def PiN (n : T.No) : Prop := I64 n.st ∧ Pi n.pl
/-- The cells of notes; R: what stands where they came from. -/
def NtC (R : Value → List T.Pl → Prop) : List T.No → List Value → Prop
  | [], cs => cs = []
  | n :: r, cs => ∃ fv cs', cs = noc n fv ++ cs' ∧ R fv n.fr ∧ PiN n ∧ NtC R r cs'
theorem NtC.len {R : Value → List T.Pl → Prop} : ∀ {l : List T.No} {cs : List Value}, NtC R l cs → cs.length = l.length * 4
  | [], _, h => by rw [h]; rfl
  | n :: r, _, ⟨fv, cs', e, _, _, h⟩ => by rw [e, List.length_append, NtC.len h, noc_sz, List.length_cons]; omega
theorem NtC.mono {R R' : Value → List T.Pl → Prop} (hR : ∀ v l, R v l → R' v l) : ∀ {l : List T.No} {cs : List Value}, NtC R l cs → NtC R' l cs
  | [], _, h => h
  | n :: r, _, ⟨fv, cs', e, h1, h2, h⟩ => ⟨fv, cs', e, hR _ _ h1, h2, NtC.mono hR h⟩
theorem NtC.snoc {R : Value → List T.Pl → Prop} {n : T.No} {fv : Value} (h1 : R fv n.fr) (h2 : PiN n) : ∀ {l : List T.No} {cs : List Value}, NtC R l cs → NtC R (l ++ [n]) (cs ++ noc n fv)
  | [], _, h => ⟨fv, [], by rw [h]; simp, h1, h2, rfl⟩
  | m :: r, _, ⟨gv, cs', e, k1, k2, h⟩ => ⟨gv, cs' ++ noc n fv, by rw [e, List.append_assoc], k1, k2, NtC.snoc h1 h2 h⟩
theorem NtC.at_ {R : Value → List T.Pl → Prop} : ∀ {l : List T.No} {cs : List Value} {k : Nat} {n : T.No}, NtC R l cs → l[k]? = some n → ∃ fv, (cs.drop (k * 4)).take 4 = noc n fv ∧ R fv n.fr ∧ PiN n
  | [], _, k, n, _, h => by simp at h
  | m :: r, _, 0, n, ⟨fv, cs', e, h1, h2, h⟩, hk => by
    simp at hk; subst hk
    exact ⟨fv, by rw [e]; rfl, h1, h2⟩
  | m :: r, _, k + 1, n, ⟨gv, cs', e, h1, h2, h⟩, hk => by
    rw [List.getElem?_cons_succ] at hk
    obtain ⟨fv, k1, k2⟩ := NtC.at_ h hk
    refine ⟨fv, ?_, k2⟩
    rw [e, show (k + 1) * 4 = k * 4 + 4 by omega]
    exact k1
/-- Places of one's own: in a block of places. -/
def Own (w : World) (v : Value) (l : List T.Pl) : Prop := Gs 42 2 w v l.length (l.flatMap plc) ∧ ∀ p ∈ l, Pi p
theorem Own.pls {w : World} {v : Value} {l : List T.Pl} (h : Own w v l) : PlsIn w v l := ⟨h.1.rd, h.2⟩
theorem Own.keep {w w' : World} {v : Value} {l : List T.Pl} (h : Own w v l) (hk : ∀ k cur, Blk w k cur 42 → w'.heap[k]? = w.heap[k]?) : Own w' v l :=
  ⟨h.1.keep fun k hb => by obtain ⟨cur, hc⟩ := h.1.in_ hb; exact hk k cur hc, h.2⟩
theorem Own.below {w w' : World} {v : Value} {l : List T.Pl} (h : Own w v l) (hb : Below w.heap.size w w') : Own w' v l := ⟨h.1.below hb, h.2⟩
/-- A row of notes of one's own. -/
def RowN (w : World) (v : Value) (l : List T.No) : Prop := ∃ cs, Gs 63 4 w v l.length cs ∧ NtC (Own w) l cs
theorem RowN.gs {w : World} {v : Value} {l : List T.No} (h : RowN w v l) : ∃ cs, Gs 63 4 w v l.length cs := by obtain ⟨cs, h1, _⟩ := h; exact ⟨cs, h1⟩
theorem RowN.shape {w : World} {v : Value} {l : List T.No} (h : RowN w v l) : ∃ ao c, v = .slice ao l.length c ∧ l.length ≤ c ∧ l.length ≤ maxLen := by obtain ⟨cs, h1, _⟩ := h; exact h1.shape
theorem RowN.one {w : World} {v : Value} {l : List T.No} (h : RowN w v l) : v.oneCell' = true := by obtain ⟨cs, h1, _⟩ := h; exact h1.one
theorem RowN.lt {w : World} {v : Value} {l : List T.No} (h : RowN w v l) {k : Nat} (hk : blkOf v = some k) : k < w.heap.size := by obtain ⟨cs, h1, _⟩ := h; exact h1.lt hk
theorem RowN.in_ {w : World} {v : Value} {l : List T.No} (h : RowN w v l) {k : Nat} (hk : blkOf v = some k) : ∃ cur, Blk w k cur 63 := by obtain ⟨cs, h1, _⟩ := h; exact h1.in_ hk
theorem RowN.nil (w : World) : RowN w (.slice none 0 0) [] := ⟨[], Gs.nil _ _ _, rfl⟩
theorem RowN.keep {w w' : World} {v : Value} {l : List T.No} (h : RowN w v l) (hk : ∀ k, blkOf v = some k → w'.heap[k]? = w.heap[k]?) (hp : ∀ k cur, Blk w k cur 42 → w'.heap[k]? = w.heap[k]?) : RowN w' v l := by
  obtain ⟨cs, h1, h2⟩ := h
  exact ⟨cs, h1.keep hk, h2.mono fun v l hv => hv.keep hp⟩
theorem RowN.below {w w' : World} {v : Value} {l : List T.No} (h : RowN w v l) (hb : Below w.heap.size w w') : RowN w' v l := by
  obtain ⟨cs, h1, h2⟩ := h
  exact ⟨cs, h1.below hb, h2.mono fun v l hv => hv.below hb⟩
/-- One of its notes. -/
theorem RowN.at_ {w : World} {v : Value} {l : List T.No} (h : RowN w v l) {k : Nat} (hk : k < l.length) : ∃ g o c n fv, v = .slice (some ⟨g, o, none⟩) l.length c ∧ l[k]? = some n ∧ PiN n ∧ Own w fv n.fr ∧ w.rangeAt g (o + k * 4) (noc n fv) := by
  obtain ⟨cs, h1, h2⟩ := h
  obtain ⟨g, o, c, e, _, hr⟩ := h1.rd.elem hk
  have hn : l[k]? = some l[k] := List.getElem?_eq_getElem hk
  obtain ⟨fv, h4, h5, h6⟩ := h2.at_ hn
  rw [h4] at hr
  exact ⟨g, o, c, _, fv, e, hn, h6, h5, hr⟩
theorem rng4 {w : World} {g o : Nat} {a b c d : Value} (h : w.rangeAt g o [a, b, c, d]) : w.cell? ⟨g, o, none⟩ = some a ∧ w.cell? ⟨g, o + 1, none⟩ = some b ∧ w.cell? ⟨g, o + 2, none⟩ = some c ∧ w.cell? ⟨g, o + 3, none⟩ = some d := ⟨h 0 a rfl, h 1 b rfl, h 2 c rfl, h 3 d rfl⟩

/-! ### a history -/
def hc (mb : Nat) (n : Nat) (la : Int) : Array Value := #[.map (some mb), .int .i64 (n : Int), .int .i64 la]
theorem hc_ok (mb n : Nat) (la : Int) : Ok1 3 (hc mb n la) := ⟨rfl, by simp [hc, Value.oneCell']⟩
def gOf (ns : List T.No) (V : T.Pl → Value) (p : T.Pl) : Option Value := if T.ofP ns p = [] then none else some (V p)
structure HsIs (w : World) (S mb : Nat) (ns : List T.No) (la : Int) (V : T.Pl → Value) : Prop where
  blk : Rf 58 3 w S (hc mb ns.length la)
  map : ∃ D, w.ownsMap Tryz.prog 42 hv mb ns.length D ∧ NtD (gOf ns V) D
  row : ∀ p, RowN w (V p) (T.ofP ns p)
  nil : ∀ p, T.ofP ns p = [] → V p = .slice none 0 0
  ap : ∀ p q k, blkOf (V p) = some k → blkOf (V q) = some k → p = q
  pi : ∀ n ∈ ns, PiN n
/-- Its own blocks. -/
def hF (S mb : Nat) (V : T.Pl → Value) (k : Nat) : Prop := k = S ∨ k = mb ∨ ∃ p, blkOf (V p) = some k
section
variable {w w' : World} {S mb : Nat} {ns : List T.No} {la : Int} {V : T.Pl → Value}
theorem HsIs.mapBlk (h : HsIs w S mb ns la V) : ∃ es c, w.heap[mb]? = some (.map es c) := by
  obtain ⟨D, h1, _⟩ := h.map
  exact own_blk h1
theorem HsIs.lt (h : HsIs w S mb ns la V) {k : Nat} (hk : hF S mb V k) : k < w.heap.size := by
  rcases hk with rfl | rfl | ⟨p, hp⟩
  · exact h.blk.lt
  · obtain ⟨D, h1, _⟩ := h.map; exact h1.lt
  · exact (h.row p).lt hp
theorem HsIs.below (h : HsIs w S mb ns la V) (hb : Below w.heap.size w w') : HsIs w' S mb ns la V := by
  obtain ⟨D, h1, h2⟩ := h.map
  exact ⟨h.blk.below hb, ⟨D, own_keep h1 (hb.block _ h1.lt), h2⟩, fun p => (h.row p).below hb, h.nil, h.ap, h.pi⟩
/-- Other rows of notes are turned. -/
theorem HsIs.turned (h : HsIs w S mb ns la V) {G : Nat → Prop} (ht : Turned G w w') (hG : ∀ k, G k → ¬ hF S mb V k ∧ ∀ cur, ¬ Blk w k cur 42) : HsIs w' S mb ns la V := by
  obtain ⟨D, h1, h2⟩ := h.map
  refine ⟨h.blk.turned ht fun e => (hG _ e).1 (.inl rfl), ⟨D, own_keep h1 (ht.block _ h1.lt fun e => (hG _ e).1 (.inr (.inl rfl))), h2⟩, fun p => (h.row p).keep (fun k hk => ?_) (fun k cur hb => ?_), h.nil, h.ap, h.pi⟩
  · exact ht.block k ((h.row p).lt hk) fun e => (hG k e).1 (.inr (.inr ⟨p, hk⟩))
  · exact ht.block k hb.lt fun e => (hG k e).2 cur hb
/-- None of its blocks holds places. -/
theorem HsIs.noPl (h : HsIs w S mb ns la V) {k : Nat} (hk : hF S mb V k) {cur : Array Value} (hb : Blk w k cur 42) : False := by
  rcases hk with rfl | rfl | ⟨p, hp⟩
  · have := h.blk.blk
    unfold Blk at this hb
    rw [this] at hb
    simp at hb
  · obtain ⟨es, c, h1⟩ := h.mapBlk
    unfold Blk at hb
    rw [h1] at hb; cases hb
  · obtain ⟨cur', h1⟩ := (h.row p).in_ hp
    unfold Blk at h1 hb
    rw [h1] at hb
    simp at hb
theorem HsIs.neS (h : HsIs w S mb ns la V) : S ≠ mb := by
  rintro rfl
  obtain ⟨es, c, h1⟩ := h.mapBlk
  have := h.blk.blk
  unfold Blk at this
  rw [this] at h1; cases h1
theorem HsIs.neR (h : HsIs w S mb ns la V) {p : T.Pl} {k : Nat} (hk : blkOf (V p) = some k) : k ≠ S ∧ k ≠ mb := by
  obtain ⟨cur, h1⟩ := (h.row p).in_ hk
  constructor
  · rintro rfl
    have := h.blk.blk
    unfold Blk at this h1
    rw [this] at h1
    simp at h1
  · rintro rfl
    obtain ⟨es, c, h2⟩ := h.mapBlk
    unfold Blk at h1
    rw [h2] at h1; cases h1
/-- What a place's look gives. -/
theorem HsIs.look (h : HsIs w S mb ns la V) {p : T.Pl} (hp : Pi p) : (Instr.lookup 56 (.map (some mb)) (.agg (pla p)) false).run Tryz.prog w = .ok (V p) w := by
  obtain ⟨D, h1, h2⟩ := h.map
  have hz : (zeroValue 66).run Tryz.prog w = .ok (.slice none 0 0) w := by kernel_rfl
  obtain ⟨es, c, hb, F, _, rfl⟩ := h1
  rcases Maps.fit_look false placeLaw Tryz.underlying56 hz hb F (key_place hp) with ⟨hrun, _, hat⟩ | ⟨e0, y, _, _, hrun, hR, hat, _⟩
  · have e : gOf ns V p = none := by
      have := h2.has p hp
      rw [Maps.has_false_of_atKey hat] at this
      simpa using this.symm
    have : T.ofP ns p = [] := by
      unfold gOf at e
      split at e
      · assumption
      · cases e
    rw [h.nil p this]; exact hrun
  · have e : (gOf ns V p).isSome = true := by rw [← h2.has p hp]; exact Maps.has_true_of_atKey hat
    have e2 : gOf ns V p = some (V p) := by
      unfold gOf at e ⊢
      split at e
      · cases e
      · rename_i hne; rw [if_neg hne]
    have h3 := h2.at_ p hp _ e2 .nil
    rw [hat] at h3
    have h4 : e0.val = V p := by
      rw [hv_at] at hR
      cases hR
      simpa using h3
    rw [← h4]; exact hrun
end
end Go.Proofs.YtiohlmccnllklaaGreatDoor.Q
namespace Go.Proofs.YtiohlmccnllklaaGreatDoor.Q
open Go.RowKit
set_option maxHeartbeats 8000000
set_option maxRecDepth 100000
set_option linter.unusedVariables false
set_option linter.unusedSimpArgs false

theorem zero_place (w : World) : (zeroValue 42).run Tryz.prog w = .ok (.agg #[.int .i64 0, .int .i64 0]) w := by kernel_rfl
theorem zero_note (w : World) : (zeroValue 63).run Tryz.prog w = .ok (.agg #[.int .i64 0, .int .i64 0, .int .i64 0, .slice none 0 0]) w := by kernel_rfl
theorem zero_hist (w : World) : (zeroValue 58).run Tryz.prog w = .ok (.agg #[.map none, .int .i64 0, .int .i64 0]) w := by kernel_rfl

/-! ### none -/
theorem none_nil (w : World) : Calls Tryz.prog 41 #[.pointer none] w fun e w' => e = .returned (.bool true) ∧ w = w' := by
  go_enter Tryz.func41, Tryz.ntmps41
  go_wp2
  go_ret
  exact ⟨rfl, rfl⟩
theorem none_zero (S : Nat) (w : World) (h : w.cell? ⟨S, 0, none⟩ = some (.map none)) : Calls Tryz.prog 41 #[.pointer (some ⟨S, 0, none⟩)] w fun e w' => e = .returned (.bool true) ∧ w = w' := by
  have he := fun W => Go.run_eql_map_nil (P := Tryz.prog) W 56 42 66 none Tryz.underlying56
  go_enter Tryz.func41, Tryz.ntmps41
  go_wp2
  go_ret
  exact ⟨rfl, rfl⟩
theorem none_some (S mb : Nat) (w : World) (h : w.cell? ⟨S, 0, none⟩ = some (.map (some mb))) : Calls Tryz.prog 41 #[.pointer (some ⟨S, 0, none⟩)] w fun e w' => e = .returned (.bool false) ∧ w = w' := by
  have he := fun W => Go.run_eql_map_nil (P := Tryz.prog) W 56 42 66 (some mb) Tryz.underlying56
  go_enter Tryz.func41, Tryz.ntmps41
  go_wp2
  go_ret
  exact ⟨rfl, rfl⟩

/-! ### decides, copied -/
theorem decides_any (p : T.Pl) (fv : Value) (w : World) : Calls Tryz.prog 38 #[.agg #[.int .i64 p.1, .int .i64 p.2, fv]] w fun e w' => e = .returned (.bool (decide (p = T.none0))) ∧ Below w.heap.size w w' := by
  have hz := zero_place
  have he := fun w => eql_place p (0, 0) w
  have HB := Lib.hid (bel1 w (.cells #[.int .i64 p.1, .int .i64 p.2, fv] 61))
  go_enter Tryz.func38, Tryz.ntmps38
  go_wp2
  go_ret
  exact ⟨rfl, HB.out⟩
theorem infoPl : (Tryz.prog.info? 42).map (fun i => (i.zero, i.size, i.bytes)) = some (some (.agg #[.int .i64 0, .int .i64 0]), 2, 16) := by kernel_rfl
theorem infoNt : (Tryz.prog.info? 63).map (fun i => (i.zero, i.size, i.bytes)) = some (some (.agg #[.int .i64 0, .int .i64 0, .int .i64 0, .slice none 0 0]), 4, 48) := by kernel_rfl
theorem plc_one (l : List T.Pl) : ∀ u ∈ l.flatMap plc, u.oneCell' = true := by
  intro u hu
  obtain ⟨q, _, hq⟩ := List.mem_flatMap.1 hu
  simp [plc] at hq
  rcases hq with rfl | rfl <;> rfl
theorem rd_src {sl e : TypeId} {sz : Nat} {w : World} {v : Value} {n : Nat} {cs : List Value} (hu : Tryz.prog.underlying sl = some (.slice e)) (h : Rd sz w v n cs) (h1 : ∀ u ∈ cs, u.oneCell' = true) : Src Tryz.prog sz sl v n cs w := by
  obtain ⟨h0, ao, c, rfl, h2, h3, h4⟩ := h
  rcases Nat.eq_zero_or_pos n with e0 | e0
  · subst e0
    have : cs = [] := by simpa using h0
    subst this
    cases ao with
    | none => exact Src.ofNil w hu c
    | some a => exact Src.ofSlice w hu a 0 c [] (by simp) (by intro j u hj; simp at hj) (by simp)
  · obtain ⟨g, o, rfl, hr⟩ := h4 e0
    exact Src.ofSlice w hu ⟨g, o, none⟩ n c cs h0 (fun j u hj => by rw [add_lit]; exact hr j u hj) h1
theorem copied_any {w : World} {v : Value} {l : List T.Pl} (hv : PlsIn w v l) (hl : l.length ≤ 1000000) : Calls Tryz.prog 40 #[v] w fun e w' => ∃ u, e = .returned u ∧ Own w' u l ∧ Below w.heap.size w w' := by
  have hsrc := rd_src Tryz.underlying24 hv.1 (plc_one l)
  have HP := Lib.hid hv.2
  clear hv
  go_enter Tryz.func40, Tryz.ntmps40
  go_wp2_with (refine wp_append_g rfl _ _ rfl Tryz.underlying24 infoPl rfl (by omega) (by omega) rfl rfl (Gs.nil 42 2 w) hsrc (by omega) ?_; intro v6 w6 hg6 ht6 hn6)
  have HB := Lib.hid (ht6.below (Nat.le_refl _) (fun k hk => by have hk' : blkOf (.slice none 0 0) = some k := hk; simp [blkOf] at hk'))
  have HG : Hid (Own w6 v6 l) := by
    refine ⟨?_, HP.out⟩
    rw [Nat.zero_add, List.nil_append] at hg6
    exact hg6
  clear hg6 ht6 hn6 hsrc
  go_wp2
  go_ret
  exact ⟨_, rfl, HG.out, HB.out⟩

/-! ### New, Len -/
theorem new_any (w : World) : Calls Tryz.prog 23 #[] w fun e w' => ∃ S mb, e = .returned (.pointer (some ⟨S, 0, none⟩)) ∧ w.heap.size ≤ S ∧ w.heap.size ≤ mb ∧ HsIs w' S mb [] 0 (fun _ => .slice none 0 0) ∧ Below w.heap.size w w' := by
  have hz := zero_hist
  have hmm := @run_makeMap Tryz.prog
  have hm := World.ownsMap_made w Tryz.prog 42 hv
  have HB := Lib.hid (belT (bel1 w (.map #[] 0)) (bel1 _ (.cells (hc w.heap.size 0 0) 58)))
  have HH : Hid (HsIs ((w.alloc (.map #[] 0)).alloc (.cells (hc w.heap.size 0 0) 58)) (w.alloc (.map #[] 0)).heap.size w.heap.size [] 0 (fun _ => .slice none 0 0)) :=
    ⟨(hc_ok _ _ _).new _ _, ⟨_, own_keep hm ((bel1 (w.alloc (.map #[] 0)) _).block _ (by simp)), ntD_new⟩, fun p => RowN.nil _, fun p _ => rfl, fun p q k hk => by simp [blkOf] at hk, fun n hn => by cases hn⟩
  clear hm
  unfold hc at HB HH
  go_enter Tryz.func23, Tryz.ntmps23
  go_wp2
  go_ret
  refine ⟨_, w.heap.size, rfl, ?_, Nat.le_refl _, ?_, HB.out⟩
  · simp
  · have := HH.out
    simpa using this
theorem len_nil (w : World) : Calls Tryz.prog 22 #[.pointer none] w fun e w' => e = .returned (.int .i64 0) ∧ w = w' := by
  go_enter Tryz.func22, Tryz.ntmps22
  go_wp2_with (go_at_call 41; refine (none_nil _).mono ?_; rintro e w' ⟨rfl, rfl⟩)
  go_ret
  exact ⟨rfl, rfl⟩
theorem len_any {w : World} {S mb : Nat} {n : Nat} {la : Int} (h : Rf 58 3 w S (hc mb n la)) : Calls Tryz.prog 22 #[.pointer (some ⟨S, 0, none⟩)] w fun e w' => e = .returned (.int .i64 (n : Int)) ∧ w = w' := by
  have c0 := h.cell 0
  have c1 := h.cell 1
  unfold hc at c0 c1
  simp only [List.getElem?_toArray, List.getElem?_cons_zero, List.getElem?_cons_succ] at c0 c1
  have HN := Lib.hid (none_some S mb w c0)
  clear h
  go_enter Tryz.func22, Tryz.ntmps22
  go_wp2_with (go_at_call 41; refine HN.out.mono ?_; rintro e w' ⟨rfl, rfl⟩)
  go_ret
  exact ⟨rfl, rfl⟩

/-! ### comparisons -/
theorem nan64 (x : Int) (w : World) : Calls Tryz.prog 79 #[.int .i64 x] w fun e w' => e = .returned (.bool false) ∧ w = w' := by
  go_enter Tryz.func79, Tryz.ntmps79
  go_wp2
  go_ret
  exact ⟨rfl, rfl⟩
theorem nanK (x : Int) (w : World) : Calls Tryz.prog 90 #[.int .i64 x] w fun e w' => e = .returned (.bool false) ∧ w = w' := by
  go_enter Tryz.func90, Tryz.ntmps90
  go_wp2
  go_ret
  exact ⟨rfl, rfl⟩
theorem nanI (x : Int) (w : World) : Calls Tryz.prog 91 #[.int .i64 x] w fun e w' => e = .returned (.bool false) ∧ w = w' := by
  go_enter Tryz.func91, Tryz.ntmps91
  go_wp2
  go_ret
  exact ⟨rfl, rfl⟩
def cmpI (x y : Int) : Int := if x < y then -1 else if y < x then 1 else 0
theorem cmp64 (x y : Int) (w : World) : Calls Tryz.prog 66 #[.int .i64 x, .int .i64 y] w fun e w' => e = .returned (.int .i64 (cmpI x y)) ∧ w = w' := by
  unfold cmpI
  rcases Int.lt_trichotomy x y with h | h | h
  · rw [if_pos h]
    go_enter Tryz.func66, Tryz.ntmps66
    go_wp2_with (go_at_call 79; refine (nan64 _ _).mono ?_; rintro e w' ⟨rfl, rfl⟩)
    go_ret
    exact ⟨rfl, rfl⟩
  · subst h
    rw [if_neg (by omega), if_neg (by omega)]
    go_enter Tryz.func66, Tryz.ntmps66
    go_wp2_with (go_at_call 79; refine (nan64 _ _).mono ?_; rintro e w' ⟨rfl, rfl⟩)
    go_ret
    exact ⟨rfl, rfl⟩
  · have h2 : ¬ x < y := by omega
    rw [if_neg h2, if_pos h]
    go_enter Tryz.func66, Tryz.ntmps66
    go_wp2_with (go_at_call 79; refine (nan64 _ _).mono ?_; rintro e w' ⟨rfl, rfl⟩)
    go_ret
    exact ⟨rfl, rfl⟩
theorem cmpK (x y : Int) (w : World) : Calls Tryz.prog 70 #[.int .i64 x, .int .i64 y] w fun e w' => e = .returned (.int .i64 (cmpI x y)) ∧ w = w' := by
  unfold cmpI
  rcases Int.lt_trichotomy x y with h | h | h
  · rw [if_pos h]
    go_enter Tryz.func70, Tryz.ntmps70
    go_wp2_with (go_at_call 90; refine (nanK _ _).mono ?_; rintro e w' ⟨rfl, rfl⟩)
    go_ret
    exact ⟨rfl, rfl⟩
  · subst h
    rw [if_neg (by omega), if_neg (by omega)]
    go_enter Tryz.func70, Tryz.ntmps70
    go_wp2_with (go_at_call 90; refine (nanK _ _).mono ?_; rintro e w' ⟨rfl, rfl⟩)
    go_ret
    exact ⟨rfl, rfl⟩
  · have h2 : ¬ x < y := by omega
    rw [if_neg h2, if_pos h]
    go_enter Tryz.func70, Tryz.ntmps70
    go_wp2_with (go_at_call 90; refine (nanK _ _).mono ?_; rintro e w' ⟨rfl, rfl⟩)
    go_ret
    exact ⟨rfl, rfl⟩
theorem cmpII (x y : Int) (w : World) : Calls Tryz.prog 71 #[.int .i64 x, .int .i64 y] w fun e w' => e = .returned (.int .i64 (cmpI x y)) ∧ w = w' := by
  unfold cmpI
  rcases Int.lt_trichotomy x y with h | h | h
  · rw [if_pos h]
    go_enter Tryz.func71, Tryz.ntmps71
    go_wp2_with (go_at_call 91; refine (nanI _ _).mono ?_; rintro e w' ⟨rfl, rfl⟩)
    go_ret
    exact ⟨rfl, rfl⟩
  · subst h
    rw [if_neg (by omega), if_neg (by omega)]
    go_enter Tryz.func71, Tryz.ntmps71
    go_wp2_with (go_at_call 91; refine (nanI _ _).mono ?_; rintro e w' ⟨rfl, rfl⟩)
    go_ret
    exact ⟨rfl, rfl⟩
  · have h2 : ¬ x < y := by omega
    rw [if_neg h2, if_pos h]
    go_enter Tryz.func71, Tryz.ntmps71
    go_wp2_with (go_at_call 91; refine (nanI _ _).mono ?_; rintro e w' ⟨rfl, rfl⟩)
    go_ret
    exact ⟨rfl, rfl⟩
end Go.Proofs.YtiohlmccnllklaaGreatDoor.Q
namespace Go.Proofs.YtiohlmccnllklaaGreatDoor.Q
open Go.RowKit
set_option maxHeartbeats 8000000
set_option maxRecDepth 100000
set_option linter.unusedVariables false
set_option linter.unusedSimpArgs false

theorem last1_any (n : T.No) (fv : Value) (s : Int) (w : World) : Calls Tryz.prog 65 #[.agg (noc n fv).toArray, .int .i64 s] w fun e w' => e = .returned (.int .i64 (cmpI n.st s)) ∧ Below w.heap.size w w' := by
  have HB := Lib.hid (bel1 w (.cells (noc n fv).toArray 63))
  unfold noc at HB ⊢
  go_enter Tryz.func65, Tryz.ntmps65
  go_wp2_with (go_at_call 66; refine (cmp64 _ _ _).mono ?_; rintro e w' ⟨rfl, rfl⟩)
  go_ret
  exact ⟨rfl, HB.out⟩
theorem cmpI_neg {x y : Int} : cmpI x y < 0 ↔ x < y := by unfold cmpI; split <;> (try split) <;> omega
/-- What the search tells. -/
def BinO (w : World) (m : Nat) (e : Ending) (w' : World) : Prop := ∃ b : Bool, e = .returned (.tuple #[.int .i64 (m : Int), .bool b]) ∧ Below w.heap.size w w'
theorem binF_any {w : World} {v : Value} {l : List T.No} (h : RowN w v l) (hu : l.Pairwise (fun a b => a.st ≤ b.st)) (s : Int) (hl : l.length ≤ 1000000) :
    Calls Tryz.prog 64 #[v, .int .i64 s, .func (.func 65) #[] #[]] w fun e w' => BinO w (T.cnt l s) e w' := by
  obtain ⟨ov, cv, rfl, _, _⟩ := h.shape
  have HR := Lib.hid (fun W (hb : Below w.heap.size w W) => h.below hb)
  have HC := Lib.hid (fun i n (hi : l[i]? = some n) => T.cnt_at hu s hi)
  have hcl := T.cnt_le l s
  generalize hm : T.cnt l s = m at HC hcl
  have HB0 := Lib.hid (Below.refl w.heap.size w)
  clear h hu hm
  go_enter Tryz.func64, Tryz.ntmps64
  go_wp2
  go_loopw [9, 10] (fun a b wr => ∃ i j : Nat, i ≤ m ∧ m ≤ j ∧ j ≤ l.length ∧ a = .int .i64 (i : Int) ∧ b = .int .i64 (j : Int) ∧ Hid (Below w.heap.size w wr)) (fun a b _ => natI b - natI a)
  case atStart => exact ⟨0, l.length, by omega, hcl, Nat.le_refl _, rfl, rfl, HB0.out⟩
  case round =>
    obtain ⟨i, j, h1, h2, h3, rfl, rfl, HB⟩ := hrel
    by_cases hlt : i < j
    · obtain ⟨x, hx⟩ : ∃ x, x = (i + j) / 2 := ⟨_, rfl⟩
      have hxl : i ≤ x ∧ x < j := by omega
      have hxe : ((i : Int) + (j : Int)) / 2 = (x : Int) := by omega
      obtain ⟨g1, o1, c1, n, fv, e1, l1, hpi, hown, r1⟩ := (HR.out _ HB.out).at_ (k := x) (by omega)
      have hcx := HC.out x n l1
      simp at e1
      obtain ⟨rfl, rfl⟩ := e1
      have hi : (i : Int) < (j : Int) := by omega
      obtain ⟨q1, q2, q3, q4⟩ := rng4 r1
      have H1 := Lib.hid h1
      have H2 := Lib.hid h2
      have H3 := Lib.hid h3
      have HX := Lib.hid hxl
      have HI := Lib.hid l1
      have hxn : x + 1 ≤ 1000000 := by omega
      have hx2 : x < l.length := by omega
      clear hx r1 hown h1 h2 h3
      go_wp2_with fail
      refine (last1_any n fv s _).mono ?_
      rintro e w1 ⟨rfl, hb⟩
      have HB1 := Lib.hid (belT HB.out hb)
      clear hb
      by_cases hc : n.st < s
      · have hcc := cmpI_neg.2 hc
        have hxm := hcx.1 hc
        clear hc hcx
        go_wp2
        go_roundw
        case rel => exact ⟨x + 1, j, by omega, H2.out, H3.out, by go_num, rfl, HB1.out⟩
        case measure => have := HX.out; simp [natI]; omega
      · have hcc : ¬ cmpI n.st s < 0 := fun e => hc (cmpI_neg.1 e)
        have hxm : ¬ x < m := fun e => hc (hcx.2 e)
        clear hc hcx
        go_wp2
        go_roundw
        case rel => have := HX.out; have := H3.out; exact ⟨i, x, H1.out, by omega, by omega, rfl, rfl, HB1.out⟩
        case measure => have := HX.out; simp [natI]; omega
    · obtain rfl : i = m := by omega
      obtain rfl : i = j := by omega
      have hi : ¬ (i : Int) < (i : Int) := by omega
      by_cases hin : i < l.length
      · obtain ⟨g1, o1, c1, n, fv, e1, l1, hpi, hown, r1⟩ := (HR.out _ HB.out).at_ hin
        simp at e1
        obtain ⟨rfl, rfl⟩ := e1
        obtain ⟨q1, q2, q3, q4⟩ := rng4 r1
        have hi2 : (i : Int) < (l.length : Int) := by omega
        clear r1 hown h1 h2 h3 l1
        go_wp2_with fail
        refine (last1_any n fv s _).mono ?_
        rintro e w1 ⟨rfl, hb⟩
        have HB1 := Lib.hid (belT HB.out hb)
        clear hb
        go_wp2
        go_ret2
        exact ⟨_, rfl, HB1.out⟩
      · have hi2 : ¬ (i : Int) < (l.length : Int) := by omega
        clear h1 h2 h3
        go_wp2
        go_ret2
        exact ⟨_, rfl, HB.out⟩
end Go.Proofs.YtiohlmccnllklaaGreatDoor.Q

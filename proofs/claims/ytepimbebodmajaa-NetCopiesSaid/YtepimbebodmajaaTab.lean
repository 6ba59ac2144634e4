/-
  Layer 9: what a world holds where a net, or the document's net, lies: slices of bytes, of packets, of slices of bytes.
-/
import Derived.Test.YtepimbebodmajaaGs
import Derived.Deep.Slices
namespace Go.Proofs.Ytepimbebodmajaa
open Go.RowKit
set_option linter.unusedVariables false

/-! ### bytes -/
theorem bv_append (a b : List Int) : bv (a ++ b) = bv a ++ bv b := by simp [bv]
/-- A slice of bytes of one's own. -/
def Qs (w : World) (v : Value) (xs : List Int) : Prop := Byt xs ∧ Gs 5 1 w v xs.length (bv xs)
section
variable {w w' : World} {v : Value} {xs : List Int}
theorem Qs.byt (h : Qs w v xs) : Byt xs := h.1
theorem Qs.keep (h : Qs w v xs) (hk : ∀ k, blkOf v = some k → w'.heap[k]? = w.heap[k]?) : Qs w' v xs := ⟨h.1, h.2.keep hk⟩
theorem Qs.lt (h : Qs w v xs) {k : Nat} (hk : blkOf v = some k) : k < w.heap.size := h.2.lt hk
theorem Qs.below (h : Qs w v xs) (hb : Below w.heap.size w w') : Qs w' v xs := ⟨h.1, h.2.below hb⟩
theorem Qs.turned {F : Nat → Prop} (h : Qs w v xs) (ht : Turned F w w') (hn : ∀ k, blkOf v = some k → ¬ F k) : Qs w' v xs := ⟨h.1, h.2.turned ht hn⟩
theorem Qs.nil (w : World) : Qs w (.slice none 0 0) [] := ⟨fun x hx => (by cases hx), Gs.nil _ _ w⟩
theorem Qs.shape (h : Qs w v xs) : ∃ ao c, v = .slice ao xs.length c ∧ xs.length ≤ c ∧ xs.length ≤ maxLen := h.2.shape
theorem Qs.nums (h : Qs w v xs) : NumsIn .u8 w v xs := by
  obtain ⟨ao, c, rfl, h2, h3⟩ := h.shape
  cases ao with
  | none =>
    have hn : xs = [] := by
      rcases Nat.eq_zero_or_pos xs.length with e | e
      · exact List.eq_nil_of_length_eq_zero e
      · have hl : 0 < (bv xs).length := by rw [bv_length]; exact e
        obtain ⟨g, o, c', e1, _⟩ := h.2.cell (List.getElem?_eq_getElem hl)
        simp at e1
    subst hn
    have : c = 0 ∨ 0 < c := by omega
    rcases this with rfl | hc
    · exact .inl ⟨rfl, rfl⟩
    · obtain ⟨_, ao, c', e1, _, _, h4⟩ := h.2
      simp at e1
      obtain ⟨rfl, rfl⟩ := e1
      obtain ⟨_, _, _, e2, _⟩ := h4 hc
      cases e2
  | some a =>
    refine .inr ⟨a, c, rfl, h2, h3, fun i x hi => ?_, fun x hx => wf_of_u8 (h.1 x hx)⟩
    exact h.2.read rfl i _ (by rw [bv_at, hi]; rfl)
theorem Qs.lit (w : World) {xs : List Int} (hb : Byt xs) (hm : xs.length ≤ maxLen) : Qs (w.alloc (.cells (bv xs).toArray 5)) (.slice (some ⟨w.heap.size, 0, none⟩) xs.length xs.length) xs := by
  have := Gs.lit w 5 (sz := 1) (n := xs.length) (cs := (bv xs).toArray) (by simp [bv]) hm
  exact ⟨hb, by simpa using this⟩
end
theorem A.infoB : (Try.prog.info? 5).map (fun i => (i.zero, i.size, i.bytes)) = some (some (.int .u8 0), 1, 1) := by kernel_rfl
/-- What is appended: a slice of bytes. -/
theorem NumsIn.src {w : World} {v : Value} {xs : List Int} (h : NumsIn .u8 w v xs) : Src Try.prog 1 32 v xs.length (bv xs) w := by
  rcases h with ⟨rfl, rfl⟩ | ⟨a, c, rfl, _, _, h4, _⟩
  · exact Src.ofNil w Try.underlying32 0
  · refine Src.ofSlice w Try.underlying32 a xs.length c (bv xs) (by simp [bv]) (fun j u hj => ?_) (bv_one xs)
    rw [bv_at] at hj
    obtain ⟨x, hx, rfl⟩ := Option.map_eq_some_iff.1 hj
    exact h4 j x hx
/-- The block that a slice reads. -/
def rdBlk : Value → Option Nat
  | .slice (some a) n _ => if n = 0 then none else some a.block
  | _ => none
section
variable {w w' : World}
theorem NumsIn.keep {k : IntKind} {xs : List Int} {v : Value} (h : NumsIn k w v xs) (hk : ∀ b, rdBlk v = some b → w'.heap[b]? = w.heap[b]?) : NumsIn k w' v xs := by
  rcases h with h | ⟨a, c, rfl, h2, h3, h4, h5⟩
  · exact .inl h
  · refine .inr ⟨a, c, rfl, h2, h3, fun i x hi => ?_, h5⟩
    have h6 := h4 i x hi
    have hil : i < xs.length := (List.getElem?_eq_some_iff.1 hi).1
    have hb : (a.add i).block = a.block := by unfold Addr.add; split <;> rfl
    have := hk a.block (by simp [rdBlk]; intro e; rw [e] at hil; simp at hil)
    unfold World.cell? at h6 ⊢
    rw [hb] at h6 ⊢
    rw [this]; exact h6
theorem NumsIn.lt {k : IntKind} {xs : List Int} {v : Value} (h : NumsIn k w v xs) {b : Nat} (hb : rdBlk v = some b) : b < w.heap.size := by
  rcases h with ⟨rfl, _⟩ | ⟨a, c, rfl, h2, h3, h4, h5⟩
  · simp [rdBlk] at hb
  · simp [rdBlk] at hb
    obtain ⟨h0, rfl⟩ := hb
    have hl : 0 < xs.length := List.length_pos_iff.2 h0
    have h6 := h4 0 _ (List.getElem?_eq_getElem hl)
    have := World.block_lt_of_cell? _ _ h6
    have hb : (a.add 0).block = a.block := by unfold Addr.add; split <;> rfl
    omega
theorem NumsIn.turned {F : Nat → Prop} {k : IntKind} {xs : List Int} {v : Value} (h : NumsIn k w v xs) (ht : Turned F w w') (hn : ∀ b, rdBlk v = some b → ¬ F b) : NumsIn k w' v xs := h.keep fun b hb => ht.block b (h.lt hb) (hn b hb)
theorem NumsIn.one {k : IntKind} {xs : List Int} {v : Value} (h : NumsIn k w v xs) : v.oneCell' = true := by
  obtain ⟨o, c, rfl, _⟩ := h.form
  rfl
end
theorem Qs.rd {w : World} {xs : List Int} {v : Value} (h : Qs w v xs) {k : Nat} (hk : rdBlk v = some k) : blkOf v = some k := by
  obtain ⟨ao, c, rfl, h2, h3⟩ := h.shape
  cases ao with
  | none => simp [rdBlk] at hk
  | some a =>
    simp [rdBlk] at hk
    have : 0 < xs.length := List.length_pos_iff.2 hk.1
    simp [blkOf]; exact ⟨by omega, hk.2⟩

/-! ### packets -/
/-- A packet: its bytes' slice, the number of its first byte, its bytes. -/
structure Pk where
  v : Value
  f : Nat
  x : List Int
/-- Packets' cells. -/
def pcs : List Pk → List Value
  | [] => []
  | p :: r => p.v :: .int .i64 (p.f : Int) :: pcs r
theorem pcs_length (l : List Pk) : (pcs l).length = l.length * 2 := by
  induction l with
  | nil => rfl
  | cons p r ih => simp [pcs, ih]; omega
theorem pcs_append (a b : List Pk) : pcs (a ++ b) = pcs a ++ pcs b := by
  induction a with
  | nil => rfl
  | cons p r ih => simp [pcs, ih]
theorem pcs_at {l : List Pk} {i : Nat} {p : Pk} (h : l[i]? = some p) : (pcs l)[2 * i]? = some p.v ∧ (pcs l)[2 * i + 1]? = some (.int .i64 (p.f : Int)) := by
  induction l generalizing i with
  | nil => simp at h
  | cons q r ih =>
    cases i with
    | zero => simp at h; subst h; simp [pcs]
    | succ i =>
      have := ih (i := i) (by simpa using h)
      rw [show 2 * (i + 1) = 2 * i + 1 + 1 by omega]
      simpa [pcs] using this
theorem pcs_one {l : List Pk} (h : ∀ p ∈ l, p.v.oneCell' = true) : ∀ u ∈ pcs l, u.oneCell' = true := by
  induction l with
  | nil => intro u hu; cases hu
  | cons p r ih =>
    intro u hu
    simp only [pcs, List.mem_cons] at hu
    rcases hu with rfl | rfl | hu
    · exact h p (by simp)
    · rfl
    · exact ih (fun q hq => h q (by simp [hq])) u hu
/-- The numbers of first bytes, from b on. -/
def Firsts : Nat → List Pk → Prop
  | _, [] => True
  | b, p :: r => p.f = b ∧ Firsts (b + p.x.length) r
theorem Firsts.snoc {b : Nat} {l : List Pk} (h : Firsts b l) (p : Pk) (hp : p.f = b + tot (l.map Pk.x)) : Firsts b (l ++ [p]) := by
  induction l generalizing b with
  | nil => simp only [List.map_nil, tot] at hp; exact ⟨by omega, trivial⟩
  | cons q r ih =>
    refine ⟨h.1, ih h.2 ?_⟩
    simp only [List.map_cons, tot] at hp; omega
/-- PACKETS LIE IN A SLICE OF ONE'S OWN. -/
structure PsIs (w : World) (v : Value) (l : List Pk) : Prop where
  g : Gs 71 2 w v l.length (pcs l)
  q : ∀ p ∈ l, Qs w p.v p.x
def psB (v : Value) (l : List Pk) (k : Nat) : Prop := blkOf v = some k ∨ ∃ p ∈ l, blkOf p.v = some k
section
variable {w w' : World} {v : Value} {l : List Pk}
theorem PsIs.nil (w : World) : PsIs w (.slice none 0 0) [] := ⟨Gs.nil _ _ w, fun p hp => by cases hp⟩
theorem PsIs.lt (h : PsIs w v l) {k : Nat} (hk : psB v l k) : k < w.heap.size := by
  rcases hk with hk | ⟨p, hp, hk⟩
  · exact h.g.lt hk
  · exact (h.q p hp).lt hk
theorem PsIs.keep (h : PsIs w v l) (hk : ∀ k, psB v l k → w'.heap[k]? = w.heap[k]?) : PsIs w' v l := ⟨h.g.keep fun k e => hk k (.inl e), fun p hp => (h.q p hp).keep fun k e => hk k (.inr ⟨p, hp, e⟩)⟩
theorem PsIs.below (h : PsIs w v l) (hb : Below w.heap.size w w') : PsIs w' v l := h.keep fun k hk => hb.block k (h.lt hk)
theorem PsIs.turned {F : Nat → Prop} (h : PsIs w v l) (ht : Turned F w w') (hn : ∀ k, psB v l k → ¬ F k) : PsIs w' v l := h.keep fun k hk => ht.block k (h.lt hk) (hn k hk)
theorem PsIs.cells (h : PsIs w v l) {i : Nat} {p : Pk} (hi : l[i]? = some p) : ∃ g o c, v = .slice (some ⟨g, o, none⟩) l.length c ∧ w.cell? ⟨g, o + 2 * i, none⟩ = some p.v ∧ w.cell? ⟨g, o + (2 * i + 1), none⟩ = some (.int .i64 (p.f : Int)) := by
  obtain ⟨c1, c2⟩ := pcs_at hi
  obtain ⟨g, o, c, e1, e2, _⟩ := h.g.cell c1
  obtain ⟨g', o', c', e1', e2', _⟩ := h.g.cell c2
  rw [e1] at e1'
  simp at e1'
  obtain ⟨⟨rfl, rfl⟩, rfl⟩ := e1'
  exact ⟨g, o, c, e1, e2, e2'⟩
theorem PsIs.ones (h : PsIs w v l) : ∀ p ∈ l, p.v.oneCell' = true := fun p hp => (h.q p hp).nums.one
end
/-- SLICES OF BYTES LIE IN A SLICE OF ONE'S OWN. -/
structure LsIs (w : World) (v : Value) (l : List Pk) : Prop where
  g : Gs 32 1 w v l.length (l.map Pk.v)
  q : ∀ p ∈ l, Qs w p.v p.x
section
variable {w w' : World} {v : Value} {l : List Pk}
theorem LsIs.nil (w : World) : LsIs w (.slice none 0 0) [] := ⟨Gs.nil _ _ w, fun p hp => by cases hp⟩
theorem LsIs.lt (h : LsIs w v l) {k : Nat} (hk : psB v l k) : k < w.heap.size := by
  rcases hk with hk | ⟨p, hp, hk⟩
  · exact h.g.lt hk
  · exact (h.q p hp).lt hk
theorem LsIs.keep (h : LsIs w v l) (hk : ∀ k, psB v l k → w'.heap[k]? = w.heap[k]?) : LsIs w' v l := ⟨h.g.keep fun k e => hk k (.inl e), fun p hp => (h.q p hp).keep fun k e => hk k (.inr ⟨p, hp, e⟩)⟩
theorem LsIs.below (h : LsIs w v l) (hb : Below w.heap.size w w') : LsIs w' v l := h.keep fun k hk => hb.block k (h.lt hk)
theorem LsIs.turned {F : Nat → Prop} (h : LsIs w v l) (ht : Turned F w w') (hn : ∀ k, psB v l k → ¬ F k) : LsIs w' v l := h.keep fun k hk => ht.block k (h.lt hk) (hn k hk)
theorem LsIs.ones (h : LsIs w v l) : ∀ u ∈ l.map Pk.v, u.oneCell' = true := fun u hu => by
  obtain ⟨p, hp, rfl⟩ := List.mem_map.1 hu
  exact (h.q p hp).nums.one
end
/-- SLICES OF BYTES THAT ARE READ. -/
structure RsIs (w : World) (v : Value) (l : List Pk) : Prop where
  r : (v = .slice none 0 0 ∧ l = []) ∨ ∃ (a : Addr) (c : Nat), v = .slice (some a) l.length c ∧ l.length ≤ c ∧ ∀ (i : Nat) p, l[i]? = some p → w.cell? (a.add i) = some p.v
  q : ∀ p ∈ l, NumsIn .u8 w p.v p.x
  len : l.length ≤ maxLen
def rdB (v : Value) (l : List Pk) (k : Nat) : Prop := rdBlk v = some k ∨ ∃ p ∈ l, rdBlk p.v = some k
section
variable {w w' : World} {v : Value} {l : List Pk}
theorem RsIs.nil (w : World) : RsIs w (.slice none 0 0) [] := ⟨.inl ⟨rfl, rfl⟩, fun p hp => (by cases hp), by simp [maxLen]⟩
theorem add_block (a : Addr) (i : Nat) : (a.add i).block = a.block := by unfold Addr.add; split <;> rfl
theorem RsIs.lt (h : RsIs w v l) {k : Nat} (hk : rdB v l k) : k < w.heap.size := by
  rcases hk with hk | ⟨p, hp, hk⟩
  · rcases h.r with ⟨rfl, _⟩ | ⟨a, c, rfl, h2, h4⟩
    · simp [rdBlk] at hk
    · simp [rdBlk] at hk
      obtain ⟨h0, rfl⟩ := hk
      have hl : 0 < l.length := List.length_pos_iff.2 h0
      have := World.block_lt_of_cell? _ _ (h4 0 _ (List.getElem?_eq_getElem hl))
      rwa [add_block] at this
  · exact (h.q p hp).lt hk
theorem RsIs.keep (h : RsIs w v l) (hk : ∀ k, rdB v l k → w'.heap[k]? = w.heap[k]?) : RsIs w' v l := by
  refine ⟨?_, fun p hp => (h.q p hp).keep fun k e => hk k (.inr ⟨p, hp, e⟩), h.len⟩
  rcases h.r with h | ⟨a, c, rfl, h2, h4⟩
  · exact .inl h
  · refine .inr ⟨a, c, rfl, h2, fun i p hi => ?_⟩
    have h6 := h4 i p hi
    have hil : i < l.length := (List.getElem?_eq_some_iff.1 hi).1
    have := hk a.block (.inl (by simp [rdBlk]; intro e; rw [e] at hil; simp at hil))
    unfold World.cell? at h6 ⊢
    rw [add_block] at h6 ⊢
    rw [this]; exact h6
theorem RsIs.below (h : RsIs w v l) (hb : Below w.heap.size w w') : RsIs w' v l := h.keep fun k hk => hb.block k (h.lt hk)
theorem RsIs.turned {F : Nat → Prop} (h : RsIs w v l) (ht : Turned F w w') (hn : ∀ k, rdB v l k → ¬ F k) : RsIs w' v l := h.keep fun k hk => ht.block k (h.lt hk) (hn k hk)
theorem RsIs.form (h : RsIs w v l) : ∃ (o : Option Addr) (c : Nat), v = .slice o l.length c ∧ l.length ≤ c ∧ l.length ≤ maxLen ∧ ∀ (i : Nat) p, l[i]? = some p → ∃ a, o = some a ∧ w.cell? (a.add i) = some p.v ∧ NumsIn .u8 w p.v p.x := by
  rcases h.r with ⟨rfl, rfl⟩ | ⟨a, c, rfl, h2, h4⟩
  · exact ⟨none, 0, rfl, Nat.le_refl _, by simp, fun i p hi => by simp at hi⟩
  · exact ⟨some a, c, rfl, h2, h.len, fun i p hi => ⟨a, rfl, h4 i p hi, h.q p (List.mem_of_getElem? hi)⟩⟩
theorem RsIs.one (h : RsIs w v l) : v.oneCell' = true := by
  obtain ⟨o, c, rfl, _⟩ := h.form; rfl
theorem RsIs.ones (h : RsIs w v l) : ∀ u ∈ l.map Pk.v, u.oneCell' = true := fun u hu => by
  obtain ⟨p, hp, rfl⟩ := List.mem_map.1 hu
  exact (h.q p hp).one
theorem RsIs.src (h : RsIs w v l) : Src Try.prog 1 26 v l.length (l.map Pk.v) w := by
  rcases h.r with ⟨rfl, rfl⟩ | ⟨a, c, rfl, h2, h4⟩
  · exact Src.ofNil w Try.underlying26 0
  · refine Src.ofSlice w Try.underlying26 a l.length c (l.map Pk.v) (by simp) (fun j u hj => ?_) h.ones
    rw [List.getElem?_map] at hj
    obtain ⟨p, hp, rfl⟩ := Option.map_eq_some_iff.1 hj
    exact h4 j p hp
/-- The packets behind the first k, the first k. -/
theorem RsIs.mem_drop {k : Nat} (h : RsIs w v l) {a : Addr} {c : Nat} (hv : v = .slice (some a) l.length c) (hk : k < l.length) (c' : Nat) (hc : l.length - k ≤ c') : RsIs w (.slice (some (a.add k)) (l.length - k) c') (l.drop k) := by
  refine ⟨.inr ⟨a.add k, c', by simp, by simpa using hc, fun i p hi => ?_⟩, fun p hp => h.q p (List.mem_of_mem_drop hp), by have := h.len; simp; omega⟩
  rw [List.getElem?_drop] at hi
  rcases h.r with ⟨rfl, rfl⟩ | ⟨a', c', e, h2, h4⟩
  · simp at hi
  · rw [hv] at e
    simp at e
    obtain ⟨rfl, _⟩ := e
    rw [Go.Deep.add_add]
    exact h4 _ p hi
theorem RsIs.mem_take {k : Nat} (h : RsIs w v l) {a : Addr} {c : Nat} (hv : v = .slice (some a) l.length c) (hk : k ≤ l.length) : RsIs w (.slice (some a) k c) (l.take k) := by
  have hlen : (l.take k).length = k := by simp [hk]
  rcases h.r with ⟨rfl, rfl⟩ | ⟨a', c', e, h2, h4⟩
  · cases hv
  · rw [hv] at e
    simp at e
    obtain ⟨rfl, rfl⟩ := e
    refine ⟨.inr ⟨a, c, by rw [hlen], by omega, fun i p hi => ?_⟩, fun p hp => h.q p (List.mem_of_mem_take hp), by have := h.len; omega⟩
    have hik : i < k := by have := (List.getElem?_eq_some_iff.1 hi).1; omega
    rw [List.getElem?_take, if_pos hik] at hi
    exact h4 i p hi
theorem LsIs.rs (h : LsIs w v l) : RsIs w v l := by
  obtain ⟨ao, c, e, h2, h3⟩ := h.g.shape
  refine ⟨?_, fun p hp => (h.q p hp).nums, h3⟩
  cases l with
  | nil =>
    cases ao with
    | none =>
      left
      refine ⟨?_, rfl⟩
      obtain ⟨_, ao', c', e', _, _, h5⟩ := h.g
      rw [e] at e' ⊢
      simp at e'
      obtain ⟨rfl, rfl⟩ := e'
      rcases Nat.eq_zero_or_pos c with rfl | hc
      · rfl
      · obtain ⟨_, _, _, e2, _⟩ := h5 hc
        cases e2
    | some a => exact .inr ⟨a, c, e, h2, fun i p hi => by simp at hi⟩
  | cons p r =>
    obtain ⟨g, o, c', e', _⟩ := h.g.cell (j := 0) (u := p.v) (by simp)
    rw [e] at e'
    simp at e'
    obtain ⟨rfl, rfl⟩ := e'
    refine .inr ⟨_, c, e, h2, fun i q hi => h.g.read e i _ (by rw [List.getElem?_map, hi]; rfl)⟩
theorem LsIs.rdB (h : LsIs w v l) {k : Nat} (hk : rdB v l k) : psB v l k := by
  rcases hk with hk | ⟨p, hp, hk⟩
  · left
    obtain ⟨ao, c, rfl, h2, h3⟩ := h.g.shape
    cases ao with
    | none => simp [rdBlk] at hk
    | some a =>
      simp [rdBlk] at hk
      have : 0 < l.length := List.length_pos_iff.2 hk.1
      simp [blkOf]; exact ⟨by omega, hk.2⟩
  · exact .inr ⟨p, hp, (h.q p hp).rd hk⟩
end
theorem infoP : (Try.prog.info? 71).map (fun i => (i.zero, i.size, i.bytes)) = some (some (.agg #[.slice none 0 0, .int .i64 0]), 2, 32) := by kernel_rfl
theorem infoBs : (Try.prog.info? 32).map (fun i => (i.zero, i.size, i.bytes)) = some (some (.slice none 0 0), 1, 24) := by kernel_rfl
theorem infoU8 : (Try.prog.info? 5).map (fun i => (i.zero, i.size, i.bytes)) = some (some (.int .u8 0), 1, 1) := by kernel_rfl

/-! ### a net -/
/-- A net, as cells. -/
def ncL (n : Nt) (cv sv : Value) : Array Value := #[.bool true, cv, .int .i64 (tot n.cm : Int), sv, .int .i64 (tot n.sn : Int)]
structure AtIs (w : World) (S : Nat) (n : Nt) (cv sv : Value) (cl sl : List Pk) : Prop where
  blk : Blk w S (ncL n cv sv) 61
  c : PsIs w cv cl
  s : PsIs w sv sl
  cx : cl.map Pk.x = n.wt
  sx : sl.map Pk.x = n.sn
  cf : Firsts (tot (n.cm.take n.tk)) cl
  ne : ∀ k, blkOf cv = some k → blkOf sv ≠ some k
def atF (S : Nat) (cv sv : Value) (cl sl : List Pk) (k : Nat) : Prop := k = S ∨ psB cv cl k ∨ psB sv sl k
/-- A NET LIES AT BLOCK S; F: the blocks that are its own. -/
def At (w : World) (S : Nat) (n : Nt) (F : Nat → Prop) : Prop := ∃ cv sv cl sl, F = atF S cv sv cl sl ∧ AtIs w S n cv sv cl sl
/-- The document's, as cells. -/
def rcL (n : Nt) (cv sv : Value) : Array Value := #[cv, .int .i64 (n.tk : Int), sv]
structure RvIs (w : World) (n : Nt) (cv sv : Value) (cl sl : List Pk) : Prop where
  c : RsIs w cv cl
  s : RsIs w sv sl
  cx : cl.map Pk.x = n.cm
  sx : sl.map Pk.x = n.sn
def rvG (cv sv : Value) (cl sl : List Pk) (k : Nat) : Prop := rdB cv cl k ∨ rdB sv sl k
/-- THE DOCUMENT'S NET, AS A VALUE; G: the blocks that it reads. -/
def Rv (w : World) (n : Nt) (c : Array Value) (G : Nat → Prop) : Prop := ∃ cv sv cl sl, c = rcL n cv sv ∧ G = rvG cv sv cl sl ∧ RvIs w n cv sv cl sl
section
variable {w w' : World} {S : Nat} {n : Nt} {F G K : Nat → Prop} {c : Array Value} {cv sv : Value} {cl sl : List Pk}
theorem AtIs.lt (h : AtIs w S n cv sv cl sl) : ∀ k, atF S cv sv cl sl k → k < w.heap.size := by
  rintro k (rfl | e | e)
  · exact h.blk.lt
  · exact h.c.lt e
  · exact h.s.lt e
theorem At.lt (h : At w S n F) : ∀ k, F k → k < w.heap.size := by
  obtain ⟨cv, sv, cl, sl, rfl, h⟩ := h
  exact h.lt
theorem At.mem (h : At w S n F) : F S := by
  obtain ⟨cv, sv, cl, sl, rfl, h⟩ := h
  exact .inl rfl
theorem AtIs.keep (h : AtIs w S n cv sv cl sl) (hk : ∀ k, atF S cv sv cl sl k → w'.heap[k]? = w.heap[k]?) : AtIs w' S n cv sv cl sl :=
  ⟨h.blk.keep (hk _ (.inl rfl)), h.c.keep fun k e => hk k (.inr (.inl e)), h.s.keep fun k e => hk k (.inr (.inr e)), h.cx, h.sx, h.cf, h.ne⟩
theorem At.keep (h : At w S n F) (hk : ∀ k, F k → w'.heap[k]? = w.heap[k]?) : At w' S n F := by
  obtain ⟨cv, sv, cl, sl, rfl, h⟩ := h
  exact ⟨cv, sv, cl, sl, rfl, h.keep hk⟩
theorem At.turned (h : At w S n F) (ht : Turned K w w') (hd : ∀ k, F k → ¬ K k) : At w' S n F := h.keep fun k hk => ht.block k (h.lt k hk) (hd k hk)
theorem At.below (h : At w S n F) (hb : Below w.heap.size w w') : At w' S n F := h.keep fun k hk => hb.block k (h.lt k hk)
theorem AtIs.below (h : AtIs w S n cv sv cl sl) (hb : Below w.heap.size w w') : AtIs w' S n cv sv cl sl := h.keep fun k hk => hb.block k (h.lt k hk)
theorem AtIs.cells (h : AtIs w S n cv sv cl sl) : w.cell? ⟨S, 0, none⟩ = some (.bool true) ∧ w.cell? ⟨S, 1, none⟩ = some cv ∧ w.cell? ⟨S, 2, none⟩ = some (.int .i64 (tot n.cm : Int)) ∧ w.cell? ⟨S, 3, none⟩ = some sv ∧ w.cell? ⟨S, 4, none⟩ = some (.int .i64 (tot n.sn : Int)) := by
  refine ⟨?_, ?_, ?_, ?_, ?_⟩ <;> (rw [h.blk.cell]; rfl)
theorem AtIs.clen (h : AtIs w S n cv sv cl sl) : cl.length = n.wt.length := by rw [← h.cx]; simp
theorem AtIs.slen (h : AtIs w S n cv sv cl sl) : sl.length = n.sn.length := by rw [← h.sx]; simp
theorem RvIs.keep (h : RvIs w n cv sv cl sl) (hk : ∀ k, rvG cv sv cl sl k → w'.heap[k]? = w.heap[k]?) : RvIs w' n cv sv cl sl :=
  ⟨h.c.keep fun b e => hk b (.inl e), h.s.keep fun b e => hk b (.inr e), h.cx, h.sx⟩
theorem RvIs.lt (h : RvIs w n cv sv cl sl) : ∀ k, rvG cv sv cl sl k → k < w.heap.size := by
  rintro k (e | e)
  · exact h.c.lt e
  · exact h.s.lt e
theorem RvIs.below (h : RvIs w n cv sv cl sl) (hb : Below w.heap.size w w') : RvIs w' n cv sv cl sl := h.keep fun k hk => hb.block k (h.lt k hk)
theorem RvIs.clen (h : RvIs w n cv sv cl sl) : cl.length = n.cm.length := by rw [← h.cx]; simp
theorem RvIs.slen (h : RvIs w n cv sv cl sl) : sl.length = n.sn.length := by rw [← h.sx]; simp
theorem Rv.lt (h : Rv w n c G) : ∀ k, G k → k < w.heap.size := by
  obtain ⟨cv, sv, cl, sl, rfl, rfl, h⟩ := h
  exact h.lt
theorem Rv.keep (h : Rv w n c G) (hk : ∀ k, G k → w'.heap[k]? = w.heap[k]?) : Rv w' n c G := by
  obtain ⟨cv, sv, cl, sl, rfl, rfl, h⟩ := h
  exact ⟨cv, sv, cl, sl, rfl, rfl, h.keep hk⟩
theorem Rv.turned (h : Rv w n c G) (ht : Turned K w w') (hd : ∀ k, G k → ¬ K k) : Rv w' n c G := h.keep fun k hk => ht.block k (h.lt k hk) (hd k hk)
theorem Rv.below (h : Rv w n c G) (hb : Below w.heap.size w w') : Rv w' n c G := h.keep fun k hk => hb.block k (h.lt k hk)
theorem Rv.none (w : World) : Rv w N0 (rcL N0 (.slice none 0 0) (.slice none 0 0)) (rvG (.slice none 0 0) (.slice none 0 0) [] []) := ⟨_, _, _, _, rfl, rfl, RsIs.nil w, RsIs.nil w, rfl, rfl⟩
theorem RvIs.ok (h : RvIs w n cv sv cl sl) (n' : Nt) : (rcL n' cv sv).size = 3 ∧ (rcL n' cv sv).all (·.oneCell') = true := ⟨rfl, by simp [rcL, h.c.one, h.s.one]; rfl⟩
end
theorem infoR : (Try.prog.info? 28).map (·.size) = some 3 := by kernel_rfl
theorem infoN : (Try.prog.info? 61).map (·.size) = some 5 := by kernel_rfl

/-! ### stores of whole blocks, at the walk -/
section
variable {P : Program}
theorem wpList_store_blk {ops : Array Oper} {rest : List Oper} {o : Oper} {a : Act} {w : World} {Q : Exit → Act → World → Prop} (hgd : o.guard = none) (ty : TypeId) (x y : Operand) (ho : o.op = .store ty x y)
    (g : Nat) (cells old : Array Value) (hx : a.eval x = .pointer (some ⟨g, 0, none⟩)) (hy : a.eval y = .agg cells) (t : TypeId) (hg : Blk w g old t)
    (hi : (P.info? ty).map (·.size) = some cells.size) (hs : old.size = cells.size) (h1 : cells.all (·.oneCell') = true)
    (h : wpList P ops Q rest (a.put o.dst undef) (w.setRow g cells)) : wpList P ops Q (o :: rest) a w :=
  wpList_plain hgd fun K hK => by
    unfold Oper.wp execOp
    simp only [ho, hx, hy, Instr.storeAt, Instr.sureAddr, Sem.run_bind, Sem.run_pure, Result.andThen_ok, run_storeVar_row w g t ty old cells hg hi hs h1]
    exact hK _ _ h
end
end Go.Proofs.Ytepimbebodmajaa

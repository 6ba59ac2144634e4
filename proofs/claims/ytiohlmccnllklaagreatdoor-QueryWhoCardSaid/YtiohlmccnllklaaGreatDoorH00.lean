/-
  Plain numbers and lists of layer 2: sets of labels as words, a table as the list of its sets. No program. Layer 2: what a world holds where a table lies: its block, its sets, its two maps; which blocks are a table's own. A scope that is left forward by one goto: what stands behind the label is walked from the frame in which the goto stands. No program. Layer 2: what each small function of package labels gives, over a table that lies: walks. Layer 2: number and join of package labels: a set's number, kept if it was not; a joined pair's number, remembered: walks. A region that draws its order, whose operations read until ONE call that may write, and only hand its answer on behind it. One walk: the reads in the order of the text, the call, the rest. No program. Layer 2: Keep and Join of package labels: walks. Layer 2: New, All, Copy, Same of package labels: walks. Layer 2: what the document's own answers (package pomanderref02) give: walks. Layer 2: Copy and Same of package labels: walks.
-/
import Derived.WalkKit
import Derived.Laws.BitsAllLaws
import Derived.Test.YtiohlmccnllklaaGreatDoorRows
import Derived.Below
import Derived.Maps.Ext
import Derived.Maps.OwnSet
import Derived.Maps.AppendAt
import Derived.DeepKeys5
import Derived.Laws.NewBlocks
import Derived.Deep.Draws
import Derived.WalkMore
import Derived.ScopeJumps
import Derived.WalkSpells
import Derived.WalkLawsBesides
import Derived.Lib.Hide
import Derived.Deep.QuietTactic
import Derived.BigQuiet
import Derived.StillTail
import Derived.StillTactics
import Derived.Deep.Quiet
import Derived.StillTailTactics
import Derived.Shelf.SlMaps.Clone
import Derived.Lib.SliceRun
import Derived.Deep.RegionHeld3
import Derived.RegionTactic
set_option linter.unusedVariables false
set_option linter.unusedSimpArgs false
namespace Go.Proofs.YtiohlmccnllklaaGreatDoor.L2
open Go.RowKit

/-- An integer is a word; a set: below 65536. -/
def W32 (a : Int) : Prop := 0 ≤ a ∧ a < 4294967296
def S16 (a : Int) : Prop := 0 ≤ a ∧ a < 65536
theorem S16.w32 {a : Int} (h : S16 a) : W32 a := by unfold S16 at h; unfold W32; omega
theorem w32_of_wf {a : Int} (h : (Lit.int .u32 a).wf = true) : W32 a := by
  simp [Lit.wf, IntKind.min, IntKind.max, IntKind.signed, IntKind.bits] at h
  unfold W32; omega
theorem wf_of_w32 {a : Int} (h : W32 a) : (Lit.int .u32 a).wf = true := by
  unfold W32 at h
  simp [Lit.wf, IntKind.min, IntKind.max, IntKind.signed, IntKind.bits]; omega
theorem wf_i64 {a : Int} (h0 : -9223372036854775808 ≤ a) (h1 : a ≤ 9223372036854775807) : (Lit.int .i64 a).wf = true := by
  simp [Lit.wf, IntKind.min, IntKind.max, IntKind.signed, IntKind.bits]; omega
theorem i64_of_wf {a : Int} (h : (Lit.int .i64 a).wf = true) : -9223372036854775808 ≤ a ∧ a ≤ 9223372036854775807 := by
  simp [Lit.wf, IntKind.min, IntKind.max, IntKind.signed, IntKind.bits] at h
  omega

/-! ### what either has, bit by bit -/
def orI (a b : Int) : Int := ((a.toNat ||| b.toNat : Nat) : Int)
theorem orI_bits (a b : Int) (ha : W32 a) (hb : W32 b) : bits .or .u32 a b = orI a b := u32_or a b ha.1 ha.2 hb.1 hb.2
theorem orI_s16 {a b : Int} (ha : S16 a) (hb : S16 b) : S16 (orI a b) := by
  unfold S16 at *; unfold orI
  have h : a.toNat ||| b.toNat < 2 ^ 16 := Nat.or_lt_two_pow (by omega) (by omega)
  omega
theorem orI_comm (a b : Int) : orI a b = orI b a := by unfold orI; rw [Nat.or_comm]

/-- Has a set a label? -/
def bitI (a : Int) (n : Nat) : Bool := a.toNat.testBit n
theorem bitI_div {a : Int} (h : 0 ≤ a) (n : Nat) : (a / 2 ^ n % 2 == 1) = bitI a n := by
  obtain ⟨m, rfl⟩ := Int.eq_ofNat_of_zero_le h
  unfold bitI
  rw [Int.toNat_natCast, Nat.testBit_eq_decide_div_mod_eq]
  rw [Bool.eq_iff_iff]
  simp only [beq_iff_eq, decide_eq_true_eq]
  constructor
  · intro e; exact_mod_cast e
  · intro e; exact_mod_cast e
theorem bitI_high {a : Int} (h : S16 a) (n : Nat) (hn : 16 ≤ n) : bitI a n = false := by
  unfold S16 at h
  unfold bitI
  exact Nat.testBit_lt_two_pow (Nat.lt_of_lt_of_le (show a.toNat < 2 ^ 16 by omega) (Nat.pow_le_pow_right (by decide) hn))
theorem bitI_or (a b : Int) (n : Nat) : bitI (orI a b) n = (bitI a n || bitI b n) := by
  unfold bitI orI; rw [Int.toNat_natCast, Nat.testBit_or]

/-- The first k bits of what either has. -/
def orS (a b : Int) (k : Nat) : Int := (((orI a b).toNat % 2 ^ k : Nat) : Int)
theorem orS_zero (a b : Int) : orS a b 0 = 0 := by unfold orS; simp [Nat.mod_one]
theorem mod_succ (x k : Nat) : x % 2 ^ (k + 1) = x % 2 ^ k + 2 ^ k * (x / 2 ^ k % 2) := by
  rw [Nat.pow_succ, Nat.mod_mul]
theorem orS_succ (a b : Int) (k : Nat) : orS a b (k + 1) = orS a b k + (if (bitI a k || bitI b k) = true then 2 ^ k else 0) := by
  rw [← bitI_or]
  unfold orS bitI
  rw [mod_succ, Nat.testBit_eq_decide_div_mod_eq]
  by_cases h : (orI a b).toNat / 2 ^ k % 2 = 1
  · simp [h]
  · have h0 : (orI a b).toNat / 2 ^ k % 2 = 0 := by omega
    simp [h0]
theorem orS_yes (a b : Int) (k : Nat) (h : (bitI a k || bitI b k) = true) : orS a b (k + 1) = orS a b k + 2 ^ k := by rw [orS_succ, if_pos h]
theorem orS_no (a b : Int) (k : Nat) (h : (bitI a k || bitI b k) = false) : orS a b (k + 1) = orS a b k := by rw [orS_succ, if_neg (by simp [h])]; omega
theorem orS_end {a b : Int} (ha : S16 a) (hb : S16 b) : orS a b 16 = orI a b := by
  have h := orI_s16 ha hb
  unfold S16 at h
  unfold orS
  rw [Nat.mod_eq_of_lt (by omega)]
  omega
theorem orS_le (a b : Int) (k : Nat) (hk : k ≤ 16) : 0 ≤ orS a b k ∧ orS a b k < 65536 := by
  unfold orS
  have h1 := Nat.mod_lt (orI a b).toNat (Nat.two_pow_pos k)
  have h2 : 2 ^ k ≤ 2 ^ 16 := Nat.pow_le_pow_right (by decide) hk
  have h3 : (2 : Nat) ^ 16 = 65536 := rfl
  omega

/-! ### the place of a set -/
def pos : List Int → Int → Nat
  | [], _ => 0
  | y :: r, x => if y = x then 0 else pos r x + 1
theorem pos_le : ∀ (ss : List Int) (x : Int), pos ss x ≤ ss.length
  | [], _ => Nat.le_refl _
  | y :: r, x => by
    unfold pos
    have := pos_le r x
    split <;> simp <;> omega
theorem pos_lt : ∀ {ss : List Int} {x : Int}, x ∈ ss → pos ss x < ss.length
  | y :: r, x, h => by
    unfold pos
    split
    · simp
    · rename_i hne
      have := pos_lt (ss := r) (x := x) (by
        rcases List.mem_cons.1 h with e | h'
        · exact absurd e.symm hne
        · exact h')
      simp; omega
theorem pos_get : ∀ {ss : List Int} {x : Int}, x ∈ ss → ss[pos ss x]? = some x
  | y :: r, x, h => by
    unfold pos
    split
    · rename_i e; simp [e]
    · rename_i hne
      have := pos_get (ss := r) (x := x) (by
        rcases List.mem_cons.1 h with e | h'
        · exact absurd e.symm hne
        · exact h')
      simpa using this
theorem pos_first : ∀ {ss : List Int} {x : Int} {j : Nat}, j < pos ss x → ss[j]? ≠ some x
  | [], x, j, h => by simp
  | y :: r, x, j, h => by
    unfold pos at h
    split at h
    · omega
    · rename_i hne
      cases j with
      | zero => simpa using hne
      | succ j => simpa using pos_first (ss := r) (x := x) (j := j) (by omega)
/-- Of sets that differ each one's place is the place. -/
theorem pos_of_get {ss : List Int} (hn : ss.Nodup) {x : Int} {i : Nat} (h : ss[i]? = some x) : pos ss x = i := by
  have hm : x ∈ ss := List.mem_of_getElem? h
  have h1 := pos_get hm
  have hl := pos_lt hm
  have hi : i < ss.length := (List.getElem?_eq_some_iff.1 h).1
  have e1 := (List.getElem?_eq_some_iff.1 h1).2
  have e2 := (List.getElem?_eq_some_iff.1 h).2
  exact (List.getElem_inj (h₀ := hl) (h₁ := hi) hn).1 (by rw [e1, e2])
theorem pos_snoc_old {ss : List Int} {x y : Int} (h : x ∈ ss) : pos (ss ++ [y]) x = pos ss x := by
  induction ss with
  | nil => cases h
  | cons z r ih =>
    simp only [List.cons_append, pos]
    split
    · rfl
    · rename_i hne
      rw [ih (by
        rcases List.mem_cons.1 h with e | h'
        · exact absurd e.symm hne
        · exact h')]
theorem pos_snoc_new {ss : List Int} {x : Int} (h : x ∉ ss) : pos (ss ++ [x]) x = ss.length := by
  induction ss with
  | nil => simp [pos]
  | cons z r ih =>
    simp only [List.mem_cons, not_or] at h
    simp only [List.cons_append, pos]
    rw [if_neg (fun e => h.1 e.symm), ih h.2]
    simp

/-! ### a table's sets -/
structure Sets (most : Int) (ss : List Int) : Prop where
  pos : 0 < ss.length
  len : (ss.length : Int) ≤ most
  most : most ≤ 65536
  head : ss[0]? = some 0
  apart : ss.Nodup
  s16 : ∀ x ∈ ss, S16 x
theorem sets_new {most : Int} (h0 : 1 ≤ most) (h1 : most ≤ 65536) : Sets most [0] :=
  ⟨by simp, by simpa using h0, h1, rfl, by simp, by simp [S16]⟩
theorem Sets.at_ {most : Int} {ss : List Int} (h : Sets most ss) {k : Nat} (hk : k < ss.length) : S16 (ss[k]?.getD 0) := by
  rw [List.getElem?_eq_getElem hk]
  exact h.s16 _ (List.getElem_mem hk)
theorem Sets.snoc {most : Int} {ss : List Int} (h : Sets most ss) {x : Int} (hx : S16 x) (hn : x ∉ ss) (hl : (ss.length : Int) < most) : Sets most (ss ++ [x]) := by
  refine ⟨by simp, by simp; omega, h.most, ?_, ?_, ?_⟩
  · rw [List.getElem?_append_left h.pos]; exact h.head
  · rw [List.nodup_append]
    exact ⟨h.apart, by simp, fun a ha b hb e => by simp at hb; subst e; subst hb; exact hn ha⟩
  · intro y hy
    rcases List.mem_append.1 hy with h' | h'
    · exact h.s16 y h'
    · simp at h'; subst h'; exact hx

/-- What Keep gives: the sets behind it, the number, the error. -/
def keepR (most : Int) (ss : List Int) (x : Int) : List Int × Int × Int :=
  if 65536 ≤ x then (ss, 0, 2) else if x ∈ ss then (ss, (pos ss x : Int), 0) else if most ≤ (ss.length : Int) then (ss, 0, 120) else (ss ++ [x], (ss.length : Int), 0)
theorem keepR_big {most : Int} {ss : List Int} {x : Int} (h : 65536 ≤ x) : keepR most ss x = (ss, 0, 2) := by unfold keepR; rw [if_pos h]
theorem keepR_old {most : Int} {ss : List Int} {x : Int} (h : x < 65536) (hm : x ∈ ss) : keepR most ss x = (ss, (pos ss x : Int), 0) := by unfold keepR; rw [if_neg (by omega), if_pos hm]
theorem keepR_full {most : Int} {ss : List Int} {x : Int} (h : x < 65536) (hm : x ∉ ss) (hf : most ≤ (ss.length : Int)) : keepR most ss x = (ss, 0, 120) := by unfold keepR; rw [if_neg (by omega), if_neg hm, if_pos hf]
theorem keepR_new {most : Int} {ss : List Int} {x : Int} (h : x < 65536) (hm : x ∉ ss) (hf : (ss.length : Int) < most) : keepR most ss x = (ss ++ [x], (ss.length : Int), 0) := by unfold keepR; rw [if_neg (by omega), if_neg hm, if_neg (by omega)]
theorem Sets.keep {most : Int} {ss : List Int} (h : Sets most ss) {x : Int} (hx : 0 ≤ x) : Sets most (keepR most ss x).1 := by
  unfold keepR
  split
  · exact h
  · split
    · exact h
    · split
      · exact h
      · exact h.snoc ⟨hx, by omega⟩ ‹_› (by omega)
/-- Where Keep is no error: the set has that number, the others theirs. -/
theorem keepR_ok {most : Int} {ss : List Int} (h : Sets most ss) {x : Int} (hx : S16 x) (he : (keepR most ss x).2.2 = 0) :
    ∃ n : Nat, (keepR most ss x).2.1 = (n : Int) ∧ n < (keepR most ss x).1.length ∧ (keepR most ss x).1[n]? = some x ∧ ss.length ≤ (keepR most ss x).1.length ∧ ∀ i, i < ss.length → (keepR most ss x).1[i]? = ss[i]? := by
  by_cases hm : x ∈ ss
  · rw [keepR_old hx.2 hm]
    exact ⟨pos ss x, rfl, pos_lt hm, pos_get hm, Nat.le_refl _, fun _ _ => rfl⟩
  · by_cases hf : most ≤ (ss.length : Int)
    · rw [keepR_full hx.2 hm hf] at he; simp at he
    · rw [keepR_new hx.2 hm (by omega)]
      exact ⟨ss.length, rfl, by simp, by simp, by simp, fun i hi => by simp [List.getElem?_append_left hi]⟩
theorem keepR_err {most : Int} {ss : List Int} {x : Int} (hx : S16 x) (he : (keepR most ss x).2.2 ≠ 0) : keepR most ss x = (ss, 0, 120) := by
  by_cases hm : x ∈ ss
  · rw [keepR_old hx.2 hm] at he; simp at he
  · by_cases hf : most ≤ (ss.length : Int)
    · exact keepR_full hx.2 hm hf
    · rw [keepR_new hx.2 hm (by omega)] at he; simp at he
/-- What Join gives. -/
def joinR (most : Int) (ss : List Int) (a b : Int) : List Int × Int × Int :=
  if a < 0 ∨ (ss.length : Int) ≤ a ∨ b < 0 ∨ (ss.length : Int) ≤ b then (ss, 0, 5) else keepR most ss (orI (ss[a.toNat]?.getD 0) (ss[b.toNat]?.getD 0))
theorem joinR_none {most : Int} {ss : List Int} {a b : Int} (h : a < 0 ∨ (ss.length : Int) ≤ a ∨ b < 0 ∨ (ss.length : Int) ≤ b) : joinR most ss a b = (ss, 0, 5) := by unfold joinR; rw [if_pos h]
theorem joinR_some {most : Int} {ss : List Int} {i j : Nat} (hi : i < ss.length) (hj : j < ss.length) : joinR most ss (i : Int) (j : Int) = keepR most ss (orI (ss[i]?.getD 0) (ss[j]?.getD 0)) := by
  unfold joinR
  rw [if_neg (by omega)]
  simp
theorem joinR_comm (most : Int) (ss : List Int) (a b : Int) : joinR most ss a b = joinR most ss b a := by
  by_cases h : a < 0 ∨ (ss.length : Int) ≤ a ∨ b < 0 ∨ (ss.length : Int) ≤ b
  · rw [joinR_none h, joinR_none (by omega)]
  · unfold joinR
    rw [if_neg h, if_neg (by omega), orI_comm]
theorem Sets.join {most : Int} {ss : List Int} (h : Sets most ss) (a b : Int) : Sets most (joinR most ss a b).1 := by
  unfold joinR
  split
  · exact h
  · rename_i hc
    refine h.keep ?_
    exact (orI_s16 (h.at_ (by omega)) (h.at_ (by omega))).1
end Go.Proofs.YtiohlmccnllklaaGreatDoor.L2
namespace Go.Proofs.YtiohlmccnllklaaGreatDoor.L2
open Go.RowKit

/-! ### worlds that turn in some blocks alone -/
structure Turned (F : List Nat) (w w' : World) : Prop where
  os : w'.os = w.os
  tape : w'.tape = w.tape
  output : w'.output = w.output
  size : w.heap.size ≤ w'.heap.size
  block : ∀ k, k < w.heap.size → k ∉ F → w'.heap[k]? = w.heap[k]?

theorem Turned.refl (F : List Nat) (w : World) : Turned F w w := ⟨rfl, rfl, rfl, Nat.le_refl _, fun _ _ _ => rfl⟩
theorem Turned.trans {F G : List Nat} {a b c : World} (h : Turned F a b) (k : Turned G b c) (hG : ∀ x ∈ G, x ∈ F ∨ a.heap.size ≤ x) : Turned F a c :=
  ⟨k.os.trans h.os, k.tape.trans h.tape, k.output.trans h.output, Nat.le_trans h.size k.size, fun i hi hn =>
    (k.block i (Nat.lt_of_lt_of_le hi h.size) (fun hm => by rcases hG i hm with h' | h'; exact hn h'; omega)).trans (h.block i hi hn)⟩
theorem Turned.mono {F G : List Nat} {a b : World} (h : Turned F a b) (hG : ∀ x ∈ F, x ∈ G) : Turned G a b :=
  ⟨h.os, h.tape, h.output, h.size, fun k hk hn => h.block k hk (fun hm => hn (hG k hm))⟩
theorem Turned.of_below {w w' : World} (h : Below w.heap.size w w') (F : List Nat) : Turned F w w' := ⟨h.os, h.tape, h.output, h.size, fun k hk _ => h.block k hk⟩
theorem Turned.of_grown {w w' : World} {row : Option Nat} (h : w.grownBy w' row) {F : List Nat} (hr : ∀ k, row = some k → k ∈ F) : Turned F w w' :=
  ⟨h.os, h.tape, h.output, h.size, fun k hk hn => h.block k hk (fun e => hn (hr k e.symm))⟩
theorem Turned.alloc {F : List Nat} {a w : World} (h : Turned F a w) (o : Obj) : Turned F a (w.alloc o) :=
  h.trans (G := []) ⟨rfl, rfl, rfl, by simp, fun k hk _ => Below.heap_alloc _ _ _ hk⟩ (fun x hx => by cases hx)
theorem Turned.drew {F : List Nat} {a w : World} (h : Turned F a w) : Turned F a w.drew := ⟨h.os, h.tape, h.output, h.size, h.block⟩
theorem Turned.setCell {F : List Nat} {a w : World} (h : Turned F a w) {p : Addr} (hp : p.block ∈ F ∨ a.heap.size ≤ p.block) (u : Value) : Turned F a (w.setCell p u) :=
  h.trans (G := [p.block]) ⟨rfl, rfl, rfl, by simp [World.setCell], fun k _ hn => Below.heap_setCell _ _ _ _ (by simpa using hn)⟩ (fun x hx => by simp at hx; subst hx; exact hp)
theorem Turned.below {F : List Nat} {w w' : World} (h : Turned F w w') {B : Nat} (hB : B ≤ w.heap.size) (hF : ∀ k ∈ F, B ≤ k) : Below B w w' :=
  ⟨h.os, h.tape, h.output, h.size, fun k hk => h.block k (by omega) (fun hm => by have := hF k hm; omega)⟩
theorem Turned.grown {w w' : World} {k : Nat} (h : Turned [k] w w') : w.grownBy w' (some k) :=
  ⟨h.os, h.tape, h.output, h.size, fun i hi hn => h.block i hi (by simpa using hn)⟩

theorem below_drewN (B : Nat) (w : World) (n : Nat) : Below B w (w.drewN n) := ⟨rfl, rfl, rfl, Nat.le_refl _, fun _ _ => rfl⟩

/-- A block known whole stays where it is not turned. -/
theorem Turned.keep {F : List Nat} {w w' : World} (h : Turned F w w') {k : Nat} {o : Obj} (hk : w.heap[k]? = some o) (hn : k ∉ F) : w'.heap[k]? = some o :=
  (h.block k (Array.getElem?_eq_some_iff.1 hk).1 hn).trans hk
theorem Turned.row {F : List Nat} {w w' : World} (h : Turned F w w') {base : Nat} {e : TypeId} {size n : Nat} {v : Value} {xs : List Value} (ho : w.ownsRow base e size v n xs) (hn : ∀ g, v.ownBlock = some g → g ∉ F) : w'.ownsRow base e size v n xs := by
  refine ⟨ho.1, ?_⟩
  rcases ho.2 with hnil | ⟨g, cap, cur, rfl, hb, hgg, rest⟩
  · exact .inl hnil
  · exact .inr ⟨g, cap, cur, rfl, hb, h.keep hgg (hn g rfl), rest⟩
theorem Turned.map {F : List Nat} {w w' : World} (h : Turned F w w') {H : Type} {P : Program} {k : TypeId} {R : Value → Option (DataW H × List MemPlace)} {b n : Nat} {D : DataW H} (ho : w.ownsMap P k R b n D) (hn : b ∉ F) : w'.ownsMap P k R b n D := by
  obtain ⟨es, clock, hb, r⟩ := ho
  exact ⟨es, clock, h.keep hb hn, r⟩

/-! ### the two maps -/
/-- The key of a pair. -/
def pk (a b : Int) : Lit := .string (keyBytes [.int .i64 a, .int .i64 b])
theorem pairType : Tryz.prog.keyType 252 = true := by kernel_rfl
theorem pairLaw : Maps.Keyed Tryz.prog 252 := Maps.Keyed.of_law (deep_law_gate (by kernel_rfl) (of_decide_eq_true (by kernel_rfl)) (of_decide_eq_true (by kernel_rfl)) pairType (by kernel_rfl))
theorem numLaw : Maps.Keyed Tryz.prog 23 := Maps.int_keyed Tryz.underlying23
theorem key_pair {a b : Int} (wa : (Lit.int .i64 a).wf = true) (wb : (Lit.int .i64 b).wf = true) : keyOf Tryz.prog 252 (.agg #[.int .i64 a, .int .i64 b]) = some (pk a b) := by
  have hc : Tryz.prog.cellsOf 252 = 2 := by kernel_rfl
  have hi : Tryz.prog.cellsOf 3 = 1 := by kernel_rfl
  have h0 : 0 < Tryz.prog.types.size := of_decide_eq_true (by kernel_rfl)
  obtain ⟨m, hm⟩ : ∃ m, Tryz.prog.types.size = m + 1 := ⟨Tryz.prog.types.size - 1, by omega⟩
  have hu := Tryz.underlying252
  have hv := Tryz.underlying3
  unfold keyOf
  simp only [hu]
  rw [if_pos (by simp [pairType, Value.formed, hu, hc]), hm]
  unfold Program.keyLits
  simp only [hu, Value.cells]
  rw [if_pos (by rw [hc]; exact ⟨rfl, by kernel_rfl⟩)]
  simp [Program.keyLits, hi, hv, wa, wb, pk]
theorem isKey_pk (a b : Int) : WideAt.IsKeyLit (pk a b) := trivial
theorem isKey_u32 (x : Int) : WideAt.IsKeyLit (Lit.int .u32 x) := trivial
theorem key_u32 {x : Int} (h : W32 x) : keyOf Tryz.prog 23 (.int .u32 x) = some (.int .u32 x)   := Maps.keyOf_int_mk Tryz.underlying23 (wf_of_w32 h)
theorem pk_inj {a b c d : Int} (wa : (Lit.int .i64 a).wf = true) (wb : (Lit.int .i64 b).wf = true) (wc : (Lit.int .i64 c).wf = true) (wd : (Lit.int .i64 d).wf = true) (h : pk a b = pk c d) : a = c ∧ b = d := by
  have h1 := key_pair wa wb
  have h2 := key_pair wc wd
  rw [h] at h1
  have e := pairLaw.inj h1 h2
  simp at e
  exact e

def NumD (ss : List Int) (D : DataW Unit) : Prop := ∀ x, W32 x → Maps.has D (.int .u32 x) = decide (x ∈ ss) ∧ D.atKey (.int .u32 x) (.lit (.int .i64 0)) = .lit (.int .i64 (if x ∈ ss then (pos ss x : Int) else 0))
def JoinD (ss : List Int) (J : DataW Unit) : Prop := ∀ a b : Int, (Lit.int .i64 a).wf = true → (Lit.int .i64 b).wf = true → Maps.has J (pk a b) = true →
  ∃ i j n : Nat, a = i ∧ b = j ∧ i < ss.length ∧ j < ss.length ∧ n < ss.length ∧ J.atKey (pk a b) (.lit (.int .i64 0)) = .lit (.int .i64 n) ∧ ss[n]? = some (orI (ss[i]?.getD 0) (ss[j]?.getD 0))

theorem numD_new : NumD [0] ((DataW.map []).put (.int .u32 0) (.lit (.int .i64 0))) := by
  intro x _
  by_cases h : x = 0
  · subst h
    rw [Maps.has_put_same Maps.isMap_empty (isKey_u32 0), Maps.atKey_put_same Maps.isMap_empty (isKey_u32 0)]
    simp [pos]
  · rw [Maps.has_put_other (by simpa using h), Maps.atKey_put_other (by simpa using h)]
    simp [h, Maps.has, DataW.atKey]
theorem NumD.snoc {ss : List Int} {D : DataW Unit} (h : NumD ss D) (hD : Maps.IsMap D) {y : Int} (hy : y ∉ ss) : NumD (ss ++ [y]) (D.put (.int .u32 y) (.lit (.int .i64 (ss.length : Int)))) := by
  intro x hx
  by_cases e : x = y
  · subst e
    rw [Maps.has_put_same hD (isKey_u32 x), Maps.atKey_put_same hD (isKey_u32 x)]
    simp [pos_snoc_new hy]
  · obtain ⟨h1, h2⟩ := h x hx
    rw [Maps.has_put_other (by simpa using e), Maps.atKey_put_other (by simpa using e), h1, h2]
    by_cases hm : x ∈ ss
    · simp [hm, pos_snoc_old hm]
    · simp [hm, e]
theorem joinD_new (ss : List Int) : JoinD ss (.map []) := by
  intro a b _ _ h
  simp [Maps.has] at h
theorem JoinD.snoc {ss : List Int} {J : DataW Unit} (h : JoinD ss J) (y : Int) : JoinD (ss ++ [y]) J := by
  intro a b wa wb hh
  obtain ⟨i, j, n, ha, hb, hi, hj, hn, hat, hs⟩ := h a b wa wb hh
  refine ⟨i, j, n, ha, hb, by simp; omega, by simp; omega, by simp; omega, hat, ?_⟩
  rw [List.getElem?_append_left hn, List.getElem?_append_left hi, List.getElem?_append_left hj]
  exact hs
theorem JoinD.put {ss : List Int} {J : DataW Unit} (h : JoinD ss J) (hJ : Maps.IsMap J) {i j n : Nat} (wi : (Lit.int .i64 (i : Int)).wf = true) (wj : (Lit.int .i64 (j : Int)).wf = true) (hi : i < ss.length) (hj : j < ss.length) (hn : n < ss.length)
    (hs : ss[n]? = some (orI (ss[i]?.getD 0) (ss[j]?.getD 0))) : JoinD ss (J.put (pk i j) (.lit (.int .i64 (n : Int)))) := by
  intro a b wa wb hh
  by_cases e : pk a b = pk i j
  · obtain ⟨rfl, rfl⟩ := pk_inj wa wb wi wj e
    exact ⟨i, j, n, rfl, rfl, hi, hj, hn, Maps.atKey_put_same hJ (isKey_pk _ _) _ _, hs⟩
  · rw [Maps.has_put_other e] at hh
    obtain ⟨i', j', n', h1, h2, h3, h4, h5, h6, h7⟩ := h a b wa wb hh
    exact ⟨i', j', n', h1, h2, h3, h4, h5, by rw [Maps.atKey_put_other e]; exact h6, h7⟩

/-! ### a table -/
def cellsTab (most : Int) (g n c mb jb : Nat) : Array Value := #[.int .i64 most, .slice (some ⟨g, 0, none⟩) n c, .map (some mb), .map (some jb)]
/-- The limbs, the blocks named. -/
structure TabIs (w : World) (T g c mb jb : Nat) (most : Int) (ss : List Int) (m : Nat) (D J : DataW Unit) : Prop where
  blk : w.heap[T]? = some (.cells (cellsTab most g ss.length c mb jb) 133 (0, 0))
  row : w.ownsRow 0 23 1 (.slice (some ⟨g, 0, none⟩) ss.length c) ss.length (ss.map (Value.int .u32))
  num : w.ownsMap Tryz.prog 23 (plainElem Tryz.prog 3) mb ss.length D
  numD : NumD ss D
  jnd : w.ownsMap Tryz.prog 252 (plainElem Tryz.prog 3) jb m J
  joinD : JoinD ss J
  ne : mb ≠ jb
  sets : Sets most ss
/-- A TABLE LIES AT BLOCK T: its bound, its sets; at most m joined pairs are remembered; F: the blocks that are its own. -/
def Tab (w : World) (T : Nat) (most : Int) (ss : List Int) (m : Nat) (F : List Nat) : Prop := ∃ g c mb jb D J, F = [T, g, mb, jb] ∧ TabIs w T g c mb jb most ss m D J

section
variable {w w' : World} {T g c mb jb : Nat} {most : Int} {ss : List Int} {m : Nat} {D J : DataW Unit} {F G : List Nat}
theorem TabIs.rowBlk (h : TabIs w T g c mb jb most ss m D J) : ∃ cur, w.heap[g]? = some (.cells cur 23 (0, 0)) := by
  rcases h.row.2 with ⟨h0, _⟩ | ⟨g', cap, cur, hv, _, hg, _⟩
  · cases h0
  · simp at hv
    obtain ⟨rfl, rfl⟩ := hv
    exact ⟨cur, hg⟩
theorem TabIs.numBlk (h : TabIs w T g c mb jb most ss m D J) : ∃ es k, w.heap[mb]? = some (.map es k) := by
  obtain ⟨es, k, hb, _⟩ := h.num
  exact ⟨es, k, hb⟩
theorem TabIs.jndBlk (h : TabIs w T g c mb jb most ss m D J) : ∃ es k, w.heap[jb]? = some (.map es k) := by
  obtain ⟨es, k, hb, _⟩ := h.jnd
  exact ⟨es, k, hb⟩
/-- The four blocks differ. -/
theorem TabIs.differ (h : TabIs w T g c mb jb most ss m D J) : T ≠ g ∧ T ≠ mb ∧ T ≠ jb ∧ g ≠ mb ∧ g ≠ jb := by
  obtain ⟨cur, hg⟩ := h.rowBlk
  obtain ⟨e1, k1, h1⟩ := h.numBlk
  obtain ⟨e2, k2, h2⟩ := h.jndBlk
  have hT := h.blk
  refine ⟨?_, ?_, ?_, ?_, ?_⟩
  · rintro rfl; rw [hg] at hT; simp at hT
  · rintro rfl; rw [h1] at hT; simp at hT
  · rintro rfl; rw [h2] at hT; simp at hT
  · rintro rfl; rw [hg] at h1; simp at h1
  · rintro rfl; rw [hg] at h2; simp at h2
theorem TabIs.lt (h : TabIs w T g c mb jb most ss m D J) : ∀ k ∈ [T, g, mb, jb], k < w.heap.size := by
  obtain ⟨cur, hg⟩ := h.rowBlk
  obtain ⟨e1, k1, h1⟩ := h.numBlk
  obtain ⟨e2, k2, h2⟩ := h.jndBlk
  intro k hk
  simp at hk
  rcases hk with rfl | rfl | rfl | rfl
  · exact (Array.getElem?_eq_some_iff.1 h.blk).1
  · exact (Array.getElem?_eq_some_iff.1 hg).1
  · exact (Array.getElem?_eq_some_iff.1 h1).1
  · exact (Array.getElem?_eq_some_iff.1 h2).1
theorem Tab.lt (h : Tab w T most ss m F) : ∀ k ∈ F, k < w.heap.size := by
  obtain ⟨g, c, mb, jb, D, J, rfl, h⟩ := h
  exact h.lt
theorem Tab.mem (h : Tab w T most ss m F) : T ∈ F := by
  obtain ⟨g, c, mb, jb, D, J, rfl, h⟩ := h
  simp
theorem Tab.sets (h : Tab w T most ss m F) : Sets most ss := by
  obtain ⟨g, c, mb, jb, D, J, rfl, h⟩ := h
  exact h.sets
/-- What is turned elsewhere leaves a table as it is. -/
theorem TabIs.kept (h : TabIs w T g c mb jb most ss m D J) (ht : Turned G w w') (hd : ∀ k ∈ [T, g, mb, jb], k ∉ G) : TabIs w' T g c mb jb most ss m D J :=
  ⟨ht.keep h.blk (hd T (by simp)), ht.row h.row (fun k e => by simp [Value.ownBlock] at e; subst e; exact hd _ (by simp)), ht.map h.num (hd mb (by simp)), h.numD, ht.map h.jnd (hd jb (by simp)), h.joinD, h.ne, h.sets⟩
theorem Tab.kept (h : Tab w T most ss m F) (ht : Turned G w w') (hd : ∀ k ∈ F, k ∉ G) : Tab w' T most ss m F := by
  obtain ⟨g, c, mb, jb, D, J, rfl, h⟩ := h
  exact ⟨g, c, mb, jb, D, J, rfl, h.kept ht hd⟩
theorem Tab.below (h : Tab w T most ss m F) (hb : Below w.heap.size w w') : Tab w' T most ss m F := h.kept (Turned.of_below hb []) (fun _ _ hk => by cases hk)
theorem Tab.alloc (h : Tab w T most ss m F) (o : Obj) : Tab (w.alloc o) T most ss m F := h.below ((Below.refl _ _).alloc (Nat.le_refl _) _)
theorem Tab.mono (h : Tab w T most ss m F) {m' : Nat} (hm : m ≤ m') : Tab w T most ss m' F := by
  obtain ⟨g, c, mb, jb, D, J, rfl, h⟩ := h
  exact ⟨g, c, mb, jb, D, J, rfl, h.blk, h.row, h.num, h.numD, h.jnd.mono hm, h.joinD, h.ne, h.sets⟩
/-- The cells of a table's block. -/
theorem TabIs.cell (h : TabIs w T g c mb jb most ss m D J) : w.cell? ⟨T, 0, none⟩ = some (.int .i64 most) ∧ w.cell? ⟨T, 1, none⟩ = some (.slice (some ⟨g, 0, none⟩) ss.length c) ∧ w.cell? ⟨T, 2, none⟩ = some (.map (some mb)) ∧ w.cell? ⟨T, 3, none⟩ = some (.map (some jb)) := by
  have hb := h.blk
  simp [World.cell?, hb, cellsTab]
theorem TabIs.free (h : TabIs w T g c mb jb most ss m D J) : w.frozen? ⟨T, 0, none⟩ = false ∧ w.frozen? ⟨T, 1, none⟩ = false ∧ w.frozen? ⟨T, 2, none⟩ = false ∧ w.frozen? ⟨T, 3, none⟩ = false := by
  have hb := h.blk
  simp [World.frozen?, hb]
theorem TabIs.set_ (h : TabIs w T g c mb jb most ss m D J) {k : Nat} (hk : k < ss.length) : w.cell? ⟨g, k, none⟩ = some (.int .u32 (ss[k]?.getD 0)) := by
  have h1 := h.row.cells (g := g) rfl k (.int .u32 (ss[k]?.getD 0)) (by simp [List.getElem?_eq_getElem hk])
  have e : (⟨g, 0, none⟩ : Addr).add k = ⟨g, k, none⟩ := by unfold Addr.add; split <;> simp_all
  rw [e] at h1
  exact h1
end
end Go.Proofs.YtiohlmccnllklaaGreatDoor.L2
namespace Go.Proofs.YtiohlmccnllklaaGreatDoor.L2
open Go.RowKit

/-- By a goto to l: K; by another goto: no way out; else Q. -/
def Fwd (l : Nat) (K : Act → World → Prop) (Q : Exit → Act → World → Prop) : Exit → Act → World → Prop
  | .goto l', a, w => l' = l ∧ K a w
  | e, a, w => Q e a w

section
variable {l : Nat} {K : Act → World → Prop} {Q : Exit → Act → World → Prop} {a : Act} {w : World}
theorem Fwd_normal : Fwd l K Q .normal a w = Q .normal a w := rfl
theorem Fwd_exit (id : Nat) : Fwd l K Q (.exit id) a w = Q (.exit id) a w := rfl
theorem Fwd_ret : Fwd l K Q .ret a w = Q .ret a w := rfl
theorem Fwd_panic (ch : List PanicEntry) : Fwd l K Q (.panic ch) a w = Q (.panic ch) a w := rfl
theorem Fwd_goto : Fwd l K Q (.goto l) a w = (True ∧ K a w) := by simp [Fwd]

theorem wp_scope_fwd {P : Program} {c rest : Code} (l : Nat) (hf : findLabel c l = some rest)
    (first : c.wp P (Fwd l (fun a' w' => rest.wp P (Exit.noGoto Q) a' w') Q) a w) : (Code.scope c).wp P Q a w := by
  intro b k cs
  have hg : gotoIn l (.inScope c :: k) = some (.code rest :: .inScope c :: k) := by simp [gotoIn, hf]
  obtain ⟨e, a₁, w₁, hq, harr⟩ := first b (.inScope c :: k) cs
  cases e with
  | normal => exact ⟨.normal, a₁, w₁, hq, .head step_scope (Steps.trans harr (.one step_inScope))⟩
  | exit id => exact ⟨.exit id, a₁, w₁, hq, fun k' hk => .head step_scope (harr k' (by simp [exitTo, hk]))⟩
  | goto l' =>
    obtain ⟨rfl, hK⟩ := hq
    obtain ⟨e₂, a₂, w₂, hq₂, harr₂⟩ := hK b (.inScope c :: k) cs
    have hjump := Steps.head (P := P) (step_scope (P := P) (b := b) (a := a) (k := k) (cs := cs) (w := w) (c := c)) (harr _ hg)
    cases e₂ with
    | normal => exact ⟨.normal, a₂, w₂, hq₂, Steps.trans hjump (Steps.trans harr₂ (.one step_inScope))⟩
    | exit id => exact ⟨.exit id, a₂, w₂, hq₂, fun k' hk => Steps.trans hjump (harr₂ k' (by simp [exitTo, hk]))⟩
    | goto l'' => exact hq₂.elim
    | ret => exact ⟨_, a₂, w₂, hq₂, .of_steps hjump harr₂⟩
    | panic ch => exact ⟨_, a₂, w₂, hq₂, .of_steps hjump harr₂⟩
    | outgrown => exact ⟨_, a₂, w₂, hq₂, .of_steps hjump harr₂⟩
  | ret => exact ⟨_, a₁, w₁, hq, .of_steps (.one step_scope) harr⟩
  | panic ch => exact ⟨_, a₁, w₁, hq, .of_steps (.one step_scope) harr⟩
  | outgrown => exact ⟨_, a₁, w₁, hq, .of_steps (.one step_scope) harr⟩
end
end Go.Proofs.YtiohlmccnllklaaGreatDoor.L2
namespace Go.Proofs.YtiohlmccnllklaaGreatDoor.L2
open Go.RowKit
set_option maxHeartbeats 400000

theorem none_nil (w : World) : Calls Tryz.prog 50 #[.pointer none] w fun e w' => e = .returned (.bool true) ∧ w = w' := by
  go_enter Tryz.func50, Tryz.ntmps50
  go_wp2
  go_ret
  exact ⟨rfl, rfl⟩
theorem none_zero (T : Nat) (w : World) (hc : w.cell? ⟨T, 0, none⟩ = some (.int .i64 0)) : Calls Tryz.prog 50 #[.pointer (some ⟨T, 0, none⟩)] w fun e w' => e = .returned (.bool true) ∧ w = w' := by
  go_enter Tryz.func50, Tryz.ntmps50
  go_wp2
  go_ret
  exact ⟨rfl, rfl⟩
theorem none_some (T : Nat) (most : Int) (w : World) (hc : w.cell? ⟨T, 0, none⟩ = some (.int .i64 most)) (hm : 1 ≤ most) : Calls Tryz.prog 50 #[.pointer (some ⟨T, 0, none⟩)] w fun e w' => e = .returned (.bool false) ∧ w = w' := by
  go_enter Tryz.func50, Tryz.ntmps50
  go_wp2
  go_ret
  exact ⟨by simp; omega, rfl⟩
theorem isSet_any (x : Int) (hx : W32 x) (w : World) : Calls Tryz.prog 51 #[.int .u32 x] w fun e w' => e = .returned (.bool (decide (x < 65536))) ∧ w = w' := by
  obtain ⟨h0, h1⟩ := hx
  go_enter Tryz.func51, Tryz.ntmps51
  go_wp2
  go_ret
  refine ⟨?_, rfl⟩
  simp
  rw [Bool.eq_iff_iff]; simp; omega
/-! ### with a goto -/
theorem zeroInt (w : World) : (zeroValue 3).run Tryz.prog w = .ok (.int .i64 0) w := by kernel_rfl
/-- What the map of numbers answers. -/
theorem look_num {w : World} {T g c mb jb : Nat} {most : Int} {ss : List Int} {m : Nat} {D J : DataW Unit} (h : TabIs w T g c mb jb most ss m D J) {x : Int} (hx : W32 x) :
    (Instr.lookup 130 (.map (some mb)) (.int .u32 x) true).run Tryz.prog w = .ok (.tuple #[.int .i64 (if x ∈ ss then (pos ss x : Int) else 0), .bool (decide (x ∈ ss))]) w := by
  obtain ⟨h1, h2⟩ := h.numD x hx
  obtain ⟨v, ps, hr, hv⟩ := h.num.look_ok numLaw Tryz.underlying130 (zeroInt w) (plainElem_int Tryz.underlying3 (wf_i64 (by omega) (by omega))) (key_u32 hx)
  obtain ⟨a, rfl, ha, _⟩ := plainElem_int_inv Tryz.underlying3 hv
  rw [h2] at ha
  simp only [Prod.mk.injEq, DataW.lit.injEq, Lit.int.injEq, true_and] at ha
  rw [hr, h1, ha.1]
end Go.Proofs.YtiohlmccnllklaaGreatDoor.L2
namespace Go.Proofs.YtiohlmccnllklaaGreatDoor.L2
open Go.RowKit
set_option maxHeartbeats 400000

theorem number_old (T : Nat) (most : Int) (ss : List Int) (m : Nat) (F : List Nat) (x : Int) (hx : W32 x) (hm : x ∈ ss) (w : World) (h : Tab w T most ss m F) :
    Calls Tryz.prog 52 #[.pointer (some ⟨T, 0, none⟩), .int .u32 x] w fun e w' => e = .returned (.tuple #[.int .i64 (pos ss x : Int), .int .i64 0]) ∧ w = w' := by
  obtain ⟨g, c, mb, jb, D, J, rfl, h⟩ := h
  obtain ⟨c0, c1, c2, c3⟩ := h.cell
  have hl := look_num h hx
  simp only [hm, if_true, decide_true] at hl
  go_enter Tryz.func52, Tryz.ntmps52
  go_wp2
  refine wp_scope_fwd 0 rfl ?_
  go_wp2
  rw [Fwd_ret]
  go_ret2
  exact ⟨rfl, rfl⟩

theorem number_full (T : Nat) (most : Int) (ss : List Int) (m : Nat) (F : List Nat) (x : Int) (hx : W32 x) (hm : x ∉ ss) (hf : most ≤ (ss.length : Int)) (w : World) (h : Tab w T most ss m F) :
    Calls Tryz.prog 52 #[.pointer (some ⟨T, 0, none⟩), .int .u32 x] w fun e w' => e = .returned (.tuple #[.int .i64 0, .int .i64 120]) ∧ Below w.heap.size w w' := by
  obtain ⟨g, c, mb, jb, D, J, rfl, h⟩ := h
  obtain ⟨c0, c1, c2, c3⟩ := h.cell
  have hl := look_num h hx
  simp only [hm, if_false, decide_false] at hl
  go_enter Tryz.func52, Tryz.ntmps52
  go_wp2
  refine wp_scope_fwd 0 rfl ?_
  go_wp2
  go_quiet (fail)
  go_wp2
  go_step3
  refine ⟨rfl, ?_⟩
  go_wp2
  rw [Exit.noGoto_ret]
  go_ret2
  exact ⟨rfl, below_drewN _ _ _⟩

theorem A.infoE : (Tryz.prog.info? 23).map (fun i => (i.zero, i.size, i.bytes)) = some (some (.int .u32 0), 1, 4) := by kernel_rfl

theorem ints_one (k : IntKind) : ∀ xs : List Int, ∀ u ∈ xs.map (Value.int k), u.oneCell' = true := by
  intro xs u hu
  obtain ⟨x, _, rfl⟩ := List.mem_map.1 hu
  rfl

set_option maxHeartbeats 1000000 in
/-- A row that owns something begins at the head of a block. -/
theorem row_head {w : World} {base : Nat} {e : TypeId} {v : Value} {n : Nat} {xs : List Value} (h : w.ownsRow base e 1 v (n + 1) xs) : ∃ g c, v = .slice (some ⟨g, 0, none⟩) (n + 1) c := by
  rcases h.2 with ⟨_, h0⟩ | ⟨g, cap, cur, rfl, _⟩
  · omega
  · exact ⟨g, cap, rfl⟩
/-- What append, the store of the field and the store in the map leave. -/
theorem tab_grown {w0 w1 w3 : World} {T g c mb jb : Nat} {most : Int} {ss : List Int} {m : Nat} {D J : DataW Unit} {x : Int} {g' c' : Nat} (h : TabIs w0 T g c mb jb most ss m D J) (hx : S16 x) (hm : x ∉ ss) (hf : (ss.length : Int) < most)
    (hown : w1.ownsRow 0 23 1 (.slice (some ⟨g', 0, none⟩) (ss.length + 1) c') (ss.length + 1) (ss.map (Value.int .u32) ++ [.int .u32 x]))
    (hgrow : (w0.alloc (.cells #[.int .u32 x] 23)).grownBy w1 (some g))
    (hloc : g' = g ∨ g' = w0.heap.size + 1)
    (hown3 : w3.ownsMap Tryz.prog 23 (plainElem Tryz.prog 3) mb (ss.length + 1) (D.put (.int .u32 x) (.lit (.int .i64 (ss.length : Int)))))
    (hgrow3 : (w1.setCell ⟨T, 1, none⟩ (.slice (some ⟨g', 0, none⟩) (ss.length + 1) c')).grownBy w3 (some mb)) :
    TabIs w3 T g' c' mb jb most (ss ++ [x]) m (D.put (.int .u32 x) (.lit (.int .i64 (ss.length : Int)))) J ∧ Turned [T, g, mb, jb] w0 w3 ∧ ∀ k ∈ [T, g', mb, jb], k ∈ [T, g, mb, jb] ∨ w0.heap.size ≤ k := by
  obtain ⟨d1, d2, d3, d4, d5⟩ := h.differ
  have hlt := h.lt
  have lT := hlt T (by simp); have lg := hlt g (by simp); have lm := hlt mb (by simp); have lj := hlt jb (by simp)
  have hne := h.ne
  have t1 : Turned [g] w0 w1 := ((Turned.refl [g] w0).alloc _).trans (Turned.of_grown (F := [g]) hgrow (fun k e => by cases e; simp)) (fun k hk => .inl hk)
  have t3 : Turned [mb] (w1.setCell ⟨T, 1, none⟩ (.slice (some ⟨g', 0, none⟩) (ss.length + 1) c')) w3 := Turned.of_grown hgrow3 (fun k e => by cases e; simp)
  have t2 : Turned [T] w1 (w1.setCell ⟨T, 1, none⟩ (.slice (some ⟨g', 0, none⟩) (ss.length + 1) c')) := (Turned.refl [T] w1).setCell (.inl (by simp)) _
  have hb1 := t1.keep h.blk (by simpa using d1)
  have hb2 : (w1.setCell ⟨T, 1, none⟩ (.slice (some ⟨g', 0, none⟩) (ss.length + 1) c')).heap[T]? = some (.cells (cellsTab most g' (ss ++ [x]).length c' mb jb) 133 (0, 0)) := by
    simp [World.setCell, Array.getElem?_modify, hb1, cellsTab]
  have hg' : g' ≠ T ∧ g' ≠ mb := by
    rcases hloc with rfl | rfl
    · exact ⟨fun e => d1 e.symm, d4⟩
    · exact ⟨by omega, by omega⟩
  refine ⟨⟨t3.keep hb2 (by simpa using d2), ?_, by simpa using hown3, h.numD.snoc h.num.isMap hm, ?_, h.joinD.snoc x, h.ne, h.sets.snoc hx hm hf⟩, ?_, ?_⟩
  · have r1 := t2.row hown (fun k e => by simp [Value.ownBlock] at e; subst e; simpa using hg'.1)
    have r2 := t3.row r1 (fun k e => by simp [Value.ownBlock] at e; subst e; simpa using hg'.2)
    simpa using r2
  · exact t3.map (t2.map (t1.map h.jnd (by simpa using fun e => d5 e.symm)) (by simpa using fun e => d3 e.symm)) (by simpa using fun e => hne e.symm)
  · exact ((t1.mono (G := [T, g, mb, jb]) (by simp)).trans t2 (by simp)).trans t3 (by simp)
  · intro k hk
    simp at hk ⊢
    rcases hk with rfl | rfl | rfl | rfl
    · simp
    · rcases hloc with rfl | rfl
      · simp
      · right; omega
    · simp
    · simp

set_option maxRecDepth 100000 in
theorem number_new (T : Nat) (most : Int) (ss : List Int) (m : Nat) (F : List Nat) (x : Int) (hx : S16 x) (hm : x ∉ ss) (hf : (ss.length : Int) < most) (w : World) (h : Tab w T most ss m F) :
    Calls Tryz.prog 52 #[.pointer (some ⟨T, 0, none⟩), .int .u32 x] w fun e w' => e = .returned (.tuple #[.int .i64 (ss.length : Int), .int .i64 0]) ∧
      ∃ F', Tab w' T most (ss ++ [x]) m F' ∧ Turned F w w' ∧ ∀ k ∈ F', k ∈ F ∨ w.heap.size ≤ k := by
  obtain ⟨g, c, mb, jb, D, J, rfl, h⟩ := h
  obtain ⟨c0, c1, c2, c3⟩ := h.cell
  obtain ⟨f0, f1, f2, f3⟩ := h.free
  have hl := look_num h hx.w32
  simp only [hm, if_false, decide_false] at hl
  have hrow := h.row
  have hnum := h.num
  have hlt : ss.length < 65536 := by have := h.sets.most; omega
  obtain ⟨i0, hi, hz0, hz1, hz2⟩ := info_parts A.infoE
  have HT := Lib.hid h
  have HD := Lib.hid (h.numD.snoc h.num.isMap hm)
  clear h
  go_enter Tryz.func52, Tryz.ntmps52
  go_wp2
  refine wp_scope_fwd 0 rfl ?_
  go_wp2
  go_quiet (fail)
  have B0 := below_drewN w.heap.size w nq
  have T0 := HT.out.kept (Turned.of_below B0 []) (fun _ _ hk => by cases hk)
  have hs0 : (w.drewN nq).heap.size = w.heap.size := rfl
  generalize w.drewN nq = w0 at B0 T0 hs0 ⊢
  clear HT c0 c1 c2 c3 f0 f1 f2 f3 hrow hnum hl
  have HS := Lib.hid hs0
  clear hs0
  obtain ⟨c0, c1, c2, c3⟩ := T0.cell
  obtain ⟨f0, f1, f2, f3⟩ := T0.free
  have hrow := T0.row
  have HT := Lib.hid T0
  clear T0
  go_wp2_with (at_builtin; refine wpList_append_own_at _ rfl _ _ 32 rfl 0 23 i0 (.int .u32 0) 1 4 Tryz.underlying32 hi hz0 hz1 hz2 rfl (by decide) _ _ _ rfl (hrow.alloc _) ⟨w0.heap.size, 0, none⟩ 1 1 [.int .u32 x] rfl rfl (cell_one_new _ _ _) (ints_one .u32 [x]) (by unfold maxLen; omega) (by omega) (by simp) ?_)
  intro v' w1 hown hgrow _ hloc
  obtain ⟨g', c', rfl⟩ := row_head hown
  simp only [Value.ownBlock, Option.some.injEq] at hloc hgrow
  have HT' := HT.out
  obtain ⟨d1, d2, d3, d4, d5⟩ := HT'.differ
  have lT := HT'.lt T (by simp)
  have t1 : Turned [g] w0 w1 := ((Turned.refl [g] w0).alloc _).trans (Turned.of_grown (F := [g]) hgrow (fun k e => by cases e; simp)) (fun k hk => .inl hk)
  have hb1 := t1.keep HT'.blk (by simpa using d1)
  have e0 : w1.cell? ⟨T, 0, none⟩ = some (.int .i64 most) := by simp [World.cell?, hb1, cellsTab]
  have e1 : w1.cell? ⟨T, 1, none⟩ = some (.slice (some ⟨g, 0, none⟩) ss.length c) := by simp [World.cell?, hb1, cellsTab]
  have e2 : w1.cell? ⟨T, 2, none⟩ = some (.map (some mb)) := by simp [World.cell?, hb1, cellsTab]
  have e3 : w1.frozen? ⟨T, 1, none⟩ = false := by simp [World.frozen?, hb1]
  have t2 : Turned [T] w1 (w1.setCell ⟨T, 1, none⟩ (.slice (some ⟨g', 0, none⟩) (ss.length + 1) c')) := (Turned.refl [T] w1).setCell (.inl (by simp)) _
  have hnum := t2.map (t1.map HT'.num (by simpa using fun e => d4 e.symm)) (by simpa using fun e => d2 e.symm)
  clear HT' t1 t2 hb1 c0 c1 c2 c3 f0 f1 f2 f3 hrow hi hz0 hz1 hz2
  go_wp2_with (at_mapUpdate; refine wpList_mapUpdate_own _ rfl _ _ _ 130 rfl 23 3 numLaw Tryz.underlying130 _ mb ss.length _ rfl hnum (by unfold maxLen; omega) _ _ _ rfl rfl (key_u32 hx.w32) _ [] (plainElem_int Tryz.underlying3 (wf_i64 (by omega) (by omega))) ?_; intro w3 hown3 hgrow3)
  rw [Fwd_ret]
  go_ret2
  obtain ⟨r1, r2, r3⟩ := tab_grown HT.out hx hm hf hown hgrow hloc hown3 hgrow3
  refine ⟨rfl, _, ⟨g', c', mb, jb, _, J, rfl, r1⟩, ?_, ?_⟩
  · exact (Turned.of_below B0 [T, g, mb, jb]).trans r2 (fun k hk => .inl hk)
  · rw [← HS.out]; exact r3
end Go.Proofs.YtiohlmccnllklaaGreatDoor.L2
namespace Go.Proofs.YtiohlmccnllklaaGreatDoor.L2
open Go.RowKit

/-- Whatever stands behind number n waits for something from n on that stands ahead of it. -/
def rootedB (md : Region.Mode) (ops : Array Oper) (n : Nat) : Bool :=
  (List.range ops.size).all fun t => decide (t ≤ n) || (List.range t).any fun s => decide (n ≤ s) && Region.waitsFor md ops t s

section
variable {P : Program} {ops : Array Oper} {md : Region.Mode} {w : World}

/-- While the head is not through, nothing from n on comes up. -/
def HeadFirst (md : Region.Mode) (ops : Array Oper) (n : Nat) : Prop :=
  ∀ listed, HeadInv md ops n listed → ∀ i, i < n → listed.getD i true = false → ∀ t, n ≤ t → t ∉ Region.ready md ops listed

theorem headFirst {n : Nat} (hs : Region.sinkB md ops n = true) (hr : rootedB md ops n = true) (hn : n < ops.size) : HeadFirst md ops n := by
  intro listed inv
  have main : ∀ (d i : Nat), n - i = d → i < n → listed.getD i true = false → n ∉ Region.ready md ops listed := by
    intro d
    induction d using Nat.strongRecOn with
    | _ d ih =>
      intro i hd hi hun hrd
      obtain ⟨_, on, hon, hall⟩ := mem_ready.1 hrd
      obtain ⟨j, hj, hj2⟩ := List.any_eq_true.1 (List.all_eq_true.1 hs i (List.mem_range.2 hi))
      simp only [Bool.and_eq_true, decide_eq_true_eq] at hj2
      have hjn : j < n + 1 := List.mem_range.1 hj
      obtain ⟨oj, hoj, e, he, hb, heq⟩ := Region.waitsFor_spec hj2.2
      have hno : ∀ o, ops[j]? = some o → j = n → False := fun o ho hjn' => by
        subst hjn'
        have : oj = on := Option.some.inj (hoj.symm.trans hon)
        subst this
        have h2 := hall e he hb
        rw [heq, getD_both hun] at h2
        cases h2
      rcases Nat.lt_or_ge j n with hlt | hge
      · cases hl : listed.getD j false with
        | true =>
          have h2 := inv.closed j oj hoj hl e he hb
          rw [heq, getD_both hun] at h2
          cases h2
        | false => exact ih (n - j) (by omega) j rfl hlt (getD_in (by rw [inv.size]; omega) hl) hrd
      · exact hno oj hoj (by omega)
  intro i hi hun t ht hrd
  by_cases htn : t = n
  · subst htn; exact main _ i rfl hi hun hrd
  · obtain ⟨_, ot, hot, hall⟩ := mem_ready.1 hrd
    have htlt : t < ops.size := (Array.getElem?_eq_some_iff.1 hot).1
    have h1 := List.all_eq_true.1 hr t (List.mem_range.2 htlt)
    simp only [Bool.or_eq_true, decide_eq_true_eq] at h1
    rcases h1 with h1 | h1
    · omega
    · obtain ⟨s, hs1, hs2⟩ := List.any_eq_true.1 h1
      simp only [Bool.and_eq_true, decide_eq_true_eq] at hs2
      obtain ⟨o', ho', e, he, hb, heq⟩ := Region.waitsFor_spec hs2.2
      have : o' = ot := Option.some.inj (ho'.symm.trans hot)
      subst this
      have hst : s < t := List.mem_range.1 hs1
      have h2 := hall e he hb
      rw [heq, getD_both (inv.tail s hs2.1 (by omega))] at h2
      cases h2

/-- In the head an operation that comes up and yields may be taken first. -/
theorem head_take {n i : Nat} {oi : Oper} {v : Value} {L : Array Bool → Act → Prop} (hi : ops[i]? = some oi) (hsel : ∀ (j : Nat) (o : Oper) cs b, ops[j]? = some o → o.op ≠ .select cs b)
    (hf : HeadFirst md ops n) (hin : i < n) (hdone : ∀ listed a, L listed a → ∀ j ∈ Region.ready md ops listed, n ≤ j) :
    ∀ (f : Nat) (listed : Array Bool) (a : Act), HeadInv md ops n listed →
      (∀ j oj, ops[j]? = some oj → j ≠ i → listed.getD j true = false → (∀ e ∈ oj.after, Region.binds md e = true → e.on ≠ i) → oi.apart ops oj = true) →
      i ∈ Region.ready md ops listed → YieldsAt P ops w oi v a →
      wpAnyL P md ops w n L f (listed.setIfInBounds i true) (a.put oi.dst v) → wpAnyL P md ops w n L (f + 1) listed a
  | f, listed, a, inv, hfree, hr, hy, H => by
    have hun := (mem_ready.1 hr).1
    have low : ∀ j ∈ Region.ready md ops listed, j < n := fun j hj => by
      rcases Nat.lt_or_ge j n with h | h
      · exact h
      · exact absurd hj (hf listed inv i hin hun j h)
    refine ⟨fun h => (by rw [h] at hr; cases hr), fun j hj => ⟨low j hj, ?_⟩⟩
    by_cases hji : j = i
    · subst hji; exact hy.stOp hi H
    · cases f with
      | zero =>
        have := hdone _ _ H j (ready_mono hj hji)
        have := low j hj
        omega
      | succ f =>
        obtain ⟨hjun, oj, hoj, hall⟩ := mem_ready.1 hj
        have hnot : ∀ e ∈ oj.after, Region.binds md e = true → e.on ≠ i := fun e he hb heq => by
          have h1 := hall e he hb
          rw [heq, getD_both hun] at h1
          cases h1
        have h2 := stOp_put hoj (hfree j oj hoj hji hjun hnot) (fun cs b => hsel i oi cs b hi) (fun cs b => hsel j oj cs b hoj) hy (H.2 j (ready_mono hj hji)).2
        refine stOp_mono (fun a' h3 => head_take hi hsel hf hin hdone f (listed.setIfInBounds j true) a' (inv.set hj (low j hj)) (fun k ok hk hki hkun hno => ?_) (ready_mono hr (Ne.symm hji)) h3.1 ?_) h2
        · refine hfree k ok hk hki ?_ hno
          by_cases hjk : j = k
          · subst hjk; exact hjun
          · rw [getD_set_ne true hjk] at hkun; exact hkun
        · rw [Array.setIfInBounds_comm _ _ hji]; exact h3.2

/-- The head, in the order of the text; T: what is said of those that are through. -/
def headB (md : Region.Mode) (ops : Array Oper) (T : Array Bool → Bool) : Nat → Nat → Array Bool → Bool
  | 0, _, listed => T listed
  | f + 1, k, listed => (Region.ready md ops listed).contains k && Region.free md ops listed k && headB md ops T f (k + 1) (listed.setIfInBounds k true)

theorem head_lex {n : Nat} {T : Array Bool → Bool} {Lq : Act → Prop} (hsel : Region.noSelect ops = true) (hf : HeadFirst md ops n) (hT : ∀ listed, T listed = true → ∀ j ∈ Region.ready md ops listed, n ≤ j) :
    ∀ (l : List Oper) (k : Nat) (listed : Array Bool) (a : Act), (∀ j, j < l.length → l[j]? = ops[k + j]?) → k + l.length = n → HeadInv md ops n listed →
    headB md ops T l.length k listed = true → wpStill P ops w Lq l a →
    wpAnyL P md ops w n (fun listed' a' => T listed' = true ∧ Lq a') l.length listed a
  | [], k, listed, a, _, _, _, hB, h => ⟨hB, h⟩
  | o :: l, k, listed, a, hl, hk, inv, hB, h => by
    have h0 : ops[k]? = some o := by simpa using (hl 0 (by simp)).symm
    simp only [List.length_cons, headB, Bool.and_eq_true] at hB
    obtain ⟨⟨hr, hfr⟩, hB'⟩ := hB
    have hkn : k < n := by simp only [List.length_cons] at hk; omega
    have hr' : k ∈ Region.ready md ops listed := by simpa using hr
    have hst : stOp P ops w k (wpStill P ops w Lq l) a := by unfold stOp; simp only [h0]; exact h
    obtain ⟨v, hy, hK⟩ := yieldsAt_of_stOp h0 hst
    exact head_take h0 (Region.noSelect_spec hsel) hf hkn (fun listed' a' hL => hT _ hL.1) l.length listed a inv (Region.free_spec h0 hfr) hr' hy
      (head_lex hsel hf hT l (k + 1) _ _ (fun j hj => by have := hl (j + 1) (by simp; omega); simpa [Nat.add_assoc, Nat.add_comm 1 j] using this) (by simp only [List.length_cons] at hk; omega) (inv.set hr' hkn) hB' hK)

/-- Number n alone comes up; behind it the rest may go in the order of the text. -/
def callB (md : Region.Mode) (ops : Array Oper) (n : Nat) (listed : Array Bool) : Bool :=
  decide (Region.ready md ops listed = [n]) && Region.lexFrom md ops (ops.size - (n + 1)) (n + 1) (listed.setIfInBounds n true)
/-- The closed question to the region. -/
def oneCallB (md : Region.Mode) (ops : Array Oper) (n : Nat) : Bool :=
  Region.noSelect ops && decide (n < ops.size) && Region.sinkB md ops n && rootedB md ops n && headB md ops (callB md ops n) n 0 (Array.replicate ops.size false)

/-- What is asked behind the call: the rest, in whatever world the call has left, each operation handing on. -/
def Rest (P : Program) (ops : Array Oper) (Q : Exit → Act → World → Prop) (l : List Oper) : Exit → Act → World → Prop
  | .normal, a, w => wpQuiet P ops (fun w' => ∃ n, w' = w.drewN n) (fun a' => ∀ w', (∃ n, w' = w.drewN n) → Q .normal a' w') l a
  | e, a, w => Q e a w

theorem wp_region_one_call {id : Nat} {Q : Exit → Act → World → Prop} {a : Act} {w : World} {l : List Oper} {o : Oper} (n : Nat) (hm : P.follows .mixedOrders = true) (ho : l[n]? = some o) (hB : oneCallB .any l.toArray n = true)
    (h : wpStill P l.toArray w.drew (fun a' => wpList P l.toArray (Rest P l.toArray Q (l.drop (n + 1))) [o] a' w.drew) (l.take n) a) : (Code.region id l.toArray true).wp P Q a w := by
  simp only [oneCallB, Bool.and_eq_true, decide_eq_true_eq] at hB
  obtain ⟨⟨⟨⟨hsel, hn⟩, hs⟩, hr⟩, hh⟩ := hB
  have hn' : n < l.length := by simpa using hn
  have htl : (l.take n).length = n := by simp; omega
  have inv0 : HeadInv .any l.toArray n (Array.replicate l.toArray.size false) :=
    ⟨by simp, fun j oj _ hl => (by rw [getD_replicate_false] at hl; cases hl), fun t _ ht => getD_in (by simpa using ht) (getD_replicate_false _ _)⟩
  have hT : ∀ listed, callB .any l.toArray n listed = true → ∀ j ∈ Region.ready .any l.toArray listed, n ≤ j := fun listed hb j hj => by
    simp only [callB, Bool.and_eq_true, decide_eq_true_eq] at hb
    rw [hb.1] at hj
    have : j = n := by simpa using hj
    omega
  have H := head_lex (md := .any) hsel (headFirst hs hr hn) hT (l.take n) 0 _ a (fun j hj => by
    have hj' : j < n := by rw [htl] at hj; exact hj
    simp [hj']) (by simpa using htl) inv0 (by rw [htl]; exact hh) h
  refine wp_region_any hm ?_
  have := wpAny_of_head (Q' := Q) (g := l.length - n) (fun lst a' hL => ?_) _ _ _ H
  · rw [htl, show n + (l.length - n) = l.toArray.size by simp; omega] at this
    exact this
  · obtain ⟨hb, hL⟩ := hL
    simp only [callB, Bool.and_eq_true, decide_eq_true_eq] at hb
    obtain ⟨hrd, hlx⟩ := hb
    rw [show l.length - n = (l.length - (n + 1)) + 1 by omega]
    refine ⟨fun h0 => (by rw [hrd] at h0; cases h0), fun i hi => ?_⟩
    rw [hrd] at hi
    obtain rfl : i = n := by simpa using hi
    have ho' : l.toArray[i]? = some o := by simpa using ho
    have hw : wpOp P l.toArray (Rest P l.toArray Q (l.drop (i + 1))) i (wpList P l.toArray (Rest P l.toArray Q (l.drop (i + 1))) []) a' w.drew := by
      unfold wpOp; simp only [ho']; exact hL
    have hw2 : wpOp P l.toArray Q i (wpList P l.toArray (Rest P l.toArray Q (l.drop (i + 1))) []) a' w.drew := by
      revert hw
      unfold wpOp
      simp only [ho']
      intro hw
      exact hw
    refine wpOp_mono (fun a2 w2 h2 => ?_) hw2
    have h3 : wpQuiet P l.toArray (fun w' => ∃ n, w' = w2.drewN n) (fun a' => ∀ w', (∃ n, w' = w2.drewN n) → Q .normal a' w') (l.drop (i + 1)) a2 := h2
    have hdl : (l.drop (i + 1)).length = l.toArray.size - (i + 1) := by simp
    have h4 := wpAnyQ_lex (md := .any) hsel (l.drop (i + 1)) (i + 1) (lst.setIfInBounds i true) a2 (fun j => by simp [List.getElem?_drop]) (by rw [hdl]; exact hlx) h3
    rw [hdl] at h4
    have h5 := wpAny_of_quiet (Q' := Q) (Q := fun a' => ∀ w', (∃ n, w' = w2.drewN n) → Q .normal a' w') (fun _ w' hw' h => h w' hw') _ _ _ w2 ⟨0, rfl⟩ h4
    simpa using h5
end
end Go.Proofs.YtiohlmccnllklaaGreatDoor.L2
namespace Go.Proofs.YtiohlmccnllklaaGreatDoor.L2
open Go.RowKit
set_option maxHeartbeats 400000

/-- The table at T is turned into one of these sets; beside its own blocks nothing is turned. -/
def TabTo (w w' : World) (T : Nat) (most : Int) (ss : List Int) (m : Nat) (F : List Nat) : Prop := ∃ F', Tab w' T most ss m F' ∧ Turned F w w' ∧ ∀ k ∈ F', k ∈ F ∨ w.heap.size ≤ k
theorem TabTo.same {w w' : World} {T : Nat} {most : Int} {ss : List Int} {m : Nat} {F : List Nat} (h : Tab w T most ss m F) (hb : Below w.heap.size w w') : TabTo w w' T most ss m F :=
  ⟨F, h.below hb, Turned.of_below hb F, fun _ hk => .inl hk⟩
theorem TabTo.trans {w w' w'' : World} {T : Nat} {most : Int} {ss ss' : List Int} {m m' : Nat} {F : List Nat} (h : TabTo w w' T most ss m F) (k : ∀ F', Tab w' T most ss m F' → TabTo w' w'' T most ss' m' F') : TabTo w w'' T most ss' m' F := by
  obtain ⟨F1, h1, t1, n1⟩ := h
  obtain ⟨F2, h2, t2, n2⟩ := k F1 h1
  refine ⟨F2, h2, t1.trans t2 n1, fun x hx => ?_⟩
  have := t1.size
  rcases n2 x hx with h' | h'
  · exact n1 x h'
  · right; omega

theorem number_any (T : Nat) (most : Int) (ss : List Int) (m : Nat) (F : List Nat) (x : Int) (hx : S16 x) (w : World) (h : Tab w T most ss m F) :
    Calls Tryz.prog 52 #[.pointer (some ⟨T, 0, none⟩), .int .u32 x] w fun e w' => e = .returned (.tuple #[.int .i64 (keepR most ss x).2.1, .int .i64 (keepR most ss x).2.2]) ∧ TabTo w w' T most (keepR most ss x).1 m F := by
  by_cases hm : x ∈ ss
  · rw [keepR_old hx.2 hm]
    exact (number_old T most ss m F x hx.w32 hm w h).mono fun e w' ⟨he, hw⟩ => ⟨he, by subst hw; exact TabTo.same h (Below.refl _ _)⟩
  · by_cases hf : most ≤ (ss.length : Int)
    · rw [keepR_full hx.2 hm hf]
      exact (number_full T most ss m F x hx.w32 hm hf w h).mono fun e w' ⟨he, hb⟩ => ⟨he, TabTo.same h hb⟩
    · rw [keepR_new hx.2 hm (by omega)]
      exact (number_new T most ss m F x hx hm (by omega) w h).mono fun e w' ⟨he, F', h1, h2, h3⟩ => ⟨he, F', h1, h2, h3⟩

theorem Keep_nil (x : Int) (w : World) : Calls Tryz.prog 29 #[.pointer none, .int .u32 x] w fun e w' => e = .returned (.tuple #[.int .i64 0, .int .i64 1]) ∧ w = w' := by
  go_enter Tryz.func29, Tryz.ntmps29
  go_wp2
  refine wp_scope_fwd 0 rfl ?_
  go_wp2_with (go_at_call 50; refine (none_nil _).mono ?_; rintro e w' ⟨rfl, rfl⟩)
  go_step3
  refine ⟨rfl, ?_⟩
  go_wp2
  rw [Exit.noGoto_ret]
  go_ret2
  exact ⟨rfl, rfl⟩
theorem Keep_big (T : Nat) (most : Int) (ss : List Int) (m : Nat) (F : List Nat) (x : Int) (hx : W32 x) (hb : 65536 ≤ x) (w : World) (h : Tab w T most ss m F) :
    Calls Tryz.prog 29 #[.pointer (some ⟨T, 0, none⟩), .int .u32 x] w fun e w' => e = .returned (.tuple #[.int .i64 0, .int .i64 2]) ∧ w = w' := by
  obtain ⟨g, c, mb, jb, D, J, rfl, h⟩ := h
  obtain ⟨c0, c1, c2, c3⟩ := h.cell
  have hm : 1 ≤ most := by have := h.sets.pos; have := h.sets.len; omega
  have hd : decide (x < 65536) = false := by simp; omega
  go_enter Tryz.func29, Tryz.ntmps29
  go_wp2
  refine wp_scope_fwd 0 rfl ?_
  go_wp2_with (first | (go_at_call 50; refine (none_some T most _ c0 hm).mono ?_; rintro e w' ⟨rfl, rfl⟩) | (go_at_call 51; refine (isSet_any x hx _).mono ?_; rintro e w' ⟨rfl, rfl⟩; rw [hd]))
  go_step3
  refine ⟨rfl, ?_⟩
  go_wp2
  rw [Exit.noGoto_ret]
  go_ret2
  exact ⟨rfl, rfl⟩
theorem Keep_small (T : Nat) (most : Int) (ss : List Int) (m : Nat) (F : List Nat) (x : Int) (hx : S16 x) (w : World) (h : Tab w T most ss m F) :
    Calls Tryz.prog 29 #[.pointer (some ⟨T, 0, none⟩), .int .u32 x] w fun e w' => e = .returned (.tuple #[.int .i64 (keepR most ss x).2.1, .int .i64 (keepR most ss x).2.2]) ∧ TabTo w w' T most (keepR most ss x).1 m F := by
  have hh := h
  obtain ⟨g, c, mb, jb, D, J, rfl, h⟩ := h
  obtain ⟨c0, c1, c2, c3⟩ := h.cell
  have hm : 1 ≤ most := by have := h.sets.pos; have := h.sets.len; omega
  have hd : decide (x < 65536) = true := by have := hx.2; simpa using this
  have HN := Lib.hid (number_any T most ss m _ x hx w hh)
  clear h hh
  generalize hr : keepR most ss x = r at HN ⊢
  clear hr
  have hx' := hx.w32
  go_enter Tryz.func29, Tryz.ntmps29
  go_wp2
  refine wp_scope_fwd 0 rfl ?_
  go_wp2_with (first | (go_at_call 50; refine (none_some T most _ c0 hm).mono ?_; rintro e w' ⟨rfl, rfl⟩) | (go_at_call 51; refine (isSet_any x hx' _).mono ?_; rintro e w' ⟨rfl, rfl⟩; rw [hd]) | (go_at_call 52; refine HN.out.mono ?_; rintro e w1 ⟨rfl, ht⟩))
  rw [Fwd_ret]
  go_ret2
  exact ⟨rfl, ht⟩
theorem Keep_any (T : Nat) (most : Int) (ss : List Int) (m : Nat) (F : List Nat) (x : Int) (hx : W32 x) (w : World) (h : Tab w T most ss m F) :
    Calls Tryz.prog 29 #[.pointer (some ⟨T, 0, none⟩), .int .u32 x] w fun e w' => e = .returned (.tuple #[.int .i64 (keepR most ss x).2.1, .int .i64 (keepR most ss x).2.2]) ∧ TabTo w w' T most (keepR most ss x).1 m F := by
  by_cases hb : 65536 ≤ x
  · rw [keepR_big hb]
    exact (Keep_big T most ss m F x hx hb w h).mono fun e w' ⟨he, hw⟩ => ⟨he, by subst hw; exact TabTo.same h (Below.refl _ _)⟩
  · exact Keep_small T most ss m F x ⟨hx.1, by omega⟩ w h

/-! ### joined pairs -/
/-- What the map of pairs answers. -/
theorem look_join {w : World} {T g c mb jb : Nat} {most : Int} {ss : List Int} {m : Nat} {D J : DataW Unit} (h : TabIs w T g c mb jb most ss m D J) {a b : Int} (wa : (Lit.int .i64 a).wf = true) (wb : (Lit.int .i64 b).wf = true) :
    ∃ r : Int, (∀ k, (Instr.lookup 131 (.map (some jb)) (.agg #[.int .i64 a, .int .i64 b]) true).run Tryz.prog (w.drewN k) = .ok (.tuple #[.int .i64 r, .bool (Maps.has J (pk a b))]) (w.drewN k)) ∧ J.atKey (pk a b) (.lit (.int .i64 0)) = .lit (.int .i64 r) := by
  have key := fun k => World.ownsMap.look_ok (w := w.drewN k) (show (w.drewN k).ownsMap _ _ _ _ _ _ from h.jnd) pairLaw Tryz.underlying131 (zeroInt (w.drewN k)) (plainElem_int Tryz.underlying3 (wf_i64 (by omega) (by omega))) (key_pair wa wb)
  obtain ⟨v, ps, hr, hv⟩ := key 0
  obtain ⟨r, rfl, ha, _⟩ := plainElem_int_inv Tryz.underlying3 hv
  simp only [Prod.mk.injEq] at ha
  refine ⟨r, fun k => ?_, ha.1⟩
  obtain ⟨v2, ps2, hr2, hv2⟩ := key k
  obtain ⟨r2, rfl, ha2, _⟩ := plainElem_int_inv Tryz.underlying3 hv2
  simp only [Prod.mk.injEq] at ha2
  have e := ha.1.symm.trans ha2.1
  simp at e
  rw [hr2, e]

/-- The box of a pair in the world behind it. -/
theorem box_pair (w : World) (a b : Int) : (w.alloc (.cells #[.int .i64 a, .int .i64 b] 252)).cell? ⟨w.heap.size, 0, none⟩ = some (.int .i64 a) ∧ (w.alloc (.cells #[.int .i64 a, .int .i64 b] 252)).cell? ⟨w.heap.size, 1, none⟩ = some (.int .i64 b) := by
  have h := heap_alloc_new w (.cells #[.int .i64 a, .int .i64 b] 252)
  exact ⟨by rw [cell_of_row _ _ 0 _ _ _ h]; rfl, by rw [cell_of_row _ _ 1 _ _ _ h]; rfl⟩

/-- The sets of a pair, and what either has. -/
theorem sets_or {most : Int} {ss : List Int} (h : Sets most ss) {i j : Nat} (hi : i < ss.length) (hj : j < ss.length) : bits .or .u32 (ss[i]?.getD 0) (ss[j]?.getD 0) = orI (ss[i]?.getD 0) (ss[j]?.getD 0) :=
  orI_bits _ _ (h.at_ hi).w32 (h.at_ hj).w32

theorem keep_tab {w2 w3 w4 : World} {T : Nat} {most : Int} {ss ss' : List Int} {m : Nat} {F : List Nat} {g c mb jb : Nat} {D J : DataW Unit} {i j n : Nat} {x : Int}
    (h3 : TabIs w3 T g c mb jb most ss' m D J) (wi : (Lit.int .i64 (i : Int)).wf = true) (wj : (Lit.int .i64 (j : Int)).wf = true) (hi : i < ss.length) (hj : j < ss.length) (hl : ss.length ≤ ss'.length) (hn : n < ss'.length) (hx : ss'[n]? = some x)
    (ho : x = orI (ss[i]?.getD 0) (ss[j]?.getD 0)) (hp : ∀ i, i < ss.length → ss'[i]? = ss[i]?)
    (t3 : Turned F w2 w3) (hF : ∀ k ∈ [T, g, mb, jb], k ∈ F ∨ w2.heap.size ≤ k)
    (hown : w4.ownsMap Tryz.prog 252 (plainElem Tryz.prog 3) jb (m + 1) (J.put (pk i j) (.lit (.int .i64 (n : Int))))) (hgrow : w3.grownBy w4 (some jb)) : TabTo w2 w4 T most ss' (m + 1) F := by
  obtain ⟨d1, d2, d3, d4, d5⟩ := h3.differ
  have hne := h3.ne
  have t4 : Turned [jb] w3 w4 := Turned.of_grown hgrow (fun k e => by cases e; simp)
  refine ⟨[T, g, mb, jb], ⟨g, c, mb, jb, D, _, rfl, t4.keep h3.blk (by simpa using d3), t4.row h3.row (fun k e => by simp [Value.ownBlock] at e; subst e; simpa using d5), t4.map h3.num (by simpa using hne), h3.numD, hown, ?_, h3.ne, h3.sets⟩, ?_, hF⟩
  · refine h3.joinD.put h3.jnd.isMap wi wj (by omega) (by omega) hn ?_
    rw [hx, ho, hp i hi, hp j hj]
  · exact t3.trans t4 (fun k hk => hF k (by simp at hk; subst hk; simp))

end Go.Proofs.YtiohlmccnllklaaGreatDoor.L2
namespace Go.Proofs.YtiohlmccnllklaaGreatDoor.L2
open Go.RowKit
set_option maxHeartbeats 400000

theorem New_bad (most : Int) (hm : ¬ (1 ≤ most ∧ most ≤ 65536)) (w : World) :
    Calls Tryz.prog 24 #[.int .i64 most] w fun e w' => e = .returned (.tuple #[.pointer none, .int .i64 2]) ∧ w = w' := by
  go_enter Tryz.func24, Tryz.ntmps24
  go_wp2
  refine wp_scope_fwd 0 rfl ?_
  go_wp2
  all_goals
    go_step3
    refine ⟨rfl, ?_⟩
    go_wp2
    rw [Exit.noGoto_ret]
    go_ret2
    exact ⟨rfl, rfl⟩

/-- A map literal's entry, at the operation. -/
theorem wpList_insert_own {H : Type} {P : Program} (w : World) {ops : Array Oper} {rest : List Oper} {o : Oper} {a : Act} {Q : Exit → Act → World → Prop}
    (hg : o.guard = none) (m x v : Operand) (t : TypeId) (hop : o.op = Op.insert t m x v)
    (k e : TypeId) (K : Maps.Keyed P k) (ht : P.underlying t = some (.map k e)) (R : Value → Option (DataW H × List MemPlace)) (b n : Nat) (D : DataW H)
    (hm : a.eval m = .map (some b)) (hown : w.ownsMap P k R b n D) (hn : n < maxLen) (key val : Value) (kl : Lit) (hx : a.eval x = key) (hv : a.eval v = val) (hkey : keyOf P k key = some kl)
    (d : DataW H) (ps : List MemPlace) (hval : R val = some (d, ps))
    (hK : ∀ w', w'.ownsMap P k R b (n + 1) (D.put kl d) → w.mapTurned w' b → wpList P ops Q rest (a.put o.dst undef) w') :
    wpList P ops Q (o :: rest) a w := by
  refine wpList_plain hg fun K' hK' => ?_
  obtain ⟨w', hrun, r1, r2⟩ := hown.store K ht hn hkey hval
  unfold Oper.wp
  simp [execOp, hop, hm, hx, hv, hrun, Result.andThen]
  exact hK' _ _ (hK w' r1 r2)

theorem turned_size {w w' : World} {b : Nat} (h : w.mapTurned w' b) : w'.heap.size = w.heap.size := by
  obtain ⟨es, clock, es', clock', _, rfl⟩ := h
  simp [ChangeMaps.setBlock]
/-- The new table. -/
theorem tab_new {w w2 : World} {most : Int} (h1 : 1 ≤ most) (h2 : most ≤ 65536)
    (hown : w2.ownsMap Tryz.prog 23 (plainElem Tryz.prog 3) (w.heap.size + 1) 1 ((DataW.map (H := Unit) []).put (.int .u32 0) (.lit (.int .i64 0))))
    (hg : ((w.alloc (.cells #[.int .u32 0] 23)).alloc (.map #[] 0)).grownBy w2 (some (w.heap.size + 1))) (hs : w2.heap.size = w.heap.size + 2) :
    Tab ((w2.alloc (.map #[] 0)).alloc (.cells #[.int .i64 most, .slice (some ⟨w.heap.size, 0, none⟩) 1 1, .map (some (w.heap.size + 1)), .map (some (w.heap.size + 2))] 133)) (w.heap.size + 3) most [0] 0 [w.heap.size + 3, w.heap.size, w.heap.size + 1, w.heap.size + 2] := by
  have b0 : w2.heap[w.heap.size]? = some (.cells #[.int .u32 0] 23 (0, 0)) := by
    rw [hg.block w.heap.size (by simp; omega) (by simp), Below.heap_alloc _ _ _ (by simp)]
    exact heap_alloc_new w _
  have s3 : (w2.alloc (.map #[] 0)).heap.size = w.heap.size + 3 := by simp [hs]
  have o2 : (w2.alloc (.map #[] 0)).ownsMap Tryz.prog 252 (plainElem Tryz.prog 3) (w.heap.size + 2) 0 (DataW.map (H := Unit) []) := by
    have := World.ownsMap_made w2 Tryz.prog 252 (plainElem (H := Unit) Tryz.prog 3)
    rwa [hs] at this
  refine ⟨w.heap.size, 1, w.heap.size + 1, w.heap.size + 2, _, _, rfl, ?_, ?_, (hown.alloc _).alloc _, numD_new, o2.alloc _, joinD_new _, by omega, sets_new h1 h2⟩
  · have := heap_alloc_new (w2.alloc (.map #[] 0)) (.cells #[.int .i64 most, .slice (some ⟨w.heap.size, 0, none⟩) 1 1, .map (some (w.heap.size + 1)), .map (some (w.heap.size + 2))] 133)
    rw [s3] at this
    exact this
  · refine ⟨rfl, .inr ⟨w.heap.size, 1, #[.int .u32 0], rfl, Nat.zero_le _, ?_, by simp, by unfold maxLen; omega, rfl, rfl⟩⟩
    rw [Below.heap_alloc _ _ _ (by rw [s3]; omega), Below.heap_alloc _ _ _ (by rw [hs]; omega)]
    exact b0

set_option maxRecDepth 100000 in
theorem New_good (most : Int) (h1 : 1 ≤ most) (h2 : most ≤ 65536) (w : World) :
    Calls Tryz.prog 24 #[.int .i64 most] w fun e w' => e = .returned (.tuple #[.pointer (some ⟨w.heap.size + 3, 0, none⟩), .int .i64 0]) ∧ Tab w' (w.heap.size + 3) most [0] 0 [w.heap.size + 3, w.heap.size, w.heap.size + 1, w.heap.size + 2] ∧ Below w.heap.size w w' := by
  have hmm := @run_makeMap Tryz.prog
  have hown : ((w.alloc (.cells #[.int .u32 0] 23)).alloc (.map #[] 0)).ownsMap Tryz.prog 23 (plainElem Tryz.prog 3) (w.heap.size + 1) 0 (DataW.map (H := Unit) []) := by
    have := World.ownsMap_made (w.alloc (.cells #[.int .u32 0] 23)) Tryz.prog 23 (plainElem (H := Unit) Tryz.prog 3)
    rwa [World.size_alloc] at this
  have H2 := Lib.hid h2
  go_enter Tryz.func24, Tryz.ntmps24
  go_wp2
  refine wp_scope_fwd 0 rfl ?_
  go_wp2_with (refine wpList_insert_own _ rfl _ _ _ 130 rfl 23 3 numLaw Tryz.underlying130 _ (w.heap.size + 1) 0 _ rfl hown (by decide) _ _ _ rfl rfl (key_u32 ⟨by omega, by omega⟩) _ [] (plainElem_int Tryz.underlying3 (wf_i64 (by omega) (by omega))) ?_)
  intro w2 hown2 hturn
  have hs : w2.heap.size = w.heap.size + 2 := by rw [turned_size hturn]; simp
  have T0 := tab_new h1 h2 hown2 hturn.grown hs
  have B2 : Below w.heap.size w w2 := (((Below.refl _ w).alloc (Nat.le_refl _) _).alloc (by simp) _).grown hturn.grown (by simp; omega) (by intro k e; cases e; omega)
  go_wp2
  rw [Fwd_ret]
  go_ret2
  exact ⟨rfl, T0, (B2.alloc (by omega) _).alloc (by simp; omega) _⟩

/-! ### slices.Clone, maps.Clone, slices.Equal at a table's parts -/
theorem sl_eql_nil (w : World) (a : Option Addr) (n c n' c' : Nat) : (binOp .eql 32 (.slice a n c) (.slice none n' c')).run Tryz.prog w = .ok (.bool a.isNone) w := Lib.run_eql_slice_nil w _ _ a n c n' c' Tryz.underlying32

theorem row_at {w : World} {g c : Nat} {xs : List Int} {n : Nat} (hn : xs.length = n) {b : Nat} (h : w.ownsRow b 23 1 (.slice (some ⟨g, 0, none⟩) n c) n (xs.map (Value.int .u32))) {k : Nat} (hk : k < n) : w.cell? ⟨g, k, none⟩ = some (.int .u32 (xs[k]?.getD 0)) := by
  have h1 := h.cells (g := g) rfl k (.int .u32 (xs[k]?.getD 0)) (by simp [List.getElem?_eq_getElem (show k < xs.length by omega)])
  have e : (⟨g, 0, none⟩ : Addr).add k = ⟨g, k, none⟩ := by unfold Addr.add; split <;> simp_all
  rw [e] at h1
  exact h1
theorem row_cap {w : World} {g c : Nat} {n b : Nat} {vs : List Value} {e : TypeId} (h : w.ownsRow b e 1 (.slice (some ⟨g, 0, none⟩) n c) n vs) : n ≤ c := by
  rcases h.2 with ⟨h0, _⟩ | ⟨g', cap, cur, hv, _, _, hc, _⟩
  · cases h0
  · simp at hv; omega
theorem list_eq_of {xs ys : List Int} {n : Nat} (hx : xs.length = n) (hy : ys.length = n) (h : ∀ i, i < n → xs[i]?.getD 0 = ys[i]?.getD 0) : xs = ys := by
  apply List.ext_getElem (by omega)
  intro i h1 h2
  have := h i (by omega)
  simpa [h1, h2] using this
theorem map_eql_nil (w : World) (b : Nat) : (binOp .eql 130 (.map (some b)) (.map none)).run Tryz.prog w = .ok (.bool false) w := run_eql_map_nil_sl w 130 _ _ (some b) Tryz.underlying130
end Go.Proofs.YtiohlmccnllklaaGreatDoor.L2
namespace Go.Proofs.YtiohlmccnllklaaGreatDoor.L2
open Go.RowKit
set_option maxHeartbeats 400000

theorem half_succ (a : Int) (k : Nat) : a / 2 ^ (k + 1) = a / 2 ^ k / 2 := by
  rw [Int.pow_succ, Int.ediv_ediv_of_nonneg (Int.le_of_lt (Int.pow_pos (by omega)))]
theorem half_bd {a : Int} (h : W32 a) (k : Nat) : W32 (a / 2 ^ k) := by
  unfold W32 at *
  have hp : (0 : Int) < 2 ^ k := Int.pow_pos (by omega)
  exact ⟨Int.ediv_nonneg h.1 (Int.le_of_lt hp), Int.lt_of_le_of_lt (Int.ediv_le_self _ h.1) h.2⟩
theorem pow16 (k : Nat) (hk : k ≤ 16) : (1 : Int) ≤ 2 ^ k ∧ (2 : Int) ^ k ≤ 65536 := by
  have h : (2 : Nat) ^ k ≤ 2 ^ 16 := Nat.pow_le_pow_right (by decide) hk
  have h0 : 0 < (2 : Nat) ^ k := Nat.two_pow_pos k
  have e : ((2 : Int) ^ k) = ((2 ^ k : Nat) : Int) := by simp
  rw [e]
  have h3 : (2 : Nat) ^ 16 = 65536 := rfl
  omega
/-- The document's table, by value. -/
def rtab (most : Int) (g n c : Nat) : Value := .agg #[.int .i64 most, .slice (some ⟨g, 0, none⟩) n c]
/-- Its sets lie in block g. -/
def RT (w : World) (g c : Nat) (ss : List Int) : Prop := w.ownsRow 0 23 1 (.slice (some ⟨g, 0, none⟩) ss.length c) ss.length (ss.map (Value.int .u32))
theorem RT.kept {w w' : World} {g c : Nat} {ss : List Int} {F : List Nat} (h : RT w g c ss) (t : Turned F w w') (hn : g ∉ F) : RT w' g c ss := t.row h (fun k e => by simp [Value.ownBlock] at e; subst e; exact hn)
theorem RT.below {w w' : World} {g c : Nat} {ss : List Int} (h : RT w g c ss) (hb : Below w.heap.size w w') : RT w' g c ss := h.kept (Turned.of_below hb []) (by simp)
theorem RT.at_ {w : World} {g c : Nat} {ss : List Int} (h : RT w g c ss) {k : Nat} (hk : k < ss.length) : w.cell? ⟨g, k, none⟩ = some (.int .u32 (ss[k]?.getD 0)) := row_at rfl h hk
theorem RT.lt {w : World} {g c : Nat} {ss : List Int} (h : RT w g c ss) : g < w.heap.size := (World.ownsRow.lt h g rfl).2

theorem rt_one (w : World) (x : Int) : RT (w.alloc (.cells #[.int .u32 x] 23)) w.heap.size 1 [x] :=
  ⟨rfl, .inr ⟨_, 1, _, rfl, Nat.zero_le _, heap_alloc_new w _, by simp, by unfold maxLen; omega, rfl, rfl⟩⟩

theorem RNew_any (most : Int) (w : World) :
    Calls Tryz.prog 27 #[.int .i64 most] w fun e w' => ∃ g c, e = .returned (rtab most g 1 c) ∧ RT w' g c [0] ∧ w.heap.size ≤ g ∧ Below w.heap.size w w' := by
  have h0 := rt_one (w.alloc (.cells #[.int .i64 most, .slice (some ⟨w.heap.size + 1, 0, none⟩) 1 1] 34)) 0
  rw [World.size_alloc] at h0
  have H := Lib.hid h0
  clear h0
  go_enter Tryz.func27, Tryz.ntmps27
  go_wp2
  refine bodyPost_ret (v := rtab most (w.heap.size + 1) 1 1) (by simp [results, Tryz.results27, go_sem, rtab]) rfl ?_
  exact ⟨w.heap.size + 1, 1, rfl, H.out, by omega, ((Below.refl _ _).alloc (Nat.le_refl _) _).alloc (by simp) _⟩

/-- A box of a table, by value. -/
theorem box_rtab (w : World) (x y : Value) (t : TypeId) : (w.alloc (.cells #[x, y] t)).cell? ⟨w.heap.size, 0, none⟩ = some x ∧ (w.alloc (.cells #[x, y] t)).cell? ⟨w.heap.size, 1, none⟩ = some y := by
  have h := heap_alloc_new w (.cells #[x, y] t)
  exact ⟨by rw [cell_of_row _ _ 0 _ _ _ h]; rfl, by rw [cell_of_row _ _ 1 _ _ _ h]; rfl⟩

/-- The number that Has of the document gives. -/
def rhas (ss : List Int) (x : Int) : Int := if x ∈ ss then (pos ss x : Int) else -1
theorem RHas_any (most : Int) (g c : Nat) (ss : List Int) (hl : ss.length ≤ 65536) (x : Int) (w : World) (h : RT w g c ss) :
    Calls Tryz.prog 54 #[rtab most g ss.length c, .int .u32 x] w fun e w' => e = .returned (.int .i64 (rhas ss x)) ∧ Below w.heap.size w w' := by
  have B0 : Below w.heap.size w (w.alloc (.cells #[.int .i64 most, .slice (some ⟨g, 0, none⟩) ss.length c] 34)) := (Below.refl _ _).alloc (Nat.le_refl _) _
  have h1 := h.below B0
  obtain ⟨p0, p1⟩ := box_rtab w (.int .i64 most) (.slice (some ⟨g, 0, none⟩) ss.length c) 34
  have hcap := row_cap h1
  have HR := Lib.hid h1
  clear h h1
  unfold rtab
  go_enter Tryz.func54, Tryz.ntmps54
  go_wp2
  generalize w.alloc (.cells #[.int .i64 most, .slice (some ⟨g, 0, none⟩) ss.length c] 34) = w0 at B0 p0 p1 HR ⊢
  go_loop [5] (fun i => ∃ k : Nat, k ≤ ss.length ∧ i = .int .i64 k ∧ Hid (∀ j, j < k → ss[j]? ≠ some x)) (fun i => ss.length - (intOf i).toNat)
  case atStart => exact ⟨0, by omega, rfl, fun j hj => by omega⟩
  case round =>
    obtain ⟨k, hk, rfl, hE⟩ := hrel
    by_cases hlt : k < ss.length
    · have m1 := HR.out.at_ hlt
      generalize hx : ss[k]?.getD 0 = y at m1
      have HX := Lib.hid hx
      clear hx
      by_cases he : y = x
      · subst he
        go_wp2
        go_ret
        have e : ss[k]? = some y := by
          have := HX.out
          rw [List.getElem?_eq_getElem hlt] at this ⊢
          simpa using this
        have hm : y ∈ ss := List.mem_of_getElem? e
        have hp : pos ss y = k := by
          rcases Nat.lt_trichotomy (pos ss y) k with h1 | h1 | h1
          · exact absurd (pos_get hm) (hE.out _ h1)
          · exact h1
          · exact absurd e (pos_first h1)
        exact ⟨by simp [rhas, hm, hp], B0⟩
      · have t1 : (y == x) = false := by simp [he]
        have HE := Lib.hid he
        clear he
        go_wp2
        go_round
        case rel =>
          refine ⟨k + 1, by omega, by go_num, fun j hj => ?_⟩
          by_cases hjk : j = k
          · subst hjk
            intro e
            have := HX.out
            rw [e] at this
            exact HE.out (by simpa using this.symm)
          · exact hE.out j (by omega)
        case measure => simp [intOf]; omega
    · go_wp2
      go_ret
      obtain rfl : k = ss.length := by omega
      have hm : x ∉ ss := fun hm => hE.out (pos ss x) (pos_lt hm) (pos_get hm)
      exact ⟨by simp [rhas, hm], B0⟩

/-- What Keep (and Joined) of the document leave. -/
def RKept (w w' : World) (e : Ending) (most : Int) (g : Nat) (R : List Int × Int × Int) : Prop :=
  ∃ g' c', e = .returned (.tuple #[rtab most g' R.1.length c', .int .i64 R.2.1, .int .i64 R.2.2]) ∧ RT w' g' c' R.1 ∧ (g' = g ∨ w.heap.size ≤ g') ∧ Below w.heap.size w w'

theorem RKept.drew {w w' : World} {e : Ending} {most : Int} {g : Nat} {R : List Int × Int × Int} (h : RKept w w' e most g R) : RKept w w'.drew e most g R := by
  obtain ⟨g', c', he, hr, hg, hb⟩ := h
  exact ⟨g', c', he, hr, hg, hb.drew⟩
theorem rhas_yes {ss : List Int} {x : Int} (h : x ∈ ss) : rhas ss x = (pos ss x : Int) := by unfold rhas; rw [if_pos h]
theorem rhas_no {ss : List Int} {x : Int} (h : x ∉ ss) : rhas ss x = -1 := by unfold rhas; rw [if_neg h]

set_option maxRecDepth 100000 in
theorem RKeep_big (most : Int) (g c : Nat) (ss : List Int) (x : Int) (hx : 65536 ≤ x) (w : World) (h : RT w g c ss) :
    Calls Tryz.prog 32 #[rtab most g ss.length c, .int .u32 x] w fun e w' => RKept w w' e most g (ss, 0, 2) := by
  have HR := Lib.hid h
  clear h
  unfold rtab
  go_enter Tryz.func32, Tryz.ntmps32
  go_wp2
  refine bodyPost_ret (v := .tuple #[rtab most g ss.length c, .int .i64 0, .int .i64 2]) (by simp [results, Tryz.results32, go_sem, rtab]) rfl ?_
  have B : Below w.heap.size w ((w.alloc (.cells #[.int .i64 most, .slice (some ⟨g, 0, none⟩) ss.length c] 34)).alloc (.cells #[.int .i64 most, .slice (some ⟨g, 0, none⟩) ss.length c] 34)) := ((Below.refl _ _).alloc (Nat.le_refl _) _).alloc (by simp) _
  exact ⟨g, c, rfl, HR.out.below B, .inl rfl, B⟩

theorem two_boxes (w : World) (x y u v : Value) (t : TypeId) :
    ((w.alloc (.cells #[x, y] t)).alloc (.cells #[u, v] t)).heap[w.heap.size]? = some (.cells #[x, y] t (0, 0)) ∧ ((w.alloc (.cells #[x, y] t)).alloc (.cells #[u, v] t)).heap[w.heap.size + 1]? = some (.cells #[u, v] t (0, 0)) := by
  refine ⟨?_, ?_⟩
  · rw [Below.heap_alloc _ _ _ (by simp)]; exact heap_alloc_new w _
  · have := heap_alloc_new (w.alloc (.cells #[x, y] t)) (.cells #[u, v] t)
    rwa [World.size_alloc] at this
theorem blk_cells {w : World} {b : Nat} {x y : Value} {t : TypeId} (h : w.heap[b]? = some (.cells #[x, y] t (0, 0))) :
    w.cell? ⟨b, 0, none⟩ = some x ∧ w.cell? ⟨b, 1, none⟩ = some y ∧ w.frozen? ⟨b, 0, none⟩ = false ∧ w.frozen? ⟨b, 1, none⟩ = false :=
  ⟨by rw [cell_of_row _ _ 0 _ _ _ h]; rfl, by rw [cell_of_row _ _ 1 _ _ _ h]; rfl, by simp [World.frozen?, h], by simp [World.frozen?, h]⟩
theorem blk_set2 {w : World} {b : Nat} {x y u v : Value} {t : TypeId} (h : w.heap[b]? = some (.cells #[x, y] t (0, 0))) :
    ((w.setCell ⟨b, 0, none⟩ u).setCell ⟨b, 1, none⟩ v).heap[b]? = some (.cells #[u, v] t (0, 0)) := by
  simp [World.setCell, Array.getElem?_modify, h]
theorem blk_set1 {w : World} {b : Nat} {x y v : Value} {t : TypeId} (h : w.heap[b]? = some (.cells #[x, y] t (0, 0))) : (w.setCell ⟨b, 1, none⟩ v).heap[b]? = some (.cells #[x, v] t (0, 0)) := by
  simp [World.setCell, Array.getElem?_modify, h]
theorem blk_far {w : World} {b c : Nat} {o : Obj} (h : w.heap[b]? = some o) (hne : b ≠ c) (k : Nat) (u : Value) : (w.setCell ⟨c, k, none⟩ u).heap[b]? = some o :=
  (Below.heap_setCell _ _ _ _ hne).trans h

/-- The answer laid into the box of the result. -/
theorem rk_end {w w1 : World} {most : Int} {g g0 c : Nat} {ss : List Int} {n e : Int} {u v : Value} (h : RT w1 g c ss) (hb : Below w.heap.size w w1) (hg : g = g0 ∨ w.heap.size ≤ g) (hne : g ≠ w.heap.size + 1) :
    RKept w ((w1.setCell ⟨w.heap.size + 1, 0, none⟩ u).setCell ⟨w.heap.size + 1, 1, none⟩ v) (.returned (.tuple #[rtab most g ss.length c, .int .i64 n, .int .i64 e])) most g0 (ss, n, e) := by
  refine ⟨g, c, rfl, ?_, hg, (hb.setCell (p := ⟨w.heap.size + 1, 0, none⟩) (by simp) _).setCell (p := ⟨w.heap.size + 1, 1, none⟩) (by simp) _⟩
  exact h.kept (F := [w.heap.size + 1]) (((Turned.refl _ w1).setCell (p := ⟨w.heap.size + 1, 0, none⟩) (.inl (by simp)) _).setCell (p := ⟨w.heap.size + 1, 1, none⟩) (.inl (by simp)) _) (by simpa using hne)

set_option maxRecDepth 100000 in
theorem RKeep_old (most : Int) (g c : Nat) (ss : List Int) (hl : ss.length ≤ 65536) (x : Int) (hx : S16 x) (hm : x ∈ ss) (w : World) (h : RT w g c ss) :
    Calls Tryz.prog 32 #[rtab most g ss.length c, .int .u32 x] w fun e w' => RKept w w' e most g (ss, (pos ss x : Int), 0) := by
  have B : Below w.heap.size w ((w.alloc (.cells #[.int .i64 most, .slice (some ⟨g, 0, none⟩) ss.length c] 34)).alloc (.cells #[.int .i64 0, .slice none 0 0] 34)) := ((Below.refl _ _).alloc (Nat.le_refl _) _).alloc (by simp) _
  obtain ⟨b0, b1⟩ := two_boxes w (.int .i64 most) (.slice (some ⟨g, 0, none⟩) ss.length c) (.int .i64 0) (.slice none 0 0) 34
  have hsz : ((w.alloc (.cells #[.int .i64 most, .slice (some ⟨g, 0, none⟩) ss.length c] 34)).alloc (.cells #[.int .i64 0, .slice none 0 0] 34)).heap.size = w.heap.size + 2 := by simp
  have HC := Lib.hid (RHas_any most g c ss hl x _ (h.below B))
  rw [rhas_yes hm] at HC
  have HR := Lib.hid (h.below B)
  have hp := pos_le ss x
  obtain ⟨hx0, hx1⟩ := hx
  have hg : g ≠ w.heap.size + 1 := by have := h.lt; omega
  clear h hm
  unfold rtab at HC ⊢
  go_enter Tryz.func32, Tryz.ntmps32
  go_wp2_with fail
  generalize (w.alloc (.cells #[.int .i64 most, .slice (some ⟨g, 0, none⟩) ss.length c] 34)).alloc (.cells #[.int .i64 0, .slice none 0 0] 34) = w0 at B b0 b1 HC HR hsz ⊢
  refine HC.out.mono ?_
  rintro e w1 ⟨rfl, hb⟩
  have HB := Lib.hid (B.trans (hb.mono (by omega)))
  have HR1 := Lib.hid (HR.out.below hb)
  have b0' := (hb.block w.heap.size (by omega)).trans b0
  have b1' := (hb.block (w.heap.size + 1) (by omega)).trans b1
  obtain ⟨p0, p1, _, _⟩ := blk_cells b0'
  obtain ⟨q0, q1, q2, q3⟩ := blk_cells b1'
  have HS := Lib.hid (blk_set2 (u := .int .i64 most) (v := .slice (some ⟨g, 0, none⟩) ss.length c) b1')
  have HG := Lib.hid hg
  clear b0 b1 b0' b1' hsz B HC HR hb hg
  go_wp2_with fail
  obtain ⟨s0, s1, _, _⟩ := blk_cells HS.out
  refine bodyPost_ret (v := .tuple #[rtab most g ss.length c, .int .i64 (pos ss x : Int), .int .i64 0]) (by simp [results, Tryz.results32, go_sem, rtab, s0, s1]) rfl ?_
  exact rk_end HR1.out HB.out (.inl rfl) HG.out

set_option maxRecDepth 100000 in
theorem RKeep_full (most : Int) (g c : Nat) (ss : List Int) (hl : ss.length ≤ 65536) (x : Int) (hx : S16 x) (hm : x ∉ ss) (hf : most ≤ (ss.length : Int)) (w : World) (h : RT w g c ss) :
    Calls Tryz.prog 32 #[rtab most g ss.length c, .int .u32 x] w fun e w' => RKept w w' e most g (ss, 0, 120) := by
  have B : Below w.heap.size w ((w.alloc (.cells #[.int .i64 most, .slice (some ⟨g, 0, none⟩) ss.length c] 34)).alloc (.cells #[.int .i64 0, .slice none 0 0] 34)) := ((Below.refl _ _).alloc (Nat.le_refl _) _).alloc (by simp) _
  obtain ⟨b0, b1⟩ := two_boxes w (.int .i64 most) (.slice (some ⟨g, 0, none⟩) ss.length c) (.int .i64 0) (.slice none 0 0) 34
  have hsz : ((w.alloc (.cells #[.int .i64 most, .slice (some ⟨g, 0, none⟩) ss.length c] 34)).alloc (.cells #[.int .i64 0, .slice none 0 0] 34)).heap.size = w.heap.size + 2 := by simp
  have HC := Lib.hid (RHas_any most g c ss hl x _ (h.below B))
  rw [rhas_no hm] at HC
  have HR := Lib.hid (h.below B)
  obtain ⟨hx0, hx1⟩ := hx
  have hg : g ≠ w.heap.size + 1 := by have := h.lt; omega
  clear h hm
  unfold rtab at HC ⊢
  go_enter Tryz.func32, Tryz.ntmps32
  go_wp2_with fail
  generalize (w.alloc (.cells #[.int .i64 most, .slice (some ⟨g, 0, none⟩) ss.length c] 34)).alloc (.cells #[.int .i64 0, .slice none 0 0] 34) = w0 at B b0 b1 HC HR hsz ⊢
  refine HC.out.mono ?_
  rintro e w1 ⟨rfl, hb⟩
  have HB := Lib.hid (B.trans (hb.mono (by omega)))
  have HR1 := Lib.hid (HR.out.below hb)
  have b0' := (hb.block w.heap.size (by omega)).trans b0
  have b1' := (hb.block (w.heap.size + 1) (by omega)).trans b1
  obtain ⟨p0, p1, _, _⟩ := blk_cells b0'
  obtain ⟨q0, q1, q2, q3⟩ := blk_cells b1'
  have HS := Lib.hid (blk_set2 (u := .int .i64 most) (v := .slice (some ⟨g, 0, none⟩) ss.length c) b1')
  have HG := Lib.hid hg
  clear b0 b1 b0' b1' hsz B HC HR hb hg
  go_wp2_with fail
  obtain ⟨s0, s1, _, _⟩ := blk_cells HS.out
  refine bodyPost_ret (v := .tuple #[rtab most g ss.length c, .int .i64 0, .int .i64 120]) (by simp [results, Tryz.results32, go_sem, rtab, s0, s1]) rfl ?_
  exact rk_end HR1.out HB.out (.inl rfl) HG.out

set_option maxRecDepth 100000 in
theorem RKeep_new (most : Int) (g c : Nat) (ss : List Int) (hl : ss.length ≤ 65536) (x : Int) (hx : S16 x) (hm : x ∉ ss) (hf : (ss.length : Int) < most) (h0 : 0 < ss.length) (w : World) (h : RT w g c ss) :
    Calls Tryz.prog 32 #[rtab most g ss.length c, .int .u32 x] w fun e w' => RKept w w' e most g (ss ++ [x], (ss.length : Int), 0) := by
  have B : Below w.heap.size w ((w.alloc (.cells #[.int .i64 most, .slice (some ⟨g, 0, none⟩) ss.length c] 34)).alloc (.cells #[.int .i64 0, .slice none 0 0] 34)) := ((Below.refl _ _).alloc (Nat.le_refl _) _).alloc (by simp) _
  obtain ⟨b0, b1⟩ := two_boxes w (.int .i64 most) (.slice (some ⟨g, 0, none⟩) ss.length c) (.int .i64 0) (.slice none 0 0) 34
  have hsz : ((w.alloc (.cells #[.int .i64 most, .slice (some ⟨g, 0, none⟩) ss.length c] 34)).alloc (.cells #[.int .i64 0, .slice none 0 0] 34)).heap.size = w.heap.size + 2 := by simp
  have HC := Lib.hid (RHas_any most g c ss hl x _ (h.below B))
  rw [rhas_no hm] at HC
  have HR := Lib.hid (h.below B)
  obtain ⟨i0, hi, hz0, hz1, hz2⟩ := info_parts A.infoE
  obtain ⟨hx0, hx1⟩ := hx
  have hg : g ≠ w.heap.size + 1 := by have := h.lt; omega
  clear h hm
  unfold rtab at HC ⊢
  go_enter Tryz.func32, Tryz.ntmps32
  go_wp2_with fail
  generalize (w.alloc (.cells #[.int .i64 most, .slice (some ⟨g, 0, none⟩) ss.length c] 34)).alloc (.cells #[.int .i64 0, .slice none 0 0] 34) = w0 at B b0 b1 HC HR hsz ⊢
  refine HC.out.mono ?_
  rintro e w1 ⟨rfl, hb⟩
  have HB := Lib.hid (B.trans (hb.mono (by omega)))
  have HR1 := Lib.hid (HR.out.below hb)
  have b0' := (hb.block w.heap.size (by omega)).trans b0
  have b1' := (hb.block (w.heap.size + 1) (by omega)).trans b1
  obtain ⟨p0, p1, _, _⟩ := blk_cells b0'
  obtain ⟨q0, q1, q2, q3⟩ := blk_cells b1'
  have HG := Lib.hid hg
  have HB0 := Lib.hid b0'
  have HB1 := Lib.hid b1'
  have hs1 : w.heap.size + 2 ≤ w1.heap.size := by have := hb.size; omega
  clear b0 b1 b0' b1' hsz B HC HR hb hg
  have hrow := HR1.out
  have hcs := World.ownsRow.cells (g := g) hrow rfl
  have HCS := Lib.hid hcs
  clear hrow hcs
  go_wp2_with (at_builtin; refine wpList_append_own_at _ rfl (.const (.slice none 0 0)) (.tmp 26) 32 rfl 0 23 i0 (.int .u32 0) 1 4 Tryz.underlying32 hi hz0 hz1 hz2 rfl (by decide) _ _ _ rfl (World.ownsRow_nil _ _ _ _) ⟨g, 0, none⟩ ss.length c (ss.map (Value.int .u32)) rfl (by simp) HCS.out (ints_one .u32 ss) (by unfold maxLen; omega) (by omega) (by simp) ?_)
  intro v2 w2 hown2 hgrow2 _ hloc2
  obtain ⟨g2, c2, rfl⟩ : ∃ g2 c2, v2 = .slice (some ⟨g2, 0, none⟩) ss.length c2 := by
    rcases hown2.2 with ⟨_, hz⟩ | ⟨g', cap, cur, hv, _⟩
    · omega
    · exact ⟨g', cap, by simpa using hv⟩
  have hR2 : RT w2 g2 c2 ss := by simpa [RT] using hown2
  have hg2 : g2 = w1.heap.size := by simpa [Value.ownBlock] using hloc2
  have hb2 : Below w1.heap.size w1 w2 := ⟨hgrow2.os, hgrow2.tape, hgrow2.output, hgrow2.size, fun k hk => hgrow2.block k hk (by simp [Value.ownBlock])⟩
  have hs2 := hb2.size
  have d0 := (hb2.block w.heap.size (by omega)).trans HB0.out
  have d1 := (hb2.block (w.heap.size + 1) (by omega)).trans HB1.out
  have HB2 := Lib.hid (HB.out.trans (hb2.mono HB.out.size))
  have hR2' := hR2
  unfold RT at hR2'
  clear hown2 hgrow2 hloc2 HB HR1 HCS hb2 hR2 p0 p1 q0 q1 q2 q3
  have HD0 := Lib.hid d0
  have HD1 := Lib.hid d1
  obtain ⟨p0, p1, p2, p3⟩ := blk_cells d0
  obtain ⟨q0, q1, q2, q3⟩ := blk_cells d1
  clear d0 d1
  have HG2 := Lib.hid hg2
  clear hg2
  go_wp2_with (at_builtin; refine wpList_append_own_at _ rfl (.tmp 27) (.tmp 29) 32 rfl 0 23 i0 (.int .u32 0) 1 4 Tryz.underlying32 hi hz0 hz1 hz2 rfl (by decide) _ _ _ rfl (hR2'.alloc _) ⟨w2.heap.size, 0, none⟩ 1 1 [.int .u32 x] rfl rfl (cell_one_new _ _ _) (ints_one .u32 [x]) (by unfold maxLen; omega) (by omega) (by simp) ?_)
  intro v3 w3 hown3 hgrow3 _ hloc3
  obtain ⟨g3, c3, rfl⟩ := row_head hown3
  simp only [Value.ownBlock, Option.some.injEq] at hloc3 hgrow3
  have t3 : Turned [g2] w2 w3 := ((Turned.refl [g2] w2).alloc _).trans (Turned.of_grown (F := [g2]) hgrow3 (fun k e => by cases e; simp)) (fun k hk => .inl hk)
  have e0 := t3.keep HD0.out (by have := HG2.out; simp; omega)
  have e1 := t3.keep HD1.out (by have := HG2.out; simp; omega)
  have HB3 := Lib.hid (HB2.out.trans ((t3.below (B := w.heap.size) HB2.out.size (by have := HG2.out; simp; omega))))
  have hR3 : RT w3 g3 c3 (ss ++ [x]) := by simpa [RT] using hown3
  have hg3 : w.heap.size + 2 ≤ g3 := by have := HG2.out; omega
  have HR3 := Lib.hid hR3
  have HE0 := Lib.hid e0
  have HE1 := Lib.hid e1
  clear hown3 hgrow3 hloc3 hR2' t3 p0 p1 p2 p3 q0 q1 q2 q3 hR3
  obtain ⟨p0, p1, p2, p3⟩ := blk_cells e0
  obtain ⟨q0, q1, q2, q3⟩ := blk_cells e1
  clear e0 e1 hi hz0 hz1 hz2
  go_wp2_with fail
  have f0 := blk_set1 (v := .slice (some ⟨g3, 0, none⟩) (ss.length + 1) c3) HE0.out
  have f1 := blk_far HE1.out (show w.heap.size + 1 ≠ w.heap.size by omega) 1 (.slice (some ⟨g3, 0, none⟩) (ss.length + 1) c3)
  have HR4 := Lib.hid (HR3.out.kept (F := [w.heap.size]) ((Turned.refl _ w3).setCell (p := ⟨w.heap.size, 1, none⟩) (.inl (by simp)) (.slice (some ⟨g3, 0, none⟩) (ss.length + 1) c3)) (by simp; omega))
  have HB4 := Lib.hid (HB3.out.setCell (p := ⟨w.heap.size, 1, none⟩) (Nat.le_refl _) (.slice (some ⟨g3, 0, none⟩) (ss.length + 1) c3))
  clear p0 p1 p2 p3 q0 q1 q2 q3
  generalize w3.setCell ⟨w.heap.size, 1, none⟩ (.slice (some ⟨g3, 0, none⟩) (ss.length + 1) c3) = w4 at f0 f1 HR4 HB4 ⊢
  obtain ⟨p0, p1, p2, p3⟩ := blk_cells f0
  obtain ⟨q0, q1, q2, q3⟩ := blk_cells f1
  have HF1 := Lib.hid f1
  clear f0 f1
  have w1' : IntKind.i64.wrap (((ss.length + 1 : Nat) : Int) - 1) = (ss.length : Int) := by rw [IntKind.wrap_i64]; omega
  have w2' : IntKind.i64.wrap ((ss.length : Int) + 1 - 1) = (ss.length : Int) := by rw [IntKind.wrap_i64]; omega
  go_region
  all_goals go_wp2_with fail
  have s := blk_set2 (u := .int .i64 most) (v := .slice (some ⟨g3, 0, none⟩) (ss.length + 1) c3) HF1.out
  obtain ⟨s0, s1, _, _⟩ := blk_cells s
  have e := rk_end (most := most) (g0 := g) (n := (ss.length : Int)) (e := 0) (u := .int .i64 most) (v := .slice (some ⟨g3, 0, none⟩) (ss.length + 1) c3) HR4.out HB4.out (.inr (by omega)) (by omega)
  rw [List.length_append, List.length_singleton] at e
  refine bodyPost_ret (v := .tuple #[rtab most g3 (ss.length + 1) c3, .int .i64 (ss.length : Int), .int .i64 0]) (by simp [results, Tryz.results32, go_sem, rtab, s0, s1]) rfl ?_
  exact e.drew

theorem RKeep_any (most : Int) (g c : Nat) (ss : List Int) (hs : Sets most ss) (x : Int) (hx : W32 x) (w : World) (h : RT w g c ss) :
    Calls Tryz.prog 32 #[rtab most g ss.length c, .int .u32 x] w fun e w' => RKept w w' e most g (keepR most ss x) := by
  have hl : ss.length ≤ 65536 := by have := hs.len; have := hs.most; omega
  by_cases hb : 65536 ≤ x
  · rw [keepR_big hb]; exact RKeep_big most g c ss x hb w h
  · have hx' : S16 x := ⟨hx.1, by omega⟩
    by_cases hm : x ∈ ss
    · rw [keepR_old hx'.2 hm]; exact RKeep_old most g c ss hl x hx' hm w h
    · by_cases hf : most ≤ (ss.length : Int)
      · rw [keepR_full hx'.2 hm hf]; exact RKeep_full most g c ss hl x hx' hm hf w h
      · rw [keepR_new hx'.2 hm (by omega)]; exact RKeep_new most g c ss hl x hx' hm (by omega) hs.pos w h

end Go.Proofs.YtiohlmccnllklaaGreatDoor.L2
namespace Go.Proofs.YtiohlmccnllklaaGreatDoor.L2
open Go.RowKit
set_option maxHeartbeats 400000

theorem copy_keep {w W W1 : World} {T g c mb jb : Nat} {most : Int} {ss : List Int} {m : Nat} {D J : DataW Unit} (h : TabIs W T g c mb jb most ss m D J) (hB : Below w.heap.size w W) (hb : Below W.heap.size W W1) :
    W1.cell? ⟨T, 0, none⟩ = some (.int .i64 most) ∧ W1.cell? ⟨T, 1, none⟩ = some (.slice (some ⟨g, 0, none⟩) ss.length c) ∧ W1.cell? ⟨T, 2, none⟩ = some (.map (some mb)) ∧ TabIs W1 T g c mb jb most ss m D J ∧ Below w.heap.size w W1 := by
  have h1 := h.kept (Turned.of_below hb []) (fun _ _ hk => by cases hk)
  obtain ⟨c0, c1, c2, c3⟩ := h1.cell
  exact ⟨c0, c1, c2, h1, hB.trans (hb.mono hB.size)⟩

theorem row_base {w : World} {base : Nat} {e : TypeId} {size : Nat} {v : Value} {n : Nat} {xs : List Value} (h : w.ownsRow base e size v n xs) : w.ownsRow 0 e size v n xs := by
  refine ⟨h.1, ?_⟩
  rcases h.2 with h2 | ⟨g, cap, cur, hv, _, r⟩
  · exact .inl h2
  · exact .inr ⟨g, cap, cur, hv, Nat.zero_le _, r⟩
/-- The copy, from its parts. -/
theorem copy_tab {w W : World} {g' c' mb' jb' : Nat} {most : Int} {ss : List Int} {D : DataW Unit} (hn : NumD ss D) (hs : Sets most ss)
    (row : W.ownsRow w.heap.size 23 1 (.slice (some ⟨g', 0, none⟩) ss.length c') ss.length (ss.map (Value.int .u32)))
    (num : W.ownsMap Tryz.prog 23 (plainElem Tryz.prog 3) mb' ss.length D) (jnd : W.ownsMap Tryz.prog 252 (plainElem Tryz.prog 3) jb' 0 (DataW.map (H := Unit) []))
    (hne : mb' ≠ jb') (h1 : w.heap.size ≤ mb') (h2 : w.heap.size ≤ jb') (hB : Below w.heap.size w W) :
    ∃ F', Tab (W.alloc (.cells #[.int .i64 most, .slice (some ⟨g', 0, none⟩) ss.length c', .map (some mb'), .map (some jb')] 133)) W.heap.size most ss 0 F' ∧ (∀ k ∈ F', w.heap.size ≤ k) ∧
      Below w.heap.size w (W.alloc (.cells #[.int .i64 most, .slice (some ⟨g', 0, none⟩) ss.length c', .map (some mb'), .map (some jb')] 133)) := by
  refine ⟨_, ⟨g', c', mb', jb', D, _, rfl, heap_alloc_new W _, (row_base row).alloc _, num.alloc _, hn, jnd.alloc _, joinD_new _, hne, hs⟩, ?_, hB.alloc hB.size _⟩
  have h3 := (row.lt g' rfl).1
  have := hB.size
  intro k hk
  simp at hk
  rcases hk with rfl | rfl | rfl | rfl <;> assumption
theorem row_keep {w W : World} {base base' : Nat} {e : TypeId} {v : Value} {n : Nat} {xs : List Value} (h : w.ownsRow base e 1 v n xs) (hb : Below w.heap.size w W) (hbb : base' ≤ base) : W.ownsRow base' e 1 v n xs := by
  have h1 := (Turned.of_below hb []).row h (fun _ _ hk => by cases hk)
  refine ⟨h1.1, ?_⟩
  rcases h1.2 with h2 | ⟨g, cap, cur, hv, hg, r⟩
  · exact .inl h2
  · exact .inr ⟨g, cap, cur, hv, by omega, r⟩
theorem map_keep {w W : World} {H : Type} {P : Program} {k : TypeId} {R : Value → Option (DataW H × List MemPlace)} {b n : Nat} {D : DataW H} (h : w.ownsMap P k R b n D) (hb : Below w.heap.size w W) : W.ownsMap P k R b n D :=
  (Turned.of_below hb []).map h (fun hk => by cases hk)
def CopyPost (w w' : World) (v : Value) (most : Int) (ss : List Int) : Prop := ∃ T' F', v = .pointer (some ⟨T', 0, none⟩) ∧ Tab w' T' most ss 0 F' ∧ (∀ k ∈ F', w.heap.size ≤ k) ∧ Below w.heap.size w w'

/-! ### Same -/
end Go.Proofs.YtiohlmccnllklaaGreatDoor.L2

/-
  Plain numbers and lists of layer 2: sets of labels as words, a table as the list of its sets. No program. Layer 2: what a world holds where a table lies: its block, its sets, its two maps; which blocks are a table's own. A scope that is left forward by one goto: what stands behind the label is walked from the frame in which the goto stands. No program. Layer 2: what each small function of package labels gives, over a table that lies: walks. Layer 2: number and join of package labels: a set's number, kept if it was not; a joined pair's number, remembered: walks. A region that draws its order, whose operations read until ONE call that may write, and only hand its answer on behind it. One walk: the reads in the order of the text, the call, the rest. No program. Layer 2: Keep and Join of package labels: walks. Layer 2: New, All, Copy, Same of package labels: walks. Layer 2: what the document's own answers (package pomanderref02) give: walks.
-/
import Derived.WalkKit
import Derived.Laws.BitsAllLaws
import Derived.Test.YtjffclcjijpmiaaRows
import Derived.Below
import Derived.Maps.Ext
import Derived.Maps.OwnSet
import Derived.Maps.AppendAt
import Derived.DeepKeys5
import Derived.Laws.NewBlocks
import Derived.Deep.Draws
import Derived.WalkMore
import Derived.ScopeJumps
import Derived.WalkSpells
import Derived.WalkLawsBesides
import Derived.Lib.Hide
import Derived.Deep.QuietTactic
import Derived.BigQuiet
import Derived.StillTail
import Derived.StillTactics
import Derived.Deep.Quiet
import Derived.StillTailTactics
import Derived.Shelf.SlMaps.Clone
import Derived.Lib.SliceRun
import Derived.Deep.RegionHeld3
import Derived.RegionTactic
set_option linter.unusedVariables false
set_option linter.unusedSimpArgs false
namespace Go.Proofs.Ytjffclcjijpmiaa.L2
open Go.RowKit

/-- An integer is a word; a set: below 65536. -/
def W32 (a : Int) : Prop := 0 ≤ a ∧ a < 4294967296
def S16 (a : Int) : Prop := 0 ≤ a ∧ a < 65536
theorem S16.w32 {a : Int} (h : S16 a) : W32 a := by unfold S16 at h; unfold W32; omega
theorem w32_of_wf {a : Int} (h : (Lit.int .u32 a).wf = true) : W32 a := by
  simp [Lit.wf, IntKind.min, IntKind.max, IntKind.signed, IntKind.bits] at h
  unfold W32; omega
theorem wf_of_w32 {a : Int} (h : W32 a) : (Lit.int .u32 a).wf = true := by
  unfold W32 at h
  simp [Lit.wf, IntKind.min, IntKind.max, IntKind.signed, IntKind.bits]; omega
theorem wf_i64 {a : Int} (h0 : -9223372036854775808 ≤ a) (h1 : a ≤ 9223372036854775807) : (Lit.int .i64 a).wf = true := by
  simp [Lit.wf, IntKind.min, IntKind.max, IntKind.signed, IntKind.bits]; omega
theorem i64_of_wf {a : Int} (h : (Lit.int .i64 a).wf = true) : -9223372036854775808 ≤ a ∧ a ≤ 9223372036854775807 := by
  simp [Lit.wf, IntKind.min, IntKind.max, IntKind.signed, IntKind.bits] at h
  omega

/-! ### what either has, bit by bit -/
def orI (a b : Int) : Int := ((a.toNat ||| b.toNat : Nat) : Int)
theorem orI_bits (a b : Int) (ha : W32 a) (hb : W32 b) : bits .or .u32 a b = orI a b := u32_or a b ha.1 ha.2 hb.1 hb.2
theorem orI_s16 {a b : Int} (ha : S16 a) (hb : S16 b) : S16 (orI a b) := by
  unfold S16 at *; unfold orI
  have h : a.toNat ||| b.toNat < 2 ^ 16 := Nat.or_lt_two_pow (by omega) (by omega)
  omega
theorem orI_comm (a b : Int) : orI a b = orI b a := by unfold orI; rw [Nat.or_comm]

/-- Has a set a label? -/
def bitI (a : Int) (n : Nat) : Bool := a.toNat.testBit n
theorem bitI_div {a : Int} (h : 0 ≤ a) (n : Nat) : (a / 2 ^ n % 2 == 1) = bitI a n := by
  obtain ⟨m, rfl⟩ := Int.eq_ofNat_of_zero_le h
  unfold bitI
  rw [Int.toNat_natCast, Nat.testBit_eq_decide_div_mod_eq]
  rw [Bool.eq_iff_iff]
  simp only [beq_iff_eq, decide_eq_true_eq]
  constructor
  · intro e; exact_mod_cast e
  · intro e; exact_mod_cast e
theorem bitI_high {a : Int} (h : S16 a) (n : Nat) (hn : 16 ≤ n) : bitI a n = false := by
  unfold S16 at h
  unfold bitI
  exact Nat.testBit_lt_two_pow (Nat.lt_of_lt_of_le (show a.toNat < 2 ^ 16 by omega) (Nat.pow_le_pow_right (by decide) hn))
theorem bitI_or (a b : Int) (n : Nat) : bitI (orI a b) n = (bitI a n || bitI b n) := by
  unfold bitI orI; rw [Int.toNat_natCast, Nat.testBit_or]

/-- The first k bits of what either has. -/
def orS (a b : Int) (k : Nat) : Int := (((orI a b).toNat % 2 ^ k : Nat) : Int)
theorem orS_zero (a b : Int) : orS a b 0 = 0 := by unfold orS; simp [Nat.mod_one]
theorem mod_succ (x k : Nat) : x % 2 ^ (k + 1) = x % 2 ^ k + 2 ^ k * (x / 2 ^ k % 2) := by
  rw [Nat.pow_succ, Nat.mod_mul]
theorem orS_succ (a b : Int) (k : Nat) : orS a b (k + 1) = orS a b k + (if (bitI a k || bitI b k) = true then 2 ^ k else 0) := by
  rw [← bitI_or]
  unfold orS bitI
  rw [mod_succ, Nat.testBit_eq_decide_div_mod_eq]
  by_cases h : (orI a b).toNat / 2 ^ k % 2 = 1
  · simp [h]
  · have h0 : (orI a b).toNat / 2 ^ k % 2 = 0 := by omega
    simp [h0]
theorem orS_yes (a b : Int) (k : Nat) (h : (bitI a k || bitI b k) = true) : orS a b (k + 1) = orS a b k + 2 ^ k := by rw [orS_succ, if_pos h]
theorem orS_no (a b : Int) (k : Nat) (h : (bitI a k || bitI b k) = false) : orS a b (k + 1) = orS a b k := by rw [orS_succ, if_neg (by simp [h])]; omega
theorem orS_end {a b : Int} (ha : S16 a) (hb : S16 b) : orS a b 16 = orI a b := by
  have h := orI_s16 ha hb
  unfold S16 at h
  unfold orS
  rw [Nat.mod_eq_of_lt (by omega)]
  omega
theorem orS_le (a b : Int) (k : Nat) (hk : k ≤ 16) : 0 ≤ orS a b k ∧ orS a b k < 65536 := by
  unfold orS
  have h1 := Nat.mod_lt (orI a b).toNat (Nat.two_pow_pos k)
  have h2 : 2 ^ k ≤ 2 ^ 16 := Nat.pow_le_pow_right (by decide) hk
  have h3 : (2 : Nat) ^ 16 = 65536 := rfl
  omega

/-! ### the place of a set -/
def pos : List Int → Int → Nat
  | [], _ => 0
  | y :: r, x => if y = x then 0 else pos r x + 1
theorem pos_le : ∀ (ss : List Int) (x : Int), pos ss x ≤ ss.length
  | [], _ => Nat.le_refl _
  | y :: r, x => by
    unfold pos
    have := pos_le r x
    split <;> simp <;> omega
theorem pos_lt : ∀ {ss : List Int} {x : Int}, x ∈ ss → pos ss x < ss.length
  | y :: r, x, h => by
    unfold pos
    split
    · simp
    · rename_i hne
      have := pos_lt (ss := r) (x := x) (by
        rcases List.mem_cons.1 h with e | h'
        · exact absurd e.symm hne
        · exact h')
      simp; omega
theorem pos_get : ∀ {ss : List Int} {x : Int}, x ∈ ss → ss[pos ss x]? = some x
  | y :: r, x, h => by
    unfold pos
    split
    · rename_i e; simp [e]
    · rename_i hne
      have := pos_get (ss := r) (x := x) (by
        rcases List.mem_cons.1 h with e | h'
        · exact absurd e.symm hne
        · exact h')
      simpa using this
theorem pos_first : ∀ {ss : List Int} {x : Int} {j : Nat}, j < pos ss x → ss[j]? ≠ some x
  | [], x, j, h => by simp
  | y :: r, x, j, h => by
    unfold pos at h
    split at h
    · omega
    · rename_i hne
      cases j with
      | zero => simpa using hne
      | succ j => simpa using pos_first (ss := r) (x := x) (j := j) (by omega)
/-- Of sets that differ each one's place is the place. -/
theorem pos_of_get {ss : List Int} (hn : ss.Nodup) {x : Int} {i : Nat} (h : ss[i]? = some x) : pos ss x = i := by
  have hm : x ∈ ss := List.mem_of_getElem? h
  have h1 := pos_get hm
  have hl := pos_lt hm
  have hi : i < ss.length := (List.getElem?_eq_some_iff.1 h).1
  have e1 := (List.getElem?_eq_some_iff.1 h1).2
  have e2 := (List.getElem?_eq_some_iff.1 h).2
  exact (List.getElem_inj (h₀ := hl) (h₁ := hi) hn).1 (by rw [e1, e2])
theorem pos_snoc_old {ss : List Int} {x y : Int} (h : x ∈ ss) : pos (ss ++ [y]) x = pos ss x := by
  induction ss with
  | nil => cases h
  | cons z r ih =>
    simp only [List.cons_append, pos]
    split
    · rfl
    · rename_i hne
      rw [ih (by
        rcases List.mem_cons.1 h with e | h'
        · exact absurd e.symm hne
        · exact h')]
theorem pos_snoc_new {ss : List Int} {x : Int} (h : x ∉ ss) : pos (ss ++ [x]) x = ss.length := by
  induction ss with
  | nil => simp [pos]
  | cons z r ih =>
    simp only [List.mem_cons, not_or] at h
    simp only [List.cons_append, pos]
    rw [if_neg (fun e => h.1 e.symm), ih h.2]
    simp

/-! ### a table's sets -/
structure Sets (most : Int) (ss : List Int) : Prop where
  pos : 0 < ss.length
  len : (ss.length : Int) ≤ most
  most : most ≤ 65536
  head : ss[0]? = some 0
  apart : ss.Nodup
  s16 : ∀ x ∈ ss, S16 x
theorem sets_new {most : Int} (h0 : 1 ≤ most) (h1 : most ≤ 65536) : Sets most [0] :=
  ⟨by simp, by simpa using h0, h1, rfl, by simp, by simp [S16]⟩
theorem Sets.at_ {most : Int} {ss : List Int} (h : Sets most ss) {k : Nat} (hk : k < ss.length) : S16 (ss[k]?.getD 0) := by
  rw [List.getElem?_eq_getElem hk]
  exact h.s16 _ (List.getElem_mem hk)
theorem Sets.snoc {most : Int} {ss : List Int} (h : Sets most ss) {x : Int} (hx : S16 x) (hn : x ∉ ss) (hl : (ss.length : Int) < most) : Sets most (ss ++ [x]) := by
  refine ⟨by simp, by simp; omega, h.most, ?_, ?_, ?_⟩
  · rw [List.getElem?_append_left h.pos]; exact h.head
  · rw [List.nodup_append]
    exact ⟨h.apart, by simp, fun a ha b hb e => by simp at hb; subst e; subst hb; exact hn ha⟩
  · intro y hy
    rcases List.mem_append.1 hy with h' | h'
    · exact h.s16 y h'
    · simp at h'; subst h'; exact hx

/-- What Keep gives: the sets behind it, the number, the error. -/
def keepR (most : Int) (ss : List Int) (x : Int) : List Int × Int × Int :=
  if 65536 ≤ x then (ss, 0, 2) else if x ∈ ss then (ss, (pos ss x : Int), 0) else if most ≤ (ss.length : Int) then (ss, 0, 120) else (ss ++ [x], (ss.length : Int), 0)
theorem keepR_big {most : Int} {ss : List Int} {x : Int} (h : 65536 ≤ x) : keepR most ss x = (ss, 0, 2) := by unfold keepR; rw [if_pos h]
theorem keepR_old {most : Int} {ss : List Int} {x : Int} (h : x < 65536) (hm : x ∈ ss) : keepR most ss x = (ss, (pos ss x : Int), 0) := by unfold keepR; rw [if_neg (by omega), if_pos hm]
theorem keepR_full {most : Int} {ss : List Int} {x : Int} (h : x < 65536) (hm : x ∉ ss) (hf : most ≤ (ss.length : Int)) : keepR most ss x = (ss, 0, 120) := by unfold keepR; rw [if_neg (by omega), if_neg hm, if_pos hf]
theorem keepR_new {most : Int} {ss : List Int} {x : Int} (h : x < 65536) (hm : x ∉ ss) (hf : (ss.length : Int) < most) : keepR most ss x = (ss ++ [x], (ss.length : Int), 0) := by unfold keepR; rw [if_neg (by omega), if_neg hm, if_neg (by omega)]
theorem Sets.keep {most : Int} {ss : List Int} (h : Sets most ss) {x : Int} (hx : 0 ≤ x) : Sets most (keepR most ss x).1 := by
  unfold keepR
  split
  · exact h
  · split
    · exact h
    · split
      · exact h
      · exact h.snoc ⟨hx, by omega⟩ ‹_› (by omega)
/-- Where Keep is no error: the set has that number, the others theirs. -/
theorem keepR_ok {most : Int} {ss : List Int} (h : Sets most ss) {x : Int} (hx : S16 x) (he : (keepR most ss x).2.2 = 0) :
    ∃ n : Nat, (keepR most ss x).2.1 = (n : Int) ∧ n < (keepR most ss x).1.length ∧ (keepR most ss x).1[n]? = some x ∧ ss.length ≤ (keepR most ss x).1.length ∧ ∀ i, i < ss.length → (keepR most ss x).1[i]? = ss[i]? := by
  by_cases hm : x ∈ ss
  · rw [keepR_old hx.2 hm]
    exact ⟨pos ss x, rfl, pos_lt hm, pos_get hm, Nat.le_refl _, fun _ _ => rfl⟩
  · by_cases hf : most ≤ (ss.length : Int)
    · rw [keepR_full hx.2 hm hf] at he; simp at he
    · rw [keepR_new hx.2 hm (by omega)]
      exact ⟨ss.length, rfl, by simp, by simp, by simp, fun i hi => by simp [List.getElem?_append_left hi]⟩
theorem keepR_err {most : Int} {ss : List Int} {x : Int} (hx : S16 x) (he : (keepR most ss x).2.2 ≠ 0) : keepR most ss x = (ss, 0, 120) := by
  by_cases hm : x ∈ ss
  · rw [keepR_old hx.2 hm] at he; simp at he
  · by_cases hf : most ≤ (ss.length : Int)
    · exact keepR_full hx.2 hm hf
    · rw [keepR_new hx.2 hm (by omega)] at he; simp at he
/-- What Join gives. -/
def joinR (most : Int) (ss : List Int) (a b : Int) : List Int × Int × Int :=
  if a < 0 ∨ (ss.length : Int) ≤ a ∨ b < 0 ∨ (ss.length : Int) ≤ b then (ss, 0, 5) else keepR most ss (orI (ss[a.toNat]?.getD 0) (ss[b.toNat]?.getD 0))
theorem joinR_none {most : Int} {ss : List Int} {a b : Int} (h : a < 0 ∨ (ss.length : Int) ≤ a ∨ b < 0 ∨ (ss.length : Int) ≤ b) : joinR most ss a b = (ss, 0, 5) := by unfold joinR; rw [if_pos h]
theorem joinR_some {most : Int} {ss : List Int} {i j : Nat} (hi : i < ss.length) (hj : j < ss.length) : joinR most ss (i : Int) (j : Int) = keepR most ss (orI (ss[i]?.getD 0) (ss[j]?.getD 0)) := by
  unfold joinR
  rw [if_neg (by omega)]
  simp
theorem joinR_comm (most : Int) (ss : List Int) (a b : Int) : joinR most ss a b = joinR most ss b a := by
  by_cases h : a < 0 ∨ (ss.length : Int) ≤ a ∨ b < 0 ∨ (ss.length : Int) ≤ b
  · rw [joinR_none h, joinR_none (by omega)]
  · unfold joinR
    rw [if_neg h, if_neg (by omega), orI_comm]
theorem Sets.join {most : Int} {ss : List Int} (h : Sets most ss) (a b : Int) : Sets most (joinR most ss a b).1 := by
  unfold joinR
  split
  · exact h
  · rename_i hc
    refine h.keep ?_
    exact (orI_s16 (h.at_ (by omega)) (h.at_ (by omega))).1
end Go.Proofs.Ytjffclcjijpmiaa.L2
namespace Go.Proofs.Ytjffclcjijpmiaa.L2
open Go.RowKit

/-! ### worlds that turn in some blocks alone -/
structure Turned (F : List Nat) (w w' : World) : Prop where
  os : w'.os = w.os
  tape : w'.tape = w.tape
  output : w'.output = w.output
  size : w.heap.size ≤ w'.heap.size
  block : ∀ k, k < w.heap.size → k ∉ F → w'.heap[k]? = w.heap[k]?

theorem Turned.refl (F : List Nat) (w : World) : Turned F w w := ⟨rfl, rfl, rfl, Nat.le_refl _, fun _ _ _ => rfl⟩
theorem Turned.trans {F G : List Nat} {a b c : World} (h : Turned F a b) (k : Turned G b c) (hG : ∀ x ∈ G, x ∈ F ∨ a.heap.size ≤ x) : Turned F a c :=
  ⟨k.os.trans h.os, k.tape.trans h.tape, k.output.trans h.output, Nat.le_trans h.size k.size, fun i hi hn =>
    (k.block i (Nat.lt_of_lt_of_le hi h.size) (fun hm => by rcases hG i hm with h' | h'; exact hn h'; omega)).trans (h.block i hi hn)⟩
theorem Turned.mono {F G : List Nat} {a b : World} (h : Turned F a b) (hG : ∀ x ∈ F, x ∈ G) : Turned G a b :=
  ⟨h.os, h.tape, h.output, h.size, fun k hk hn => h.block k hk (fun hm => hn (hG k hm))⟩
theorem Turned.of_below {w w' : World} (h : Below w.heap.size w w') (F : List Nat) : Turned F w w' := ⟨h.os, h.tape, h.output, h.size, fun k hk _ => h.block k hk⟩
theorem Turned.of_grown {w w' : World} {row : Option Nat} (h : w.grownBy w' row) {F : List Nat} (hr : ∀ k, row = some k → k ∈ F) : Turned F w w' :=
  ⟨h.os, h.tape, h.output, h.size, fun k hk hn => h.block k hk (fun e => hn (hr k e.symm))⟩
theorem Turned.alloc {F : List Nat} {a w : World} (h : Turned F a w) (o : Obj) : Turned F a (w.alloc o) :=
  h.trans (G := []) ⟨rfl, rfl, rfl, by simp, fun k hk _ => Below.heap_alloc _ _ _ hk⟩ (fun x hx => by cases hx)
theorem Turned.drew {F : List Nat} {a w : World} (h : Turned F a w) : Turned F a w.drew := ⟨h.os, h.tape, h.output, h.size, h.block⟩
theorem Turned.setCell {F : List Nat} {a w : World} (h : Turned F a w) {p : Addr} (hp : p.block ∈ F ∨ a.heap.size ≤ p.block) (u : Value) : Turned F a (w.setCell p u) :=
  h.trans (G := [p.block]) ⟨rfl, rfl, rfl, by simp [World.setCell], fun k _ hn => Below.heap_setCell _ _ _ _ (by simpa using hn)⟩ (fun x hx => by simp at hx; subst hx; exact hp)
theorem Turned.below {F : List Nat} {w w' : World} (h : Turned F w w') {B : Nat} (hB : B ≤ w.heap.size) (hF : ∀ k ∈ F, B ≤ k) : Below B w w' :=
  ⟨h.os, h.tape, h.output, h.size, fun k hk => h.block k (by omega) (fun hm => by have := hF k hm; omega)⟩
theorem Turned.grown {w w' : World} {k : Nat} (h : Turned [k] w w') : w.grownBy w' (some k) :=
  ⟨h.os, h.tape, h.output, h.size, fun i hi hn => h.block i hi (by simpa using hn)⟩

theorem below_drewN (B : Nat) (w : World) (n : Nat) : Below B w (w.drewN n) := ⟨rfl, rfl, rfl, Nat.le_refl _, fun _ _ => rfl⟩

/-- A block known whole stays where it is not turned. -/
theorem Turned.keep {F : List Nat} {w w' : World} (h : Turned F w w') {k : Nat} {o : Obj} (hk : w.heap[k]? = some o) (hn : k ∉ F) : w'.heap[k]? = some o :=
  (h.block k (Array.getElem?_eq_some_iff.1 hk).1 hn).trans hk
theorem Turned.row {F : List Nat} {w w' : World} (h : Turned F w w') {base : Nat} {e : TypeId} {size n : Nat} {v : Value} {xs : List Value} (ho : w.ownsRow base e size v n xs) (hn : ∀ g, v.ownBlock = some g → g ∉ F) : w'.ownsRow base e size v n xs := by
  refine ⟨ho.1, ?_⟩
  rcases ho.2 with hnil | ⟨g, cap, cur, rfl, hb, hgg, rest⟩
  · exact .inl hnil
  · exact .inr ⟨g, cap, cur, rfl, hb, h.keep hgg (hn g rfl), rest⟩
theorem Turned.map {F : List Nat} {w w' : World} (h : Turned F w w') {H : Type} {P : Program} {k : TypeId} {R : Value → Option (DataW H × List MemPlace)} {b n : Nat} {D : DataW H} (ho : w.ownsMap P k R b n D) (hn : b ∉ F) : w'.ownsMap P k R b n D := by
  obtain ⟨es, clock, hb, r⟩ := ho
  exact ⟨es, clock, h.keep hb hn, r⟩

/-! ### the two maps -/
/-- The key of a pair. -/
def pk (a b : Int) : Lit := .string (keyBytes [.int .i64 a, .int .i64 b])
theorem numLaw : Maps.Keyed Try.prog 117 := Maps.int_keyed Try.underlying117
theorem isKey_pk (a b : Int) : WideAt.IsKeyLit (pk a b) := trivial
theorem isKey_u32 (x : Int) : WideAt.IsKeyLit (Lit.int .u32 x) := trivial
theorem key_u32 {x : Int} (h : W32 x) : keyOf Try.prog 117 (.int .u32 x) = some (.int .u32 x)   := Maps.keyOf_int_mk Try.underlying117 (wf_of_w32 h)
def NumD (ss : List Int) (D : DataW Unit) : Prop := ∀ x, W32 x → Maps.has D (.int .u32 x) = decide (x ∈ ss) ∧ D.atKey (.int .u32 x) (.lit (.int .i64 0)) = .lit (.int .i64 (if x ∈ ss then (pos ss x : Int) else 0))
def JoinD (ss : List Int) (J : DataW Unit) : Prop := ∀ a b : Int, (Lit.int .i64 a).wf = true → (Lit.int .i64 b).wf = true → Maps.has J (pk a b) = true →
  ∃ i j n : Nat, a = i ∧ b = j ∧ i < ss.length ∧ j < ss.length ∧ n < ss.length ∧ J.atKey (pk a b) (.lit (.int .i64 0)) = .lit (.int .i64 n) ∧ ss[n]? = some (orI (ss[i]?.getD 0) (ss[j]?.getD 0))

theorem numD_new : NumD [0] ((DataW.map []).put (.int .u32 0) (.lit (.int .i64 0))) := by
  intro x _
  by_cases h : x = 0
  · subst h
    rw [Maps.has_put_same Maps.isMap_empty (isKey_u32 0), Maps.atKey_put_same Maps.isMap_empty (isKey_u32 0)]
    simp [pos]
  · rw [Maps.has_put_other (by simpa using h), Maps.atKey_put_other (by simpa using h)]
    simp [h, Maps.has, DataW.atKey]
theorem NumD.snoc {ss : List Int} {D : DataW Unit} (h : NumD ss D) (hD : Maps.IsMap D) {y : Int} (hy : y ∉ ss) : NumD (ss ++ [y]) (D.put (.int .u32 y) (.lit (.int .i64 (ss.length : Int)))) := by
  intro x hx
  by_cases e : x = y
  · subst e
    rw [Maps.has_put_same hD (isKey_u32 x), Maps.atKey_put_same hD (isKey_u32 x)]
    simp [pos_snoc_new hy]
  · obtain ⟨h1, h2⟩ := h x hx
    rw [Maps.has_put_other (by simpa using e), Maps.atKey_put_other (by simpa using e), h1, h2]
    by_cases hm : x ∈ ss
    · simp [hm, pos_snoc_old hm]
    · simp [hm, e]
theorem joinD_new (ss : List Int) : JoinD ss (.map []) := by
  intro a b _ _ h
  simp [Maps.has] at h
theorem JoinD.snoc {ss : List Int} {J : DataW Unit} (h : JoinD ss J) (y : Int) : JoinD (ss ++ [y]) J := by
  intro a b wa wb hh
  obtain ⟨i, j, n, ha, hb, hi, hj, hn, hat, hs⟩ := h a b wa wb hh
  refine ⟨i, j, n, ha, hb, by simp; omega, by simp; omega, by simp; omega, hat, ?_⟩
  rw [List.getElem?_append_left hn, List.getElem?_append_left hi, List.getElem?_append_left hj]
  exact hs
/-! ### a table -/
def cellsTab (most : Int) (g n c mb jb : Nat) : Array Value := #[.int .i64 most, .slice (some ⟨g, 0, none⟩) n c, .map (some mb), .map (some jb)]
section
variable {w w' : World} {T g c mb jb : Nat} {most : Int} {ss : List Int} {m : Nat} {D J : DataW Unit} {F G : List Nat}
end
end Go.Proofs.Ytjffclcjijpmiaa.L2
namespace Go.Proofs.Ytjffclcjijpmiaa.L2
open Go.RowKit

/-- By a goto to l: K; by another goto: no way out; else Q. -/
def Fwd (l : Nat) (K : Act → World → Prop) (Q : Exit → Act → World → Prop) : Exit → Act → World → Prop
  | .goto l', a, w => l' = l ∧ K a w
  | e, a, w => Q e a w

section
variable {l : Nat} {K : Act → World → Prop} {Q : Exit → Act → World → Prop} {a : Act} {w : World}
theorem Fwd_normal : Fwd l K Q .normal a w = Q .normal a w := rfl
theorem Fwd_exit (id : Nat) : Fwd l K Q (.exit id) a w = Q (.exit id) a w := rfl
theorem Fwd_ret : Fwd l K Q .ret a w = Q .ret a w := rfl
theorem Fwd_panic (ch : List PanicEntry) : Fwd l K Q (.panic ch) a w = Q (.panic ch) a w := rfl
theorem Fwd_goto : Fwd l K Q (.goto l) a w = (True ∧ K a w) := by simp [Fwd]

theorem wp_scope_fwd {P : Program} {c rest : Code} (l : Nat) (hf : findLabel c l = some rest)
    (first : c.wp P (Fwd l (fun a' w' => rest.wp P (Exit.noGoto Q) a' w') Q) a w) : (Code.scope c).wp P Q a w := by
  intro b k cs
  have hg : gotoIn l (.inScope c :: k) = some (.code rest :: .inScope c :: k) := by simp [gotoIn, hf]
  obtain ⟨e, a₁, w₁, hq, harr⟩ := first b (.inScope c :: k) cs
  cases e with
  | normal => exact ⟨.normal, a₁, w₁, hq, .head step_scope (Steps.trans harr (.one step_inScope))⟩
  | exit id => exact ⟨.exit id, a₁, w₁, hq, fun k' hk => .head step_scope (harr k' (by simp [exitTo, hk]))⟩
  | goto l' =>
    obtain ⟨rfl, hK⟩ := hq
    obtain ⟨e₂, a₂, w₂, hq₂, harr₂⟩ := hK b (.inScope c :: k) cs
    have hjump := Steps.head (P := P) (step_scope (P := P) (b := b) (a := a) (k := k) (cs := cs) (w := w) (c := c)) (harr _ hg)
    cases e₂ with
    | normal => exact ⟨.normal, a₂, w₂, hq₂, Steps.trans hjump (Steps.trans harr₂ (.one step_inScope))⟩
    | exit id => exact ⟨.exit id, a₂, w₂, hq₂, fun k' hk => Steps.trans hjump (harr₂ k' (by simp [exitTo, hk]))⟩
    | goto l'' => exact hq₂.elim
    | ret => exact ⟨_, a₂, w₂, hq₂, .of_steps hjump harr₂⟩
    | panic ch => exact ⟨_, a₂, w₂, hq₂, .of_steps hjump harr₂⟩
    | outgrown => exact ⟨_, a₂, w₂, hq₂, .of_steps hjump harr₂⟩
  | ret => exact ⟨_, a₁, w₁, hq, .of_steps (.one step_scope) harr⟩
  | panic ch => exact ⟨_, a₁, w₁, hq, .of_steps (.one step_scope) harr⟩
  | outgrown => exact ⟨_, a₁, w₁, hq, .of_steps (.one step_scope) harr⟩
end
end Go.Proofs.Ytjffclcjijpmiaa.L2
namespace Go.Proofs.Ytjffclcjijpmiaa.L2
open Go.RowKit
set_option maxHeartbeats 400000

/-! ### with a goto -/
theorem zeroInt (w : World) : (zeroValue 3).run Try.prog w = .ok (.int .i64 0) w := by kernel_rfl
end Go.Proofs.Ytjffclcjijpmiaa.L2
namespace Go.Proofs.Ytjffclcjijpmiaa.L2
open Go.RowKit
set_option maxHeartbeats 400000

theorem A.infoE : (Try.prog.info? 117).map (fun i => (i.zero, i.size, i.bytes)) = some (some (.int .u32 0), 1, 4) := by kernel_rfl

theorem ints_one (k : IntKind) : ∀ xs : List Int, ∀ u ∈ xs.map (Value.int k), u.oneCell' = true := by
  intro xs u hu
  obtain ⟨x, _, rfl⟩ := List.mem_map.1 hu
  rfl

set_option maxHeartbeats 1000000 in
/-- A row that owns something begins at the head of a block. -/
theorem row_head {w : World} {base : Nat} {e : TypeId} {v : Value} {n : Nat} {xs : List Value} (h : w.ownsRow base e 1 v (n + 1) xs) : ∃ g c, v = .slice (some ⟨g, 0, none⟩) (n + 1) c := by
  rcases h.2 with ⟨_, h0⟩ | ⟨g, cap, cur, rfl, _⟩
  · omega
  · exact ⟨g, cap, rfl⟩
end Go.Proofs.Ytjffclcjijpmiaa.L2
namespace Go.Proofs.Ytjffclcjijpmiaa.L2
open Go.RowKit

/-- Whatever stands behind number n waits for something from n on that stands ahead of it. -/
def rootedB (md : Region.Mode) (ops : Array Oper) (n : Nat) : Bool :=
  (List.range ops.size).all fun t => decide (t ≤ n) || (List.range t).any fun s => decide (n ≤ s) && Region.waitsFor md ops t s

section
variable {P : Program} {ops : Array Oper} {md : Region.Mode} {w : World}

/-- While the head is not through, nothing from n on comes up. -/
def HeadFirst (md : Region.Mode) (ops : Array Oper) (n : Nat) : Prop :=
  ∀ listed, HeadInv md ops n listed → ∀ i, i < n → listed.getD i true = false → ∀ t, n ≤ t → t ∉ Region.ready md ops listed

theorem headFirst {n : Nat} (hs : Region.sinkB md ops n = true) (hr : rootedB md ops n = true) (hn : n < ops.size) : HeadFirst md ops n := by
  intro listed inv
  have main : ∀ (d i : Nat), n - i = d → i < n → listed.getD i true = false → n ∉ Region.ready md ops listed := by
    intro d
    induction d using Nat.strongRecOn with
    | _ d ih =>
      intro i hd hi hun hrd
      obtain ⟨_, on, hon, hall⟩ := mem_ready.1 hrd
      obtain ⟨j, hj, hj2⟩ := List.any_eq_true.1 (List.all_eq_true.1 hs i (List.mem_range.2 hi))
      simp only [Bool.and_eq_true, decide_eq_true_eq] at hj2
      have hjn : j < n + 1 := List.mem_range.1 hj
      obtain ⟨oj, hoj, e, he, hb, heq⟩ := Region.waitsFor_spec hj2.2
      have hno : ∀ o, ops[j]? = some o → j = n → False := fun o ho hjn' => by
        subst hjn'
        have : oj = on := Option.some.inj (hoj.symm.trans hon)
        subst this
        have h2 := hall e he hb
        rw [heq, getD_both hun] at h2
        cases h2
      rcases Nat.lt_or_ge j n with hlt | hge
      · cases hl : listed.getD j false with
        | true =>
          have h2 := inv.closed j oj hoj hl e he hb
          rw [heq, getD_both hun] at h2
          cases h2
        | false => exact ih (n - j) (by omega) j rfl hlt (getD_in (by rw [inv.size]; omega) hl) hrd
      · exact hno oj hoj (by omega)
  intro i hi hun t ht hrd
  by_cases htn : t = n
  · subst htn; exact main _ i rfl hi hun hrd
  · obtain ⟨_, ot, hot, hall⟩ := mem_ready.1 hrd
    have htlt : t < ops.size := (Array.getElem?_eq_some_iff.1 hot).1
    have h1 := List.all_eq_true.1 hr t (List.mem_range.2 htlt)
    simp only [Bool.or_eq_true, decide_eq_true_eq] at h1
    rcases h1 with h1 | h1
    · omega
    · obtain ⟨s, hs1, hs2⟩ := List.any_eq_true.1 h1
      simp only [Bool.and_eq_true, decide_eq_true_eq] at hs2
      obtain ⟨o', ho', e, he, hb, heq⟩ := Region.waitsFor_spec hs2.2
      have : o' = ot := Option.some.inj (ho'.symm.trans hot)
      subst this
      have hst : s < t := List.mem_range.1 hs1
      have h2 := hall e he hb
      rw [heq, getD_both (inv.tail s hs2.1 (by omega))] at h2
      cases h2

/-- In the head an operation that comes up and yields may be taken first. -/
theorem head_take {n i : Nat} {oi : Oper} {v : Value} {L : Array Bool → Act → Prop} (hi : ops[i]? = some oi) (hsel : ∀ (j : Nat) (o : Oper) cs b, ops[j]? = some o → o.op ≠ .select cs b)
    (hf : HeadFirst md ops n) (hin : i < n) (hdone : ∀ listed a, L listed a → ∀ j ∈ Region.ready md ops listed, n ≤ j) :
    ∀ (f : Nat) (listed : Array Bool) (a : Act), HeadInv md ops n listed →
      (∀ j oj, ops[j]? = some oj → j ≠ i → listed.getD j true = false → (∀ e ∈ oj.after, Region.binds md e = true → e.on ≠ i) → oi.apart ops oj = true) →
      i ∈ Region.ready md ops listed → YieldsAt P ops w oi v a →
      wpAnyL P md ops w n L f (listed.setIfInBounds i true) (a.put oi.dst v) → wpAnyL P md ops w n L (f + 1) listed a
  | f, listed, a, inv, hfree, hr, hy, H => by
    have hun := (mem_ready.1 hr).1
    have low : ∀ j ∈ Region.ready md ops listed, j < n := fun j hj => by
      rcases Nat.lt_or_ge j n with h | h
      · exact h
      · exact absurd hj (hf listed inv i hin hun j h)
    refine ⟨fun h => (by rw [h] at hr; cases hr), fun j hj => ⟨low j hj, ?_⟩⟩
    by_cases hji : j = i
    · subst hji; exact hy.stOp hi H
    · cases f with
      | zero =>
        have := hdone _ _ H j (ready_mono hj hji)
        have := low j hj
        omega
      | succ f =>
        obtain ⟨hjun, oj, hoj, hall⟩ := mem_ready.1 hj
        have hnot : ∀ e ∈ oj.after, Region.binds md e = true → e.on ≠ i := fun e he hb heq => by
          have h1 := hall e he hb
          rw [heq, getD_both hun] at h1
          cases h1
        have h2 := stOp_put hoj (hfree j oj hoj hji hjun hnot) (fun cs b => hsel i oi cs b hi) (fun cs b => hsel j oj cs b hoj) hy (H.2 j (ready_mono hj hji)).2
        refine stOp_mono (fun a' h3 => head_take hi hsel hf hin hdone f (listed.setIfInBounds j true) a' (inv.set hj (low j hj)) (fun k ok hk hki hkun hno => ?_) (ready_mono hr (Ne.symm hji)) h3.1 ?_) h2
        · refine hfree k ok hk hki ?_ hno
          by_cases hjk : j = k
          · subst hjk; exact hjun
          · rw [getD_set_ne true hjk] at hkun; exact hkun
        · rw [Array.setIfInBounds_comm _ _ hji]; exact h3.2

/-- The head, in the order of the text; T: what is said of those that are through. -/
def headB (md : Region.Mode) (ops : Array Oper) (T : Array Bool → Bool) : Nat → Nat → Array Bool → Bool
  | 0, _, listed => T listed
  | f + 1, k, listed => (Region.ready md ops listed).contains k && Region.free md ops listed k && headB md ops T f (k + 1) (listed.setIfInBounds k true)

theorem head_lex {n : Nat} {T : Array Bool → Bool} {Lq : Act → Prop} (hsel : Region.noSelect ops = true) (hf : HeadFirst md ops n) (hT : ∀ listed, T listed = true → ∀ j ∈ Region.ready md ops listed, n ≤ j) :
    ∀ (l : List Oper) (k : Nat) (listed : Array Bool) (a : Act), (∀ j, j < l.length → l[j]? = ops[k + j]?) → k + l.length = n → HeadInv md ops n listed →
    headB md ops T l.length k listed = true → wpStill P ops w Lq l a →
    wpAnyL P md ops w n (fun listed' a' => T listed' = true ∧ Lq a') l.length listed a
  | [], k, listed, a, _, _, _, hB, h => ⟨hB, h⟩
  | o :: l, k, listed, a, hl, hk, inv, hB, h => by
    have h0 : ops[k]? = some o := by simpa using (hl 0 (by simp)).symm
    simp only [List.length_cons, headB, Bool.and_eq_true] at hB
    obtain ⟨⟨hr, hfr⟩, hB'⟩ := hB
    have hkn : k < n := by simp only [List.length_cons] at hk; omega
    have hr' : k ∈ Region.ready md ops listed := by simpa using hr
    have hst : stOp P ops w k (wpStill P ops w Lq l) a := by unfold stOp; simp only [h0]; exact h
    obtain ⟨v, hy, hK⟩ := yieldsAt_of_stOp h0 hst
    exact head_take h0 (Region.noSelect_spec hsel) hf hkn (fun listed' a' hL => hT _ hL.1) l.length listed a inv (Region.free_spec h0 hfr) hr' hy
      (head_lex hsel hf hT l (k + 1) _ _ (fun j hj => by have := hl (j + 1) (by simp; omega); simpa [Nat.add_assoc, Nat.add_comm 1 j] using this) (by simp only [List.length_cons] at hk; omega) (inv.set hr' hkn) hB' hK)

/-- Number n alone comes up; behind it the rest may go in the order of the text. -/
def callB (md : Region.Mode) (ops : Array Oper) (n : Nat) (listed : Array Bool) : Bool :=
  decide (Region.ready md ops listed = [n]) && Region.lexFrom md ops (ops.size - (n + 1)) (n + 1) (listed.setIfInBounds n true)
/-- The closed question to the region. -/
def oneCallB (md : Region.Mode) (ops : Array Oper) (n : Nat) : Bool :=
  Region.noSelect ops && decide (n < ops.size) && Region.sinkB md ops n && rootedB md ops n && headB md ops (callB md ops n) n 0 (Array.replicate ops.size false)

/-- What is asked behind the call: the rest, in whatever world the call has left, each operation handing on. -/
def Rest (P : Program) (ops : Array Oper) (Q : Exit → Act → World → Prop) (l : List Oper) : Exit → Act → World → Prop
  | .normal, a, w => wpQuiet P ops (fun w' => ∃ n, w' = w.drewN n) (fun a' => ∀ w', (∃ n, w' = w.drewN n) → Q .normal a' w') l a
  | e, a, w => Q e a w

theorem wp_region_one_call {id : Nat} {Q : Exit → Act → World → Prop} {a : Act} {w : World} {l : List Oper} {o : Oper} (n : Nat) (hm : P.follows .mixedOrders = true) (ho : l[n]? = some o) (hB : oneCallB .any l.toArray n = true)
    (h : wpStill P l.toArray w.drew (fun a' => wpList P l.toArray (Rest P l.toArray Q (l.drop (n + 1))) [o] a' w.drew) (l.take n) a) : (Code.region id l.toArray true).wp P Q a w := by
  simp only [oneCallB, Bool.and_eq_true, decide_eq_true_eq] at hB
  obtain ⟨⟨⟨⟨hsel, hn⟩, hs⟩, hr⟩, hh⟩ := hB
  have hn' : n < l.length := by simpa using hn
  have htl : (l.take n).length = n := by simp; omega
  have inv0 : HeadInv .any l.toArray n (Array.replicate l.toArray.size false) :=
    ⟨by simp, fun j oj _ hl => (by rw [getD_replicate_false] at hl; cases hl), fun t _ ht => getD_in (by simpa using ht) (getD_replicate_false _ _)⟩
  have hT : ∀ listed, callB .any l.toArray n listed = true → ∀ j ∈ Region.ready .any l.toArray listed, n ≤ j := fun listed hb j hj => by
    simp only [callB, Bool.and_eq_true, decide_eq_true_eq] at hb
    rw [hb.1] at hj
    have : j = n := by simpa using hj
    omega
  have H := head_lex (md := .any) hsel (headFirst hs hr hn) hT (l.take n) 0 _ a (fun j hj => by
    have hj' : j < n := by rw [htl] at hj; exact hj
    simp [hj']) (by simpa using htl) inv0 (by rw [htl]; exact hh) h
  refine wp_region_any hm ?_
  have := wpAny_of_head (Q' := Q) (g := l.length - n) (fun lst a' hL => ?_) _ _ _ H
  · rw [htl, show n + (l.length - n) = l.toArray.size by simp; omega] at this
    exact this
  · obtain ⟨hb, hL⟩ := hL
    simp only [callB, Bool.and_eq_true, decide_eq_true_eq] at hb
    obtain ⟨hrd, hlx⟩ := hb
    rw [show l.length - n = (l.length - (n + 1)) + 1 by omega]
    refine ⟨fun h0 => (by rw [hrd] at h0; cases h0), fun i hi => ?_⟩
    rw [hrd] at hi
    obtain rfl : i = n := by simpa using hi
    have ho' : l.toArray[i]? = some o := by simpa using ho
    have hw : wpOp P l.toArray (Rest P l.toArray Q (l.drop (i + 1))) i (wpList P l.toArray (Rest P l.toArray Q (l.drop (i + 1))) []) a' w.drew := by
      unfold wpOp; simp only [ho']; exact hL
    have hw2 : wpOp P l.toArray Q i (wpList P l.toArray (Rest P l.toArray Q (l.drop (i + 1))) []) a' w.drew := by
      revert hw
      unfold wpOp
      simp only [ho']
      intro hw
      exact hw
    refine wpOp_mono (fun a2 w2 h2 => ?_) hw2
    have h3 : wpQuiet P l.toArray (fun w' => ∃ n, w' = w2.drewN n) (fun a' => ∀ w', (∃ n, w' = w2.drewN n) → Q .normal a' w') (l.drop (i + 1)) a2 := h2
    have hdl : (l.drop (i + 1)).length = l.toArray.size - (i + 1) := by simp
    have h4 := wpAnyQ_lex (md := .any) hsel (l.drop (i + 1)) (i + 1) (lst.setIfInBounds i true) a2 (fun j => by simp [List.getElem?_drop]) (by rw [hdl]; exact hlx) h3
    rw [hdl] at h4
    have h5 := wpAny_of_quiet (Q' := Q) (Q := fun a' => ∀ w', (∃ n, w' = w2.drewN n) → Q .normal a' w') (fun _ w' hw' h => h w' hw') _ _ _ w2 ⟨0, rfl⟩ h4
    simpa using h5
end
end Go.Proofs.Ytjffclcjijpmiaa.L2
namespace Go.Proofs.Ytjffclcjijpmiaa.L2
open Go.RowKit
set_option maxHeartbeats 400000

/-! ### joined pairs -/
/-- The sets of a pair, and what either has. -/
theorem sets_or {most : Int} {ss : List Int} (h : Sets most ss) {i j : Nat} (hi : i < ss.length) (hj : j < ss.length) : bits .or .u32 (ss[i]?.getD 0) (ss[j]?.getD 0) = orI (ss[i]?.getD 0) (ss[j]?.getD 0) :=
  orI_bits _ _ (h.at_ hi).w32 (h.at_ hj).w32

end Go.Proofs.Ytjffclcjijpmiaa.L2
namespace Go.Proofs.Ytjffclcjijpmiaa.L2
open Go.RowKit
set_option maxHeartbeats 400000

/-- A map literal's entry, at the operation. -/
theorem wpList_insert_own {H : Type} {P : Program} (w : World) {ops : Array Oper} {rest : List Oper} {o : Oper} {a : Act} {Q : Exit → Act → World → Prop}
    (hg : o.guard = none) (m x v : Operand) (t : TypeId) (hop : o.op = Op.insert t m x v)
    (k e : TypeId) (K : Maps.Keyed P k) (ht : P.underlying t = some (.map k e)) (R : Value → Option (DataW H × List MemPlace)) (b n : Nat) (D : DataW H)
    (hm : a.eval m = .map (some b)) (hown : w.ownsMap P k R b n D) (hn : n < maxLen) (key val : Value) (kl : Lit) (hx : a.eval x = key) (hv : a.eval v = val) (hkey : keyOf P k key = some kl)
    (d : DataW H) (ps : List MemPlace) (hval : R val = some (d, ps))
    (hK : ∀ w', w'.ownsMap P k R b (n + 1) (D.put kl d) → w.mapTurned w' b → wpList P ops Q rest (a.put o.dst undef) w') :
    wpList P ops Q (o :: rest) a w := by
  refine wpList_plain hg fun K' hK' => ?_
  obtain ⟨w', hrun, r1, r2⟩ := hown.store K ht hn hkey hval
  unfold Oper.wp
  simp [execOp, hop, hm, hx, hv, hrun, Result.andThen]
  exact hK' _ _ (hK w' r1 r2)

theorem turned_size {w w' : World} {b : Nat} (h : w.mapTurned w' b) : w'.heap.size = w.heap.size := by
  obtain ⟨es, clock, es', clock', _, rfl⟩ := h
  simp [ChangeMaps.setBlock]
/-! ### slices.Clone, maps.Clone, slices.Equal at a table's parts -/
theorem row_at {w : World} {g c : Nat} {xs : List Int} {n : Nat} (hn : xs.length = n) {b : Nat} (h : w.ownsRow b 117 1 (.slice (some ⟨g, 0, none⟩) n c) n (xs.map (Value.int .u32))) {k : Nat} (hk : k < n) : w.cell? ⟨g, k, none⟩ = some (.int .u32 (xs[k]?.getD 0)) := by
  have h1 := h.cells (g := g) rfl k (.int .u32 (xs[k]?.getD 0)) (by simp [List.getElem?_eq_getElem (show k < xs.length by omega)])
  have e : (⟨g, 0, none⟩ : Addr).add k = ⟨g, k, none⟩ := by unfold Addr.add; split <;> simp_all
  rw [e] at h1
  exact h1
theorem row_cap {w : World} {g c : Nat} {n b : Nat} {vs : List Value} {e : TypeId} (h : w.ownsRow b e 1 (.slice (some ⟨g, 0, none⟩) n c) n vs) : n ≤ c := by
  rcases h.2 with ⟨h0, _⟩ | ⟨g', cap, cur, hv, _, _, hc, _⟩
  · cases h0
  · simp at hv; omega
theorem list_eq_of {xs ys : List Int} {n : Nat} (hx : xs.length = n) (hy : ys.length = n) (h : ∀ i, i < n → xs[i]?.getD 0 = ys[i]?.getD 0) : xs = ys := by
  apply List.ext_getElem (by omega)
  intro i h1 h2
  have := h i (by omega)
  simpa [h1, h2] using this
end Go.Proofs.Ytjffclcjijpmiaa.L2
namespace Go.Proofs.Ytjffclcjijpmiaa.L2
open Go.RowKit
set_option maxHeartbeats 400000

theorem half_succ (a : Int) (k : Nat) : a / 2 ^ (k + 1) = a / 2 ^ k / 2 := by
  rw [Int.pow_succ, Int.ediv_ediv_of_nonneg (Int.le_of_lt (Int.pow_pos (by omega)))]
theorem half_bd {a : Int} (h : W32 a) (k : Nat) : W32 (a / 2 ^ k) := by
  unfold W32 at *
  have hp : (0 : Int) < 2 ^ k := Int.pow_pos (by omega)
  exact ⟨Int.ediv_nonneg h.1 (Int.le_of_lt hp), Int.lt_of_le_of_lt (Int.ediv_le_self _ h.1) h.2⟩
theorem pow16 (k : Nat) (hk : k ≤ 16) : (1 : Int) ≤ 2 ^ k ∧ (2 : Int) ^ k ≤ 65536 := by
  have h : (2 : Nat) ^ k ≤ 2 ^ 16 := Nat.pow_le_pow_right (by decide) hk
  have h0 : 0 < (2 : Nat) ^ k := Nat.two_pow_pos k
  have e : ((2 : Int) ^ k) = ((2 ^ k : Nat) : Int) := by simp
  rw [e]
  have h3 : (2 : Nat) ^ 16 = 65536 := rfl
  omega
/-- The document's table, by value. -/
def rtab (most : Int) (g n c : Nat) : Value := .agg #[.int .i64 most, .slice (some ⟨g, 0, none⟩) n c]
/-- Its sets lie in block g. -/
def RT (w : World) (g c : Nat) (ss : List Int) : Prop := w.ownsRow 0 117 1 (.slice (some ⟨g, 0, none⟩) ss.length c) ss.length (ss.map (Value.int .u32))
theorem RT.kept {w w' : World} {g c : Nat} {ss : List Int} {F : List Nat} (h : RT w g c ss) (t : Turned F w w') (hn : g ∉ F) : RT w' g c ss := t.row h (fun k e => by simp [Value.ownBlock] at e; subst e; exact hn)
theorem RT.below {w w' : World} {g c : Nat} {ss : List Int} (h : RT w g c ss) (hb : Below w.heap.size w w') : RT w' g c ss := h.kept (Turned.of_below hb []) (by simp)
theorem RT.at_ {w : World} {g c : Nat} {ss : List Int} (h : RT w g c ss) {k : Nat} (hk : k < ss.length) : w.cell? ⟨g, k, none⟩ = some (.int .u32 (ss[k]?.getD 0)) := row_at rfl h hk
theorem RT.lt {w : World} {g c : Nat} {ss : List Int} (h : RT w g c ss) : g < w.heap.size := (World.ownsRow.lt h g rfl).2

theorem rt_one (w : World) (x : Int) : RT (w.alloc (.cells #[.int .u32 x] 117)) w.heap.size 1 [x] :=
  ⟨rfl, .inr ⟨_, 1, _, rfl, Nat.zero_le _, heap_alloc_new w _, by simp, by unfold maxLen; omega, rfl, rfl⟩⟩

/-- A box of a table, by value. -/
theorem box_rtab (w : World) (x y : Value) (t : TypeId) : (w.alloc (.cells #[x, y] t)).cell? ⟨w.heap.size, 0, none⟩ = some x ∧ (w.alloc (.cells #[x, y] t)).cell? ⟨w.heap.size, 1, none⟩ = some y := by
  have h := heap_alloc_new w (.cells #[x, y] t)
  exact ⟨by rw [cell_of_row _ _ 0 _ _ _ h]; rfl, by rw [cell_of_row _ _ 1 _ _ _ h]; rfl⟩

/-- The number that Has of the document gives. -/
def rhas (ss : List Int) (x : Int) : Int := if x ∈ ss then (pos ss x : Int) else -1
/-- What Keep (and Joined) of the document leave. -/
def RKept (w w' : World) (e : Ending) (most : Int) (g : Nat) (R : List Int × Int × Int) : Prop :=
  ∃ g' c', e = .returned (.tuple #[rtab most g' R.1.length c', .int .i64 R.2.1, .int .i64 R.2.2]) ∧ RT w' g' c' R.1 ∧ (g' = g ∨ w.heap.size ≤ g') ∧ Below w.heap.size w w'

theorem RKept.drew {w w' : World} {e : Ending} {most : Int} {g : Nat} {R : List Int × Int × Int} (h : RKept w w' e most g R) : RKept w w'.drew e most g R := by
  obtain ⟨g', c', he, hr, hg, hb⟩ := h
  exact ⟨g', c', he, hr, hg, hb.drew⟩
theorem rhas_yes {ss : List Int} {x : Int} (h : x ∈ ss) : rhas ss x = (pos ss x : Int) := by unfold rhas; rw [if_pos h]
theorem rhas_no {ss : List Int} {x : Int} (h : x ∉ ss) : rhas ss x = -1 := by unfold rhas; rw [if_neg h]

theorem two_boxes (w : World) (x y u v : Value) (t : TypeId) :
    ((w.alloc (.cells #[x, y] t)).alloc (.cells #[u, v] t)).heap[w.heap.size]? = some (.cells #[x, y] t (0, 0)) ∧ ((w.alloc (.cells #[x, y] t)).alloc (.cells #[u, v] t)).heap[w.heap.size + 1]? = some (.cells #[u, v] t (0, 0)) := by
  refine ⟨?_, ?_⟩
  · rw [Below.heap_alloc _ _ _ (by simp)]; exact heap_alloc_new w _
  · have := heap_alloc_new (w.alloc (.cells #[x, y] t)) (.cells #[u, v] t)
    rwa [World.size_alloc] at this
theorem blk_cells {w : World} {b : Nat} {x y : Value} {t : TypeId} (h : w.heap[b]? = some (.cells #[x, y] t (0, 0))) :
    w.cell? ⟨b, 0, none⟩ = some x ∧ w.cell? ⟨b, 1, none⟩ = some y ∧ w.frozen? ⟨b, 0, none⟩ = false ∧ w.frozen? ⟨b, 1, none⟩ = false :=
  ⟨by rw [cell_of_row _ _ 0 _ _ _ h]; rfl, by rw [cell_of_row _ _ 1 _ _ _ h]; rfl, by simp [World.frozen?, h], by simp [World.frozen?, h]⟩
theorem blk_set2 {w : World} {b : Nat} {x y u v : Value} {t : TypeId} (h : w.heap[b]? = some (.cells #[x, y] t (0, 0))) :
    ((w.setCell ⟨b, 0, none⟩ u).setCell ⟨b, 1, none⟩ v).heap[b]? = some (.cells #[u, v] t (0, 0)) := by
  simp [World.setCell, Array.getElem?_modify, h]
theorem blk_set1 {w : World} {b : Nat} {x y v : Value} {t : TypeId} (h : w.heap[b]? = some (.cells #[x, y] t (0, 0))) : (w.setCell ⟨b, 1, none⟩ v).heap[b]? = some (.cells #[x, v] t (0, 0)) := by
  simp [World.setCell, Array.getElem?_modify, h]
theorem blk_far {w : World} {b c : Nat} {o : Obj} (h : w.heap[b]? = some o) (hne : b ≠ c) (k : Nat) (u : Value) : (w.setCell ⟨c, k, none⟩ u).heap[b]? = some o :=
  (Below.heap_setCell _ _ _ _ hne).trans h

/-- The answer laid into the box of the result. -/
theorem rk_end {w w1 : World} {most : Int} {g g0 c : Nat} {ss : List Int} {n e : Int} {u v : Value} (h : RT w1 g c ss) (hb : Below w.heap.size w w1) (hg : g = g0 ∨ w.heap.size ≤ g) (hne : g ≠ w.heap.size + 1) :
    RKept w ((w1.setCell ⟨w.heap.size + 1, 0, none⟩ u).setCell ⟨w.heap.size + 1, 1, none⟩ v) (.returned (.tuple #[rtab most g ss.length c, .int .i64 n, .int .i64 e])) most g0 (ss, n, e) := by
  refine ⟨g, c, rfl, ?_, hg, (hb.setCell (p := ⟨w.heap.size + 1, 0, none⟩) (by simp) _).setCell (p := ⟨w.heap.size + 1, 1, none⟩) (by simp) _⟩
  exact h.kept (F := [w.heap.size + 1]) (((Turned.refl _ w1).setCell (p := ⟨w.heap.size + 1, 0, none⟩) (.inl (by simp)) _).setCell (p := ⟨w.heap.size + 1, 1, none⟩) (.inl (by simp)) _) (by simpa using hne)

end Go.Proofs.Ytjffclcjijpmiaa.L2

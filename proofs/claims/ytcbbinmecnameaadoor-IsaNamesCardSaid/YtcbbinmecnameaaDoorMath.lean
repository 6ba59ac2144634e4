/-
  Plain data of layer 4: instructions as four integers, their words and texts, the table of names and of what each uses. No program.
-/
import Derived.WalkKit
import Derived.Laws.BitsAllLaws
import Derived.Laws.BitsLemmas
import Derived.Lib.ItoaNum
import Derived.Lib.Join
set_option linter.unusedVariables false
namespace Go.Proofs.YtcbbinmecnameaaDoor
open Go.RowKit

def W32 (a : Int) : Prop := 0 ≤ a ∧ a < 4294967296
def S64 (a : Int) : Prop := -9223372036854775808 ≤ a ∧ a ≤ 9223372036854775807
theorem w32_of_wf {a : Int} (h : (Lit.int .u32 a).wf = true) : W32 a := by
  simp [Lit.wf, IntKind.min, IntKind.max, IntKind.signed, IntKind.bits] at h
  unfold W32; omega
theorem s64_of_wf {a : Int} (h : (Lit.int .i64 a).wf = true) : S64 a := by
  simp [Lit.wf, IntKind.min, IntKind.max, IntKind.signed, IntKind.bits] at h
  unfold S64; omega

/-! ### the table -/
def names : List (List UInt8) := [[], [104, 97, 108, 116], [108, 117, 105], [97, 100, 100, 105], [97, 100, 100], [115, 117, 98], [109, 117, 108], [97, 110, 100], [111, 114], [120, 111, 114], [115, 104, 108], [115, 104, 114], [115, 108, 116], [108, 119], [115, 119], [108, 98], [115, 98], [98, 101, 113], [98, 110, 101], [98, 108, 116], [106, 97, 108], [106, 97, 108, 114], [105, 110], [111, 117, 116], [99, 97, 108, 108], [98, 97, 99, 107], [103, 101, 116], [115, 101, 116], [102, 108, 117, 115, 104]]
def usesL : List Nat := [0, 0, 5, 7, 3, 3, 3, 3, 3, 3, 3, 3, 3, 7, 7, 7, 7, 7, 7, 7, 5, 3, 5, 5, 0, 0, 5, 5, 0]
def nm (k : Nat) : List UInt8 := names.getD k []
def us (k : Nat) : Nat := usesL.getD k 0
/-- Does Op k use part n? -/
def uses (k n : Nat) : Bool := us k / 2 ^ n % 2 == 1

theorem us_kind_fin : ∀ k : Fin 29, us k.val = 0 ∨ us k.val = 3 ∨ us k.val = 5 ∨ us k.val = 7 := by decide +kernel
theorem us_kind (k : Nat) (h : k < 29) : us k = 0 ∨ us k = 3 ∨ us k = 5 ∨ us k = 7 := us_kind_fin ⟨k, h⟩
theorem nm_inj_fin : ∀ j k : Fin 29, nm j.val = nm k.val → j = k := by decide +kernel
theorem nm_inj {j k : Nat} (hj : j < 29) (hk : k < 29) (h : nm j = nm k) : j = k := congrArg Fin.val (nm_inj_fin ⟨j, hj⟩ ⟨k, hk⟩ h)
theorem nm_blank_fin : ∀ k : Fin 29, (32 : UInt8) ∉ nm k.val := by decide +kernel
theorem nm_blank {k : Nat} (h : k < 29) : (32 : UInt8) ∉ nm k := nm_blank_fin ⟨k, h⟩
theorem nm_len_fin : ∀ k : Fin 29, (nm k.val).length ≤ 5 := by decide +kernel
theorem nm_len {k : Nat} (h : k < 29) : (nm k).length ≤ 5 := nm_len_fin ⟨k, h⟩
theorem nm_none_fin : ∀ k : Fin 29, nm k.val = [] → k.val = 0 := by decide +kernel
theorem nm_none {k : Nat} (h : k < 29) (e : nm k = []) : k = 0 := nm_none_fin ⟨k, h⟩ e

/-! ### instructions -/
structure Ins where
  op : Int
  a : Int
  b : Int
  imm : Int
instance : DecidableEq Ins := fun x y =>
  if _h : x.op = y.op ∧ x.a = y.a ∧ x.b = y.b ∧ x.imm = y.imm then .isTrue (by cases x; cases y; simp_all) else .isFalse (by intro e; subst e; exact _h ⟨rfl, rfl, rfl, rfl⟩)
def iv (i : Ins) : Value := .agg #[.int .i64 i.op, .int .i64 i.a, .int .i64 i.b, .int .i64 i.imm]
def I64 (i : Ins) : Prop := S64 i.op ∧ S64 i.a ∧ S64 i.b ∧ S64 i.imm

def isOp (x : Int) : Bool := decide (0 < x ∧ x < 29)
/-- The n-th part, and its bounds. -/
def valP (i : Ins) : Nat → Int
  | 0 => i.a
  | 1 => i.b
  | _ => i.imm
def lowP (i : Ins) : Nat → Int
  | 0 => 0
  | 1 => 0
  | _ => if uses i.op.toNat 2 = true then -32768 else 0
def highP (i : Ins) : Nat → Int
  | 0 => if uses i.op.toNat 0 = true then 7 else 0
  | 1 => if uses i.op.toNat 1 = true then 7 else 0
  | _ => if uses i.op.toNat 2 = true then 32767 else 0
def okP (i : Ins) (n : Nat) : Prop := lowP i n ≤ valP i n ∧ valP i n ≤ highP i n
instance (i : Ins) (n : Nat) : Decidable (okP i n) := by unfold okP; infer_instance
def May (i : Ins) : Prop := isOp i.op = true ∧ okP i 0 ∧ okP i 1 ∧ okP i 2
instance (i : Ins) : Decidable (May i) := by unfold May; infer_instance

theorem May.bounds {i : Ins} (h : May i) : (0 < i.op ∧ i.op < 29) ∧ (0 ≤ i.a ∧ i.a < 8) ∧ (0 ≤ i.b ∧ i.b < 8) ∧ -32768 ≤ i.imm ∧ i.imm ≤ 32767 := by
  obtain ⟨h1, h2, h3, h4⟩ := h
  simp only [isOp, decide_eq_true_eq] at h1
  unfold okP valP lowP highP at h2 h3 h4
  simp only at h2 h3 h4
  refine ⟨h1, ?_, ?_, ?_, ?_⟩
  · split at h2 <;> omega
  · split at h3 <;> omega
  · split at h4 <;> omega
  · split at h4 <;> omega

def enc (i : Ins) : Int := i.op * 16777216 + i.a * 1048576 + i.b * 65536 + i.imm % 65536
def dec (w : Int) : Ins := ⟨w / 16777216, w / 1048576 % 16, w / 65536 % 16, if 32767 < w % 65536 then w % 65536 - 65536 else w % 65536⟩
def zeroI : Ins := ⟨0, 0, 0, 0⟩
theorem enc_w32 {i : Ins} (h : May i) : W32 (enc i) := by
  have := h.bounds
  unfold enc W32; omega
theorem enc_dec {w : Int} (h : W32 w) : enc (dec w) = w := by
  unfold W32 at h
  unfold enc dec
  simp only
  split <;> omega
theorem dec_enc {i : Ins} (h : May i) : dec (enc i) = i := by
  have hb := h.bounds
  obtain ⟨op, a, b, imm⟩ := i
  simp only at hb
  unfold enc dec
  simp only [Ins.mk.injEq]
  refine ⟨by omega, by omega, by omega, ?_⟩
  split <;> omega
theorem enc_inj {i j : Ins} (hi : May i) (hj : May j) : enc i = enc j ↔ i = j :=
  ⟨fun e => by rw [← dec_enc hi, ← dec_enc hj, e], fun e => by rw [e]⟩

/-! ### texts -/
def reg (n : Int) : List UInt8 := 114 :: Lib.itoa n
/-- The text of the n-th part. -/
def partT (i : Ins) : Nat → List UInt8
  | 0 => reg i.a
  | 1 => reg i.b
  | _ => Lib.itoa i.imm
/-- Those of the first k that are used. -/
def told (i : Ins) : Nat → List (List UInt8)
  | 0 => []
  | k + 1 => if uses i.op.toNat k = true then told i k ++ [partT i k] else told i k
theorem told_yes {i : Ins} {k : Nat} (h : uses i.op.toNat k = true) : told i (k + 1) = told i k ++ [partT i k] := by simp [told, h]
theorem told_no {i : Ins} {k : Nat} (h : uses i.op.toNat k = false) : told i (k + 1) = told i k := by simp [told, h]
theorem told_len (i : Ins) : ∀ k, (told i k).length ≤ k
  | 0 => by simp [told]
  | k + 1 => by
    have := told_len i k
    unfold told
    split <;> simp <;> omega
def txt (i : Ins) : List UInt8 := if told i 3 = [] then nm i.op.toNat else nm i.op.toNat ++ [32] ++ Lib.join (told i 3) [44, 32]
def bytes (l : List UInt8) : ByteArray := ⟨l.toArray⟩
theorem bytes_inj {a b : List UInt8} : bytes a = bytes b ↔ a = b :=
  ⟨fun h => by have := congrArg (fun x : ByteArray => x.data.toList) h; simpa [bytes] using this, fun h => by rw [h]⟩
theorem bytes_app (a b : List UInt8) : bytes a ++ bytes b = bytes (a ++ b) := by
  apply ByteArray.ext
  simp [bytes]
theorem bytes_size (l : List UInt8) : (bytes l).size = l.length := by simp [bytes, ByteArray.size]

/-! ### numerals -/
theorem digit_byte {n : Nat} (h : n < 10) : (UInt8.ofNat (48 + n)).toNat = 48 + n := by
  simp [UInt8.toNat_ofNat]; omega
theorem digit_inj {m n : Nat} (hm : m < 10) (hn : n < 10) (h : UInt8.ofNat (48 + m) = UInt8.ofNat (48 + n)) : m = n := by
  have := congrArg UInt8.toNat h
  rw [digit_byte hm, digit_byte hn] at this
  omega
theorem dd_one {u : Nat} (h : u < 10) : Lib.decDigits u = [UInt8.ofNat (48 + u)] := by rw [Lib.decDigits, dif_pos h]
theorem dd_more {u : Nat} (h : ¬ u < 10) : Lib.decDigits u = Lib.decDigits (u / 10) ++ [UInt8.ofNat (48 + u % 10)] := by rw [Lib.decDigits, dif_neg h]
theorem dd_ne (u : Nat) : Lib.decDigits u ≠ [] := by
  by_cases h : u < 10
  · rw [dd_one h]; simp
  · rw [dd_more h]; simp
theorem dd_inj : ∀ {u v : Nat}, Lib.decDigits u = Lib.decDigits v → u = v := by
  intro u
  induction u using Nat.strongRecOn with
  | _ u ih =>
    intro v h
    by_cases hu : u < 10
    · by_cases hv : v < 10
      · rw [dd_one hu, dd_one hv] at h
        exact digit_inj hu hv (List.head_eq_of_cons_eq h)
      · rw [dd_one hu, dd_more hv] at h
        have := congrArg List.length h
        have h2 : (Lib.decDigits (v / 10)).length ≠ 0 := by simpa using dd_ne (v / 10)
        simp at this
        exact absurd this (dd_ne _)
    · by_cases hv : v < 10
      · rw [dd_more hu, dd_one hv] at h
        have := congrArg List.length h
        simp at this
        exact absurd this (dd_ne _)
      · rw [dd_more hu, dd_more hv] at h
        obtain ⟨h1, h2⟩ := List.append_inj' h rfl
        have e1 := ih (u / 10) (by omega) h1
        have e2 := digit_inj (Nat.mod_lt _ (by decide)) (Nat.mod_lt _ (by decide)) (List.head_eq_of_cons_eq h2)
        omega
theorem dd_high : ∀ (u : Nat) (x : UInt8), x ∈ Lib.decDigits u → 48 ≤ x.toNat := by
  intro u
  induction u using Nat.strongRecOn with
  | _ u ih =>
    intro x hx
    by_cases hu : u < 10
    · rw [dd_one hu] at hx
      rw [List.mem_singleton.1 hx, digit_byte hu]; omega
    · rw [dd_more hu] at hx
      rcases List.mem_append.1 hx with h | h
      · exact ih (u / 10) (by omega) x h
      · rw [List.mem_singleton.1 h, digit_byte (Nat.mod_lt _ (by decide))]; omega
theorem itoa_inj {m n : Int} (h : Lib.itoa m = Lib.itoa n) : m = n := by
  unfold Lib.itoa at h
  split at h <;> split at h
  · have := dd_inj (List.tail_eq_of_cons_eq h); omega
  · have := dd_high _ 45 (by rw [← h]; simp)
    exact absurd this (by decide)
  · have := dd_high _ 45 (by rw [h]; simp)
    exact absurd this (by decide)
  · have := dd_inj h; omega
theorem itoa_reg {n : Int} (h0 : 0 ≤ n) (h1 : n < 8) : Lib.itoa n = [UInt8.ofNat (48 + n.toNat)] := by
  unfold Lib.itoa
  rw [if_neg (by omega), dd_one (by omega)]
theorem dd_len5 {u : Nat} (h : u < 100000) : (Lib.decDigits u).length ≤ 5 := by
  by_cases h1 : u < 10
  · rw [dd_one h1]; simp
  rw [dd_more h1]
  by_cases h2 : u / 10 < 10
  · rw [dd_one h2]; simp
  rw [dd_more h2]
  by_cases h3 : u / 10 / 10 < 10
  · rw [dd_one h3]; simp
  rw [dd_more h3]
  by_cases h4 : u / 10 / 10 / 10 < 10
  · rw [dd_one h4]; simp
  rw [dd_more h4, dd_one (by omega)]; simp
theorem itoa_len {n : Int} (h0 : -32768 ≤ n) (h1 : n ≤ 32767) : (Lib.itoa n).length ≤ 6 := by
  unfold Lib.itoa
  split
  · have := dd_len5 (u := n.natAbs) (by omega); simp; omega
  · have := dd_len5 (u := n.toNat) (by omega); omega

/-! ### unlike ones have unlike texts -/
theorem told3 (i : Ins) : told i 3 = (if uses i.op.toNat 0 = true then [reg i.a] else []) ++ (if uses i.op.toNat 1 = true then [reg i.b] else []) ++ (if uses i.op.toNat 2 = true then [Lib.itoa i.imm] else []) := by
  simp only [told, partT]
  cases uses i.op.toNat 0 <;> cases uses i.op.toNat 1 <;> cases uses i.op.toNat 2 <;> simp
/-- What stands behind the name. -/
def tail (i : Ins) : List UInt8 := if told i 3 = [] then [] else 32 :: Lib.join (told i 3) [44, 32]
theorem txt_eq (i : Ins) : txt i = nm i.op.toNat ++ tail i := by
  unfold txt tail; split <;> simp
theorem head_split : ∀ {x y r s : List UInt8}, (32 : UInt8) ∉ x → (32 : UInt8) ∉ y → (r = [] ∨ r.head? = some 32) → (s = [] ∨ s.head? = some 32) → x ++ r = y ++ s → x = y ∧ r = s
  | [], [], _, _, _, _, _, _, h => ⟨rfl, h⟩
  | [], c :: y, r, s, _, hy, hr, _, h => by
    exfalso
    rcases hr with rfl | hr
    · simp at h
    · simp only [List.nil_append, List.cons_append] at h
      rw [h] at hr
      simp at hr
      subst hr
      simp at hy
  | c :: x, [], r, s, hx, _, _, hs, h => by
    exfalso
    rcases hs with rfl | hs
    · simp at h
    · simp only [List.nil_append, List.cons_append] at h
      rw [← h] at hs
      simp at hs
      subst hs
      simp at hx
  | c :: x, d :: y, r, s, hx, hy, hr, hs, h => by
    simp only [List.cons_append, List.cons.injEq] at h
    obtain ⟨rfl, h⟩ := h
    simp at hx hy
    obtain ⟨rfl, e⟩ := head_split hx.2 hy.2 hr hs h
    exact ⟨rfl, e⟩
theorem tail_head (i : Ins) : tail i = [] ∨ (tail i).head? = some 32 := by
  unfold tail; split <;> simp
theorem txt_inj {i j : Ins} (hi : May i) (hj : May j) : txt i = txt j ↔ i = j := by
  refine ⟨fun e => ?_, fun e => by rw [e]⟩
  have bi := hi.bounds
  have bj := hj.bounds
  rw [txt_eq, txt_eq] at e
  obtain ⟨e1, e2⟩ := head_split (nm_blank (by omega)) (nm_blank (by omega)) (tail_head i) (tail_head j) e
  have eo := nm_inj (by omega) (by omega) e1
  have eop : i.op = j.op := by omega
  obtain ⟨op, a, b, imm⟩ := i
  obtain ⟨op', a', b', imm'⟩ := j
  simp only at eop
  subst eop
  simp only at bi bj eo
  obtain ⟨_, i0, i1, i2⟩ := hi
  obtain ⟨_, j0, j1, j2⟩ := hj
  unfold okP valP lowP highP at i0 i1 i2 j0 j1 j2
  simp only at i0 i1 i2 j0 j1 j2
  unfold tail at e2
  rw [told3, told3] at e2
  simp only at e2
  have hA : reg a = [114, UInt8.ofNat (48 + a.toNat)] := by unfold reg; rw [itoa_reg (by omega) (by omega)]
  have hB : reg b = [114, UInt8.ofNat (48 + b.toNat)] := by unfold reg; rw [itoa_reg (by omega) (by omega)]
  have hA' : reg a' = [114, UInt8.ofNat (48 + a'.toNat)] := by unfold reg; rw [itoa_reg (by omega) (by omega)]
  have hB' : reg b' = [114, UInt8.ofNat (48 + b'.toNat)] := by unfold reg; rw [itoa_reg (by omega) (by omega)]
  rw [hA, hB, hA', hB'] at e2
  have dA : UInt8.ofNat (48 + a.toNat) = UInt8.ofNat (48 + a'.toNat) → a = a' := fun h => by have := digit_inj (by omega) (by omega) h; omega
  have dB : UInt8.ofNat (48 + b.toNat) = UInt8.ofNat (48 + b'.toNat) → b = b' := fun h => by have := digit_inj (by omega) (by omega) h; omega
  have dI : Lib.itoa imm = Lib.itoa imm' → imm = imm' := itoa_inj
  generalize Lib.itoa imm = I at *
  generalize Lib.itoa imm' = I' at *
  generalize UInt8.ofNat (48 + a.toNat) = A at *
  generalize UInt8.ofNat (48 + b.toNat) = B at *
  generalize UInt8.ofNat (48 + a'.toNat) = A' at *
  generalize UInt8.ofNat (48 + b'.toNat) = B' at *
  cases h0 : uses op.toNat 0 <;> cases h1 : uses op.toNat 1 <;> cases h2 : uses op.toNat 2 <;>
    simp only [h0, h1, h2, if_true, if_false, Bool.false_eq_true] at i0 i1 i2 j0 j1 j2 e2 <;>
    (try simp [Lib.join, List.intercalate] at e2) <;> (simp only [Ins.mk.injEq, true_and]; refine ⟨?_, ?_, ?_⟩) <;> first | omega | (apply dA; simp_all; done) | (apply dB; simp_all; done) | (apply dI; simp_all; done)
theorem txt_ne {i : Ins} (h : May i) : txt i ≠ [] := by
  have b := h.bounds
  rw [txt_eq]
  intro e
  have := nm_none (k := i.op.toNat) (by omega) (List.append_eq_nil_iff.1 e).1
  omega
theorem part_len {i : Ins} (h : May i) (n : Nat) : (partT i n).length ≤ 7 := by
  have b := h.bounds
  match n with
  | 0 => simp only [partT, reg]; have := itoa_len (n := i.a) (by omega) (by omega); simp; omega
  | 1 => simp only [partT, reg]; have := itoa_len (n := i.b) (by omega) (by omega); simp; omega
  | n + 2 => simp only [partT]; have := itoa_len (n := i.imm) (by omega) (by omega); omega
end Go.Proofs.YtcbbinmecnameaaDoor

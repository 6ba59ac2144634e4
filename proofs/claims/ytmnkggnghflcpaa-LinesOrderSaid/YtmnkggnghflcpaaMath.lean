/-
  Layer 7: plain numbers and lists: bytes, words, what lines are, what calls make of them, which line wants something, which one is pending. No program.
-/
import Derived.WalkKit
import Derived.Laws.BytesArg
namespace Go.Proofs.Ytmnkggnghflcpaa
open Go.RowKit

/-- An integer is a word. -/
def W32 (a : Int) : Prop := 0 ≤ a ∧ a < 4294967296
theorem w32_of_wf {a : Int} (h : (Lit.int .u32 a).wf = true) : W32 a := by
  simp [Lit.wf, IntKind.min, IntKind.max, IntKind.signed, IntKind.bits] at h
  unfold W32; omega
theorem u8_of_wf {a : Int} (h : (Lit.int .u8 a).wf = true) : 0 ≤ a ∧ a < 256 := by
  simp [Lit.wf, IntKind.min, IntKind.max, IntKind.signed, IntKind.bits] at h
  omega
theorem wf_of_u8 {a : Int} (h : 0 ≤ a ∧ a < 256) : (Lit.int .u8 a).wf = true := by
  simp [Lit.wf, IntKind.min, IntKind.max, IntKind.signed, IntKind.bits]; omega
theorem wf_i64 {x : Int} (h0 : -9223372036854775808 ≤ x) (h1 : x ≤ 9223372036854775807) : (Lit.int .i64 x).wf = true := by
  simp [Lit.wf, IntKind.min, IntKind.max, IntKind.signed, IntKind.bits]; omega
theorem i64_of_wf {a : Int} (h : (Lit.int .i64 a).wf = true) : -9223372036854775808 ≤ a ∧ a ≤ 9223372036854775807 := by
  simp [Lit.wf, IntKind.min, IntKind.max, IntKind.signed, IntKind.bits] at h; omega

/-- All are bytes. -/
def Byt (l : List Int) : Prop := ∀ x ∈ l, 0 ≤ x ∧ x < 256
def at0 (l : List Int) (i : Nat) : Int := l[i]?.getD 0
theorem at0_lt {l : List Int} {i : Nat} (h : i < l.length) : l[i]? = some (at0 l i) := by simp [at0, List.getElem?_eq_getElem h]
theorem at0_ge {l : List Int} {i : Nat} (h : l.length ≤ i) : at0 l i = 0 := by simp [at0, List.getElem?_eq_none h]
theorem Byt.at0 {l : List Int} (h : Byt l) (i : Nat) : 0 ≤ at0 l i ∧ at0 l i < 256 := by
  by_cases hi : i < l.length
  · exact h _ (List.mem_of_getElem? (at0_lt hi))
  · rw [at0_ge (by omega)]; omega
theorem Byt.set {l : List Int} (h : Byt l) (k : Nat) {x : Int} (hx : 0 ≤ x ∧ x < 256) : Byt (l.set k x) := by
  intro y hy
  rcases List.mem_or_eq_of_mem_set hy with h1 | rfl
  · exact h y h1
  · exact hx
theorem at0_set (l : List Int) (k i : Nat) (x : Int) (hk : k < l.length) : at0 (l.set k x) i = if i = k then x else at0 l i := by
  unfold at0
  rw [List.getElem?_set]
  by_cases e : k = i
  · subst e; simp [hk]
  · simp [e, Ne.symm e]
theorem list_ext0 {a b : List Int} (hl : a.length = b.length) (h : ∀ i, i < a.length → at0 a i = at0 b i) : a = b := by
  apply List.ext_getElem? 
  intro i
  by_cases hi : i < a.length
  · rw [at0_lt hi, at0_lt (by omega), h i hi]
  · rw [List.getElem?_eq_none (by omega), List.getElem?_eq_none (by omega)]
theorem Byt.append {a b : List Int} (ha : Byt a) (hb : Byt b) : Byt (a ++ b) := fun x hx => by
  rcases List.mem_append.1 hx with h | h
  · exact ha x h
  · exact hb x h
theorem Byt.take {a : List Int} (ha : Byt a) (n : Nat) : Byt (a.take n) := fun x hx => ha x (List.mem_of_mem_take hx)
theorem Byt.drop {a : List Int} (ha : Byt a) (n : Nat) : Byt (a.drop n) := fun x hx => ha x (List.mem_of_mem_drop hx)
theorem byt_zeros (n : Nat) : Byt (List.replicate n 0) := fun x hx => by rw [List.mem_replicate] at hx; omega

/-! ### strings -/
theorem toList_strOf (xs : List Int) : (strOfNums xs).toList = xs.map fun n => UInt8.ofNat n.toNat := by
  rw [ByteArray.toList_eq]; rfl
theorem u8_inj {x y : Int} (hx : 0 ≤ x ∧ x < 256) (hy : 0 ≤ y ∧ y < 256) (h : UInt8.ofNat x.toNat = UInt8.ofNat y.toNat) : x = y := by
  have := congrArg UInt8.toNat h
  simp at this
  omega
theorem strOf_inj : ∀ {xs ys : List Int}, Byt xs → Byt ys → (xs.map fun n => UInt8.ofNat n.toNat) = (ys.map fun n => UInt8.ofNat n.toNat) → xs = ys
  | [], [], _, _, _ => rfl
  | [], _ :: _, _, _, h => by simp at h
  | _ :: _, [], _, _, h => by simp at h
  | x :: xs, y :: ys, hx, hy, h => by
    simp only [List.map_cons, List.cons.injEq] at h
    rw [u8_inj (hx x (by simp)) (hy y (by simp)) h.1, strOf_inj (fun z hz => hx z (by simp [hz])) (fun z hz => hy z (by simp [hz])) h.2]
theorem str_eq {xs ys : List Int} (hx : Byt xs) (hy : Byt ys) : ((strOfNums xs).toList == (strOfNums ys).toList) = decide (xs = ys) := by
  rw [toList_strOf, toList_strOf]
  by_cases h : xs = ys
  · subst h; simp
  · simp [h]
    intro e
    exact h (strOf_inj hx hy (by simpa using e))

/-! ### words out of bytes -/
def wrd (b0 b1 b2 b3 : Int) : Int := b0 + b1 * 256 + b2 * 65536 + b3 * 16777216
theorem wraps_u32 (n : Int) (h₀ : 0 ≤ n) (h₁ : n < 2 ^ 32) : IntKind.u32.wrap n = n := by rw [IntKind.wrap_u32]; omega
/-- 'or' of a low part and what lies above it is their sum. -/
theorem or_low_high (i : Nat) (x y : Int) (hx0 : 0 ≤ x) (hx1 : x < 2 ^ i) (hx2 : x < 4294967296) (hy0 : 0 ≤ y) (hy1 : y % 2 ^ i = 0) (hy2 : y < 4294967296) : bits .or .u32 x y = x + y := by
  obtain ⟨a, rfl⟩ := Int.eq_ofNat_of_zero_le hx0
  obtain ⟨b, rfl⟩ := Int.eq_ofNat_of_zero_le hy0
  have h1 := (bits_nat .u32 32 (by decide) wraps_u32 a b (by omega) (by omega)).2
  have h2 := (bits_nat .u32 32 (by decide) wraps_u32 b a (by omega) (by omega)).2
  rw [h1, Nat.or_comm, ← h2, bits_join .u32 32 (by decide) wraps_u32 i b a hy0 hy1 (by omega) hx0 hx1 (by omega), Int.add_comm]
theorem or1 (b0 : Int) (h0 : 0 ≤ b0 ∧ b0 < 256) : bits .or .u32 0 b0 = b0 := by rw [or_low_high 0 0 b0 (by omega) (by omega) (by omega) (by omega) (by omega) (by omega)]; omega
theorem or2 (b0 b1 : Int) (h0 : 0 ≤ b0 ∧ b0 < 256) (h1 : 0 ≤ b1 ∧ b1 < 256) : bits .or .u32 b0 (b1 * 256) = b0 + b1 * 256 := by
  rw [or_low_high 8 b0 (b1 * 256) (by omega) (by omega) (by omega) (by omega) (by omega) (by omega)]
theorem or3 (b0 b1 b2 : Int) (h0 : 0 ≤ b0 ∧ b0 < 256) (h1 : 0 ≤ b1 ∧ b1 < 256) (h2 : 0 ≤ b2 ∧ b2 < 256) : bits .or .u32 (b0 + b1 * 256) (b2 * 65536) = b0 + b1 * 256 + b2 * 65536 := by
  rw [or_low_high 16 (b0 + b1 * 256) (b2 * 65536) (by omega) (by omega) (by omega) (by omega) (by omega) (by omega)]
theorem or4 (b0 b1 b2 b3 : Int) (h0 : 0 ≤ b0 ∧ b0 < 256) (h1 : 0 ≤ b1 ∧ b1 < 256) (h2 : 0 ≤ b2 ∧ b2 < 256) (h3 : 0 ≤ b3 ∧ b3 < 256) : bits .or .u32 (b0 + b1 * 256 + b2 * 65536) (b3 * 16777216) = wrd b0 b1 b2 b3 := by
  rw [or_low_high 24 (b0 + b1 * 256 + b2 * 65536) (b3 * 16777216) (by omega) (by omega) (by omega) (by omega) (by omega) (by omega)]
  unfold wrd; omega

/-! ### lines -/
structure Ls where
  al : Int
  ms : Int
  d : Bool
  n : Bool
  ps : List Int
  tk : Nat
  td : List Int
def L0 : Ls := ⟨0, 0, false, false, [], 0, []⟩
/-- The bytes that wait. -/
def Ls.wt (l : Ls) : List Int := l.ps.drop l.tk
structure Ls.Ok (l : Ls) : Prop where
  al : W32 l.al
  ms : 0 ≤ l.ms ∧ l.ms < 16
  tk : l.tk ≤ l.ps.length
  wt : l.wt.length ≤ 256
theorem ok_L0 : L0.Ok := ⟨by unfold W32 L0; simp, by simp [L0], by simp [L0], by simp [L0, Ls.wt]⟩
theorem Ls.Ok.wt_len {l : Ls} (h : l.Ok) : l.wt.length + l.tk = l.ps.length := by have := h.tk; simp [Ls.wt]; omega
def Ls.pushed (l : Ls) (b : List Int) : Ls := if l.wt.length + b.length ≤ 256 then { l with ps := l.ps ++ b } else l
def Ls.pushE (l : Ls) (b : List Int) : Int := if l.wt.length + b.length ≤ 256 then 0 else 3
def Ls.pushN (l : Ls) (b : List Int) : Int := if l.wt.length + b.length ≤ 256 then l.ps.length else 0
def Ls.took (l : Ls) : Ls := if l.tk < l.ps.length then { l with tk := l.tk + 1 } else l
def Ls.takeB (l : Ls) : Int := if l.tk < l.ps.length then at0 l.ps l.tk else 0
def Ls.takeN (l : Ls) : Int := if l.tk < l.ps.length then l.tk else 0
def Ls.takeY (l : Ls) : Bool := decide (l.tk < l.ps.length)
def Ls.raise (l : Ls) (k : Int) (up : Bool) : Ls := if k = 2 then { l with d := up } else if k = 3 then { l with n := up } else l
def raiseE (k : Int) : Int := if k = 2 ∨ k = 3 then 0 else 2
def Ls.isUp (l : Ls) (k : Int) : Bool := if k = 2 then l.d else if k = 3 then l.n else false
theorem Ls.wt_push {l : Ls} (h : l.Ok) (b : List Int) : ({ l with ps := l.ps ++ b } : Ls).wt = l.wt ++ b := by
  unfold Ls.wt; simp only; rw [List.drop_append_of_le_length h.tk]
theorem Ls.wt_take {l : Ls} (h : l.tk < l.ps.length) : l.wt = at0 l.ps l.tk :: ({ l with tk := l.tk + 1 } : Ls).wt := by
  unfold Ls.wt; simp only
  rw [List.drop_eq_getElem_cons h]
  congr 1
  simp [at0, List.getElem?_eq_getElem h]
theorem Ls.wt_pos {l : Ls} : 0 < l.wt.length ↔ l.tk < l.ps.length := by simp [Ls.wt]; omega
theorem Ls.Ok.pushed {l : Ls} (h : l.Ok) (b : List Int) : (l.pushed b).Ok := by
  unfold Ls.pushed; split
  · rename_i h2
    refine ⟨h.al, h.ms, ?_, ?_⟩
    · have := h.tk; simp; omega
    · rw [Ls.wt_push h]; simp; omega
  · exact h
theorem Ls.Ok.took {l : Ls} (h : l.Ok) : l.took.Ok := by
  unfold Ls.took; split
  · rename_i h2
    refine ⟨h.al, h.ms, h2, ?_⟩
    have := h.wt
    rw [Ls.wt_take h2] at this
    simp at this; omega
  · exact h
theorem Ls.Ok.raise {l : Ls} (h : l.Ok) (k : Int) (up : Bool) : (l.raise k up).Ok := by
  unfold Ls.raise; split
  · exact ⟨h.al, h.ms, h.tk, h.wt⟩
  · split
    · exact ⟨h.al, h.ms, h.tk, h.wt⟩
    · exact h

/-- A call. -/
structure Ac where
  k : Int
  ln : Int
  b : List Int
  y : Int
  x : Int
  up : Bool
structure Ac.Ok (a : Ac) : Prop where
  y : 0 ≤ a.y ∧ a.y < 256
  x : W32 a.x
  b : Byt a.b
def Ls.act (l : Ls) (a : Ac) : Ls :=
  if a.k = 0 then { l with al := a.x } else if a.k = 1 then l.pushed a.b else if a.k = 2 then l.took else if a.k = 3 then { l with td := l.td ++ [a.y] }
  else if a.k = 4 then { l with ms := a.x % 16 } else l.raise a.ln a.up
theorem Ls.Ok.act {l : Ls} (h : l.Ok) {a : Ac} (ha : a.Ok) : (l.act a).Ok := by
  unfold Ls.act
  split
  · exact ⟨ha.x, h.ms, h.tk, h.wt⟩
  split
  · exact h.pushed _
  split
  · exact h.took
  split
  · exact ⟨h.al, h.ms, h.tk, h.wt⟩
  split
  · exact ⟨h.al, by have := ha.x; show 0 ≤ a.x % 16 ∧ a.x % 16 < 16; omega, h.tk, h.wt⟩
  · exact h.raise _ _
/-- How much there is of it. -/
def Ls.sz (l : Ls) : Nat := l.ps.length + l.td.length
theorem Ls.sz_act (l : Ls) (a : Ac) : (l.act a).sz ≤ l.sz + 40 + a.b.length := by
  unfold Ls.act Ls.sz
  split
  · simp only; omega
  split
  · unfold Ls.pushed; split
    · simp; omega
    · omega
  split
  · unfold Ls.took; split
    · simp only; omega
    · omega
  split
  · simp; omega
  split
  · simp only; omega
  · unfold Ls.raise; split
    · simp only; omega
    · split
      · simp only; omega
      · omega

/-! ### which lines want something -/
def Ls.w (l : Ls) (now : Int) (i : Nat) : Bool := if i = 0 then decide (0 < l.al) && decide (l.al ≤ now) else if i = 1 then decide (l.tk < l.ps.length) else if i = 2 then l.d else l.n
def wfrom (p : Nat → Bool) (k : Nat) : List Nat := (List.range k).filter p
def Ls.wl (l : Ls) (now : Int) : List Nat := wfrom (l.w now) 4
theorem wfrom_succ (p : Nat → Bool) (k : Nat) : wfrom p (k + 1) = if p k = true then wfrom p k ++ [k] else wfrom p k := by
  unfold wfrom
  rw [List.range_succ, List.filter_append]
  cases h : p k <;> simp [h]
theorem wfrom_yes {p : Nat → Bool} {k : Nat} (h : p k = true) : wfrom p (k + 1) = wfrom p k ++ [k] := by rw [wfrom_succ, if_pos h]
theorem wfrom_no {p : Nat → Bool} {k : Nat} (h : p k = false) : wfrom p (k + 1) = wfrom p k := by rw [wfrom_succ, h]; simp
theorem wfrom_split (p : Nat → Bool) (k : Nat) : ∀ d, ∃ r, wfrom p (k + d) = wfrom p k ++ r
  | 0 => ⟨[], by simp⟩
  | d + 1 => by
    obtain ⟨r, hr⟩ := wfrom_split p k d
    rw [show k + (d + 1) = (k + d) + 1 by omega, wfrom_succ, hr]
    split
    · exact ⟨_, List.append_assoc _ _ _⟩
    · exact ⟨r, rfl⟩
theorem wfrom_mid {p : Nat → Bool} {k P : Nat} (hk : k < P) (hp : p k = true) : ∃ r, wfrom p P = wfrom p k ++ k :: r := by
  obtain ⟨r, hr⟩ := wfrom_split p (k + 1) (P - (k + 1))
  rw [show k + 1 + (P - (k + 1)) = P by omega, wfrom_yes hp] at hr
  exact ⟨r, by rw [hr]; simp⟩
theorem wl_lt {l : Ls} {now : Int} {x : Nat} {pre rest : List Nat} (h : l.wl now = pre ++ x :: rest) : x < 4 := by
  have hm : x ∈ l.wl now := by rw [h]; simp
  simp [Ls.wl, wfrom] at hm
  exact hm.1
/-- The lines of a list, bit by bit. -/
def bsum : List Nat → Int
  | [] => 0
  | x :: r => 2 ^ x + bsum r
theorem bsum_snoc (l : List Nat) (x : Nat) : bsum (l ++ [x]) = bsum l + 2 ^ x := by
  induction l with
  | nil => simp [bsum]
  | cons a r ih => simp only [List.cons_append, bsum, ih]; omega
def b2i (b : Bool) : Int := if b = true then 1 else 0
theorem bsum_wfrom (p : Nat → Bool) (k : Nat) : bsum (wfrom p (k + 1)) = bsum (wfrom p k) + b2i (p k) * 2 ^ k := by
  rw [wfrom_succ]
  cases h : p k <;> simp [bsum_snoc, b2i]
theorem bsum_lt (p : Nat → Bool) : ∀ k, 0 ≤ bsum (wfrom p k) ∧ bsum (wfrom p k) < 2 ^ k
  | 0 => by simp [wfrom, bsum]
  | k + 1 => by
    have h := bsum_lt p k
    rw [bsum_wfrom]
    rw [Int.pow_succ]
    unfold b2i
    split <;> omega
theorem wl_pre {l : Ls} {now : Int} {x : Nat} {pre rest : List Nat} (h : l.wl now = pre ++ x :: rest) : pre = wfrom (l.w now) x ∧ l.w now x = true := by
  have hx := wl_lt h
  have hm : x ∈ l.wl now := by rw [h]; simp
  have hp : l.w now x = true := by simp [Ls.wl, wfrom] at hm; exact hm.2
  refine ⟨?_, hp⟩
  obtain ⟨r, hr⟩ := wfrom_mid hx hp
  have hs : (l.wl now).Pairwise (· < ·) := (List.pairwise_lt_range).filter _
  have hn : (l.wl now).Nodup := hs.imp (fun h => Nat.ne_of_lt h)
  have e : pre ++ x :: rest = wfrom (l.w now) x ++ x :: r := by rw [← h]; exact hr
  rw [h] at hn
  have h1 : x ∉ pre := fun hm => by
    rw [List.nodup_append] at hn
    exact hn.2.2 x hm x (by simp) rfl
  have h2 : x ∉ wfrom (l.w now) x := by simp [wfrom]
  have key : ∀ (a b : List Nat) (ra rb : List Nat), x ∉ a → x ∉ b → a ++ x :: ra = b ++ x :: rb → a = b := by
    intro a
    induction a with
    | nil =>
      intro b ra rb _ hb he
      cases b with
      | nil => rfl
      | cons y b => simp at he; exact absurd he.1 (fun e => hb (by simp [e]))
    | cons z a ih =>
      intro b ra rb ha hb he
      cases b with
      | nil => simp at he; exact absurd he.1 (fun e => ha (by simp [e]))
      | cons y b =>
        simp at he
        rw [he.1, ih b ra rb (fun h => ha (by simp [h])) (fun h => hb (by simp [h])) he.2]
  exact key _ _ _ _ h1 h2 e
/-- One line more. -/
theorem wl_or {l : Ls} {now : Int} {x : Nat} {pre rest : List Nat} (h : l.wl now = pre ++ x :: rest) : bits .or .u32 (bsum pre) (2 ^ x) = bsum (pre ++ [x]) := by
  have hx := wl_lt h
  obtain ⟨rfl, _⟩ := wl_pre h
  have hb := bsum_lt (l.w now) x
  have h1 : (2 : Int) ^ x ≤ 8 := by
    have : x = 0 ∨ x = 1 ∨ x = 2 ∨ x = 3 := by omega
    rcases this with rfl | rfl | rfl | rfl <;> decide
  rw [bsum_snoc]
  exact or_low_high x _ _ hb.1 hb.2 (by omega) (by omega) (by simp) (by omega)
def Ls.wn (l : Ls) (now : Int) : Int := bsum (l.wl now)
theorem Ls.wn_eq (l : Ls) (now : Int) : l.wn now = b2i (l.w now 0) + b2i (l.w now 1) * 2 + b2i (l.w now 2) * 4 + b2i (l.w now 3) * 8 := by
  unfold Ls.wn Ls.wl
  rw [bsum_wfrom, bsum_wfrom, bsum_wfrom, bsum_wfrom]
  simp [wfrom, bsum]
theorem Ls.wn_lt (l : Ls) (now : Int) : 0 ≤ l.wn now ∧ l.wn now < 16 := bsum_lt (l.w now) 4
/-- Has the mask the line? -/
def bit (m : Int) (i : Nat) : Bool := decide (m / 2 ^ i % 2 = 1)
def Ls.pd (l : Ls) (now : Int) : Option Nat := (l.wl now).find? (bit l.ms)
theorem pd_hit {l : Ls} {now : Int} {x : Nat} {pre rest : List Nat} (h : l.wl now = pre ++ x :: rest) (hb : bit l.ms x = true) (hn : ∀ y ∈ pre, bit l.ms y = false) : l.pd now = some x := by
  unfold Ls.pd; rw [h, List.find?_append]
  have : pre.find? (bit l.ms) = none := by rw [List.find?_eq_none]; intro y hy; rw [hn y hy]; simp
  rw [this]; simp [hb]
theorem pd_none {l : Ls} {now : Int} (hn : ∀ y ∈ l.wl now, bit l.ms y = false) : l.pd now = none := by
  unfold Ls.pd; rw [List.find?_eq_none]; intro y hy; rw [hn y hy]; simp
def Ls.pdN (l : Ls) (now : Int) : Int := ((l.pd now).getD 0 : Nat)
def Ls.pdB (l : Ls) (now : Int) : Bool := (l.pd now).isSome
def Ls.pdI (l : Ls) (now : Int) : Int := if (l.pd now).isSome = true then ((l.pd now).getD 0 : Nat) else -1
theorem Ls.pdI_ge (l : Ls) (now : Int) : decide (0 ≤ l.pdI now) = l.pdB now := by
  unfold Ls.pdI Ls.pdB
  cases h : (l.pd now).isSome <;> simp
theorem Ls.pdI_max (l : Ls) (now : Int) : max (l.pdI now) 0 = l.pdN now := by
  unfold Ls.pdI Ls.pdN
  cases h : l.pd now with
  | none => decide
  | some k => simp
theorem Ls.pdI_bounds (l : Ls) (now : Int) : -1 ≤ l.pdI now ∧ l.pdI now < 4 := by
  unfold Ls.pdI
  cases h : l.pd now with
  | none => simp
  | some k =>
    have hm : k ∈ l.wl now := List.mem_of_find?_eq_some h
    have : k < 4 := by simp [Ls.wl, wfrom] at hm; exact hm.1
    simp; omega
/-- The document's search: line after line. -/
theorem pd_first {l : Ls} {now : Int} {k : Nat} (hk : k < 4) (h1 : l.w now k = true) (h2 : bit l.ms k = true) (hn : ∀ j, j < k → (l.w now j && bit l.ms j) = false) : l.pd now = some k := by
  obtain ⟨r, hr⟩ := wfrom_mid hk h1
  refine pd_hit (pre := wfrom (l.w now) k) (rest := r) hr h2 fun y hy => ?_
  simp [wfrom] at hy
  have := hn y hy.1
  rw [hy.2] at this; simpa using this
theorem pd_nothing {l : Ls} {now : Int} (hn : ∀ j, j < 4 → (l.w now j && bit l.ms j) = false) : l.pd now = none := pd_none fun y hy => by
  simp [Ls.wl, wfrom] at hy
  have := hn y hy.1
  rw [hy.2] at this; simpa using this
end Go.Proofs.Ytmnkggnghflcpaa

/-
  Plain data of layer 10: states, what an instruction wants, the state behind it, what touches what, as functions of a state and four integers. No program.
-/
import Derived.Test.YthjdfneibogcgaaDoorMath
set_option linter.unusedVariables false
namespace Go.Proofs.YthjdfneibogcgaaDoor
open Go.RowKit

/-- A state. -/
structure Sta where
  r : Nat → Int
  pc : Int
  epc : Int
  cs : Int
  vec : Int
  tab : Int
  su : Bool
  pv : Bool
  en : Bool
structure Sta.Ok (s : Sta) : Prop where
  r : ∀ k, W32 (s.r k)
  pc : W32 s.pc
  epc : W32 s.epc
  cs : W32 s.cs
  vec : W32 s.vec
  tab : W32 s.tab
/-- Its cells. -/
def sc (s : Sta) : Array Value := #[.int .u32 (s.r 0), .int .u32 (s.r 1), .int .u32 (s.r 2), .int .u32 (s.r 3), .int .u32 (s.r 4), .int .u32 (s.r 5), .int .u32 (s.r 6), .int .u32 (s.r 7),
  .int .u32 s.pc, .int .u32 s.epc, .int .u32 s.cs, .int .u32 s.vec, .int .u32 s.tab, .bool s.su, .bool s.pv, .bool s.en]
/-- A state and the instruction that it is at. -/
def xc (s : Sta) (i : Ins) : Array Value := #[.int .u32 (s.r 0), .int .u32 (s.r 1), .int .u32 (s.r 2), .int .u32 (s.r 3), .int .u32 (s.r 4), .int .u32 (s.r 5), .int .u32 (s.r 6), .int .u32 (s.r 7),
  .int .u32 s.pc, .int .u32 s.epc, .int .u32 s.cs, .int .u32 s.vec, .int .u32 s.tab, .bool s.su, .bool s.pv, .bool s.en, .int .i64 i.op, .int .i64 i.a, .int .i64 i.b, .int .i64 i.imm]
def ic (i : Ins) : Array Value := #[.int .i64 i.op, .int .i64 i.a, .int .i64 i.b, .int .i64 i.imm]
theorem sc_reg (s : Sta) {k : Nat} (h : k < 8) : (sc s)[k]? = some (.int .u32 (s.r k)) := by
  iterate 8 (rcases k with _ | k; exact rfl)
  omega
theorem xc_reg (s : Sta) (i : Ins) {k : Nat} (h : k < 8) : (xc s i)[k]? = some (.int .u32 (s.r k)) := by
  iterate 8 (rcases k with _ | k; exact rfl)
  omega
theorem sc_one (s : Sta) : (sc s).all (·.oneCell') = true := by simp [sc, Value.oneCell']
theorem xc_one (s : Sta) (i : Ins) : (xc s i).all (·.oneCell') = true := by simp [xc, Value.oneCell']
def upd (s : Sta) (a : Nat) (v : Int) : Sta := { s with r := fun k => if k = a then v else s.r k }
theorem sc_upd (s : Sta) {a : Nat} (v : Int) (h : a < 8) : (sc s).setIfInBounds a (.int .u32 v) = sc (upd s a v) := by
  iterate 8 (rcases a with _ | a; exact rfl)
  omega

/-- An instruction as Decode gives it. -/
def Ins.Is (i : Ins) : Prop := i = zeroI ∨ May i
theorem Ins.Is.bounds {i : Ins} (h : i.Is) : (0 ≤ i.op ∧ i.op < 29) ∧ (0 ≤ i.a ∧ i.a < 8) ∧ (0 ≤ i.b ∧ i.b < 8) ∧ -32768 ≤ i.imm ∧ i.imm ≤ 32767 := by
  rcases h with rfl | h
  · decide
  · have := h.bounds; omega
theorem Ins.Is.jalr {a b m : Int} (h : Ins.Is ⟨21, a, b, m⟩) : m = 0 := by
  rcases h with h | h
  · cases h
  · have := h.2.2.2
    simp [okP, valP, lowP, highP, uses, us, usesL] at this
    omega
def immW (m : Int) : Int := m % 4294967296
def addr (s : Sta) (i : Ins) : Int := (s.r i.b.toNat + immW i.imm) % 4294967296

def causeOf (op : Int) (su : Bool) (m ad : Int) : Int :=
  if op = 0 then 1 else if op = 24 then 8
  else if op = 26 ∨ op = 27 then (if su = true then (if m < 0 ∨ 6 ≤ m then 1 else 0) else 2)
  else if op = 1 ∨ op = 22 ∨ op = 23 ∨ op = 25 ∨ op = 28 then (if su = true then 0 else 2)
  else if op = 13 ∨ op = 14 ∨ op = 21 then (if ad % 4 = 0 then 0 else 6)
  else 0
def causeS (s : Sta) (i : Ins) : Int := causeOf i.op s.su i.imm (addr s i)

structure Wnt where
  kind : Int
  cause : Int
  ad : Int
  wd : Int
  port : Int
  val : Int
def wnt (x : Wnt) : Array Value := #[.int .i64 x.kind, .int .u32 x.cause, .int .u32 x.ad, .int .i64 x.wd, .int .i64 x.port, .int .u32 x.val]
def wantOf (op a ad m : Int) : Wnt :=
  if op = 13 then ⟨2, 0, ad, 4, 0, 0⟩ else if op = 15 then ⟨2, 0, ad, 1, 0, 0⟩
  else if op = 14 then ⟨3, 0, ad, 4, 0, a⟩ else if op = 16 then ⟨3, 0, ad, 1, 0, a % 256⟩
  else if op = 22 then ⟨4, 0, 0, 0, m, 0⟩ else if op = 23 then ⟨5, 0, 0, 0, m, a⟩
  else if op = 1 then ⟨6, 0, 0, 0, 0, 0⟩ else if op = 28 then ⟨7, 0, 0, 0, 0, 0⟩ else ⟨0, 0, 0, 0, 0, 0⟩
def planS (s : Sta) (i : Ins) : Wnt := if causeS s i = 0 then wantOf i.op (s.r i.a.toNat) (addr s i) i.imm else ⟨1, causeS s i, 0, 0, 0, 0⟩

def trapS (s : Sta) (c : Int) : Sta := { s with epc := s.pc, cs := c, pv := s.su, su := true, en := false, pc := s.vec }
def b2 (b : Bool) (n : Int) : Int := if b = true then n else 0
def statusS (s : Sta) : Int := b2 s.su 1 + b2 s.pv 2 + b2 s.en 4

/-- What the bits of two words make. -/
def bitOf (op : Int) (a b : Int) : Int := if op = 7 then bits .and .u32 a b else if op = 8 then bits .or .u32 a b else bits .xor .u32 a b
def getS (s : Sta) (m : Int) : Int := if m = 0 then s.epc else if m = 1 then s.cs else if m = 2 then s.vec else if m = 3 then s.tab else if m = 4 then statusS s else s.pc
def hasMade (op : Int) : Bool := decide (2 ≤ op ∧ op ≤ 13 ∨ op = 15 ∨ op = 20 ∨ op = 21 ∨ op = 22 ∨ op = 26)
def madeS (s : Sta) (i : Ins) (told : Int) : Int :=
  let a := s.r i.a.toNat
  let b := s.r i.b.toNat
  let n := immW i.imm
  if i.op = 2 then n * 65536 % 4294967296 else if i.op = 3 then (b + n) % 4294967296 else if i.op = 4 then (a + b) % 4294967296
  else if i.op = 5 then (a - b) % 4294967296 else if i.op = 6 then a * b % 4294967296
  else if i.op = 7 ∨ i.op = 8 ∨ i.op = 9 then bitOf i.op a b
  else if i.op = 10 then shlN a (b % 32).toNat else if i.op = 11 then shrN a (b % 32).toNat
  else if i.op = 12 then (if sgn a < sgn b then 1 else 0)
  else if i.op = 13 ∨ i.op = 22 then told else if i.op = 15 then told % 256
  else if i.op = 20 ∨ i.op = 21 then (s.pc + 4) % 4294967296
  else if i.op = 26 then getS s i.imm else 0
def takenS (s : Sta) (i : Ins) : Bool :=
  let a := s.r i.a.toNat
  let b := s.r i.b.toNat
  if i.op = 17 then decide (a = b) else if i.op = 18 then decide (a ≠ b) else if i.op = 19 then decide (sgn a < sgn b) else decide (i.op = 20)
def toS (s : Sta) (i : Ins) : Int :=
  if takenS s i = true then (s.pc + 4 * immW i.imm) % 4294967296
  else if i.op = 21 then s.r i.b.toNat else if i.op = 25 then s.epc else (s.pc + 4) % 4294967296
def setS (s : Sta) (m a : Int) : Sta :=
  if m = 0 then { s with epc := a } else if m = 1 then { s with cs := a } else if m = 2 then { s with vec := a } else if m = 3 then { s with tab := a }
  else if m = 4 then { s with pv := decide (a / 2 % 2 = 1), en := decide (a / 4 % 2 = 1) } else s
def behindS (s : Sta) (i : Ins) (told : Int) : Sta :=
  if i.op = 27 then setS s i.imm (s.r i.a.toNat) else if i.op = 25 then { s with su := s.pv, en := true }
  else if hasMade i.op = true then upd s i.a.toNat (madeS s i told) else s
def doneS (s : Sta) (i : Ins) (told : Int) : Sta :=
  if causeS s i = 0 then { behindS s i told with pc := toS s i } else trapS s (causeS s i)

/-! ### touches -/
structure Plc where
  kind : Int
  n : Int
instance : DecidableEq Plc := fun x y =>
  if _h : x.kind = y.kind ∧ x.n = y.n then .isTrue (by cases x; cases y; simp_all) else .isFalse (by intro e; subst e; exact _h ⟨rfl, rfl⟩)
structure Tch where
  to : Plc
  fr : List Plc
instance : DecidableEq Tch := fun x y =>
  if _h : x.to = y.to ∧ x.fr = y.fr then .isTrue (by cases x; cases y; simp_all) else .isFalse (by intro e; subst e; exact _h ⟨rfl, rfl⟩)
def rg (n : Int) : Plc := ⟨1, n⟩
def on (k : Int) : Plc := ⟨k, 0⟩
def trapT : List Tch := [⟨on 3, [on 2]⟩, ⟨on 4, []⟩, ⟨on 7, [on 7]⟩, ⟨on 0, [on 5]⟩, ⟨on 2, [on 5]⟩]
def keptK (m : Int) : Int := if m = 0 then 3 else if m = 1 then 4 else if m = 2 then 5 else if m = 3 then 6 else if m = 4 then 7 else 2
def aheadT (i : Ins) : List Tch :=
  if 13 ≤ i.op ∧ i.op ≤ 16 ∨ i.op = 21 then [⟨on 0, [rg i.b]⟩] else if 17 ≤ i.op ∧ i.op ≤ 19 then [⟨on 0, [rg i.a, rg i.b]⟩]
  else if i.op = 25 then [⟨on 0, [on 7]⟩] else if i.op = 23 ∧ i.imm ≠ 1 then [⟨on 0, [rg i.a]⟩] else []
def behindT (i : Ins) : List Tch :=
  if i.op = 2 then [⟨rg i.a, []⟩] else if i.op = 3 then [⟨rg i.a, [rg i.b]⟩] else if 4 ≤ i.op ∧ i.op ≤ 12 then [⟨rg i.a, [rg i.a, rg i.b]⟩]
  else if i.op = 20 ∨ i.op = 21 then [⟨rg i.a, [on 2]⟩] else if i.op = 26 then [⟨rg i.a, [on (keptK i.imm)]⟩]
  else if i.op = 27 ∧ i.imm < 4 then [⟨on (keptK i.imm), [rg i.a]⟩] else if i.op = 27 ∧ i.imm = 4 then [⟨on 7, [on 7, rg i.a]⟩] else []
def movedT (i : Ins) : List Tch :=
  if i.op = 21 then [⟨on 2, [rg i.b]⟩] else if i.op = 25 then [⟨on 2, [on 3]⟩, ⟨on 7, [on 7]⟩] else [⟨on 2, [on 2]⟩]
def touS (s : Sta) (i : Ins) : List Tch :=
  if causeS s i = 0 then aheadT i ++ behindT i ++ movedT i else (if causeS s i = 6 then [⟨on 0, [rg i.b]⟩] else []) ++ trapT
end Go.Proofs.YthjdfneibogcgaaDoor

/-
  Layer 9: plain numbers and lists: bytes, what a net is, what calls make of it. No program.
-/
import Derived.WalkKit
import Derived.Laws.BytesArg
namespace Go.Proofs.Ytepimbebodmajaa
open Go.RowKit

/-- An integer is a word. -/
def W32 (a : Int) : Prop := 0 ≤ a ∧ a < 4294967296
theorem w32_of_wf {a : Int} (h : (Lit.int .u32 a).wf = true) : W32 a := by
  simp [Lit.wf, IntKind.min, IntKind.max, IntKind.signed, IntKind.bits] at h
  unfold W32; omega
theorem u8_of_wf {a : Int} (h : (Lit.int .u8 a).wf = true) : 0 ≤ a ∧ a < 256 := by
  simp [Lit.wf, IntKind.min, IntKind.max, IntKind.signed, IntKind.bits] at h
  omega
theorem wf_of_u8 {a : Int} (h : 0 ≤ a ∧ a < 256) : (Lit.int .u8 a).wf = true := by
  simp [Lit.wf, IntKind.min, IntKind.max, IntKind.signed, IntKind.bits]; omega
theorem wf_i64 {x : Int} (h0 : -9223372036854775808 ≤ x) (h1 : x ≤ 9223372036854775807) : (Lit.int .i64 x).wf = true := by
  simp [Lit.wf, IntKind.min, IntKind.max, IntKind.signed, IntKind.bits]; omega
theorem i64_of_wf {a : Int} (h : (Lit.int .i64 a).wf = true) : -9223372036854775808 ≤ a ∧ a ≤ 9223372036854775807 := by
  simp [Lit.wf, IntKind.min, IntKind.max, IntKind.signed, IntKind.bits] at h; omega

/-- All are bytes. -/
def Byt (l : List Int) : Prop := ∀ x ∈ l, 0 ≤ x ∧ x < 256
def at0 (l : List Int) (i : Nat) : Int := l[i]?.getD 0
theorem at0_lt {l : List Int} {i : Nat} (h : i < l.length) : l[i]? = some (at0 l i) := by simp [at0, List.getElem?_eq_getElem h]
theorem at0_ge {l : List Int} {i : Nat} (h : l.length ≤ i) : at0 l i = 0 := by simp [at0, List.getElem?_eq_none h]
theorem Byt.at0 {l : List Int} (h : Byt l) (i : Nat) : 0 ≤ at0 l i ∧ at0 l i < 256 := by
  by_cases hi : i < l.length
  · exact h _ (List.mem_of_getElem? (at0_lt hi))
  · rw [at0_ge (by omega)]; omega
theorem Byt.set {l : List Int} (h : Byt l) (k : Nat) {x : Int} (hx : 0 ≤ x ∧ x < 256) : Byt (l.set k x) := by
  intro y hy
  rcases List.mem_or_eq_of_mem_set hy with h1 | rfl
  · exact h y h1
  · exact hx
theorem at0_set (l : List Int) (k i : Nat) (x : Int) (hk : k < l.length) : at0 (l.set k x) i = if i = k then x else at0 l i := by
  unfold at0
  rw [List.getElem?_set]
  by_cases e : k = i
  · subst e; simp [hk]
  · simp [e, Ne.symm e]
theorem list_ext0 {a b : List Int} (hl : a.length = b.length) (h : ∀ i, i < a.length → at0 a i = at0 b i) : a = b := by
  apply List.ext_getElem? 
  intro i
  by_cases hi : i < a.length
  · rw [at0_lt hi, at0_lt (by omega), h i hi]
  · rw [List.getElem?_eq_none (by omega), List.getElem?_eq_none (by omega)]
theorem Byt.append {a b : List Int} (ha : Byt a) (hb : Byt b) : Byt (a ++ b) := fun x hx => by
  rcases List.mem_append.1 hx with h | h
  · exact ha x h
  · exact hb x h
theorem Byt.take {a : List Int} (ha : Byt a) (n : Nat) : Byt (a.take n) := fun x hx => ha x (List.mem_of_mem_take hx)
theorem Byt.drop {a : List Int} (ha : Byt a) (n : Nat) : Byt (a.drop n) := fun x hx => ha x (List.mem_of_mem_drop hx)
theorem byt_zeros (n : Nat) : Byt (List.replicate n 0) := fun x hx => by rw [List.mem_replicate] at hx; omega

/-! ### strings -/
theorem toList_strOf (xs : List Int) : (strOfNums xs).toList = xs.map fun n => UInt8.ofNat n.toNat := by
  rw [ByteArray.toList_eq]; rfl
theorem u8_inj {x y : Int} (hx : 0 ≤ x ∧ x < 256) (hy : 0 ≤ y ∧ y < 256) (h : UInt8.ofNat x.toNat = UInt8.ofNat y.toNat) : x = y := by
  have := congrArg UInt8.toNat h
  simp at this
  omega
theorem strOf_inj : ∀ {xs ys : List Int}, Byt xs → Byt ys → (xs.map fun n => UInt8.ofNat n.toNat) = (ys.map fun n => UInt8.ofNat n.toNat) → xs = ys
  | [], [], _, _, _ => rfl
  | [], _ :: _, _, _, h => by simp at h
  | _ :: _, [], _, _, h => by simp at h
  | x :: xs, y :: ys, hx, hy, h => by
    simp only [List.map_cons, List.cons.injEq] at h
    rw [u8_inj (hx x (by simp)) (hy y (by simp)) h.1, strOf_inj (fun z hz => hx z (by simp [hz])) (fun z hz => hy z (by simp [hz])) h.2]
theorem str_eq {xs ys : List Int} (hx : Byt xs) (hy : Byt ys) : ((strOfNums xs).toList == (strOfNums ys).toList) = decide (xs = ys) := by
  rw [toList_strOf, toList_strOf]
  by_cases h : xs = ys
  · subst h; simp
  · simp [h]
    intro e
    exact h (strOf_inj hx hy (by simpa using e))


/-! ### nets -/
/-- How many bytes packets have. -/
def tot : List (List Int) → Nat
  | [] => 0
  | x :: r => x.length + tot r
theorem tot_append (a b : List (List Int)) : tot (a ++ b) = tot a + tot b := by
  induction a with
  | nil => simp [tot]
  | cons x r ih => simp only [List.cons_append, tot, ih]; omega
theorem tot_snoc (a : List (List Int)) (x : List Int) : tot (a ++ [x]) = tot a + x.length := by rw [tot_append]; simp [tot]
theorem tot_take_succ {l : List (List Int)} {k : Nat} {x : List Int} (h : l[k]? = some x) : tot (l.take (k + 1)) = tot (l.take k) + x.length := by
  obtain ⟨hk, hx⟩ := List.getElem?_eq_some_iff.1 h
  rw [List.take_succ_eq_append_getElem hk, hx, tot_snoc]
theorem tot_split (l : List (List Int)) (k : Nat) : tot l = tot (l.take k) + tot (l.drop k) := by rw [← tot_append, List.take_append_drop]
theorem tot_le {l : List (List Int)} {c : Nat} (h : ∀ x ∈ l, x.length ≤ c) : tot l ≤ l.length * c := by
  induction l with
  | nil => simp [tot]
  | cons x r ih =>
    have h1 := h x (by simp)
    have h2 := ih (fun y hy => h y (by simp [hy]))
    simp only [tot, List.length_cons, Nat.add_mul, Nat.one_mul]; omega
theorem tot_take_le (l : List (List Int)) (k : Nat) : tot (l.take k) ≤ tot l := by have := tot_split l k; omega

structure Nt where
  cm : List (List Int)
  tk : Nat
  sn : List (List Int)
def N0 : Nt := ⟨[], 0, []⟩
/-- The packets that wait. -/
def Nt.wt (n : Nt) : List (List Int) := n.cm.drop n.tk
structure Nt.Ok (n : Nt) : Prop where
  tk : n.tk ≤ n.cm.length
  wt : n.wt.length ≤ 256
  c64 : ∀ x ∈ n.cm, x.length ≤ 64
  s64 : ∀ x ∈ n.sn, x.length ≤ 64
theorem ok_N0 : N0.Ok := ⟨by simp [N0], by simp [N0, Nt.wt], by simp [N0], by simp [N0]⟩
theorem Nt.Ok.wt_len {n : Nt} (h : n.Ok) : n.wt.length + n.tk = n.cm.length := by have := h.tk; simp [Nt.wt]; omega
theorem Nt.Ok.totc {n : Nt} (h : n.Ok) : tot n.cm ≤ n.cm.length * 64 := tot_le h.c64
theorem Nt.Ok.tots {n : Nt} (h : n.Ok) : tot n.sn ≤ n.sn.length * 64 := tot_le h.s64
/-- How much there is of it. -/
def Nt.sz (n : Nt) : Nat := n.cm.length + n.sn.length
/-- May a packet come, be sent? -/
def Nt.mayP (n : Nt) (p : List Int) : Prop := p.length ≤ 64 ∧ n.wt.length < 256
instance (n : Nt) (p : List Int) : Decidable (n.mayP p) := by unfold Nt.mayP; infer_instance
def Nt.pushed (n : Nt) (p : List Int) : Nt := if n.mayP p then { n with cm := n.cm ++ [p] } else n
def Nt.pushN (n : Nt) (p : List Int) : Nat := if n.mayP p then tot n.cm else 0
def Nt.pushE (n : Nt) (p : List Int) : Int := if n.mayP p then 0 else 3
def Nt.sent (n : Nt) (p : List Int) : Nt := if p.length ≤ 64 then { n with sn := n.sn ++ [p] } else n
def Nt.sendN (n : Nt) (p : List Int) : Nat := if p.length ≤ 64 then tot n.sn else 0
def Nt.sendE (p : List Int) : Int := if p.length ≤ 64 then 0 else 3
def Nt.took (n : Nt) : Nt := if n.tk < n.cm.length then { n with tk := n.tk + 1 } else n
def Nt.takeY (n : Nt) : Bool := decide (n.tk < n.cm.length)
def Nt.nextB (n : Nt) : List Int := n.cm[n.tk]?.getD []
def Nt.nextN (n : Nt) : Nat := if n.tk < n.cm.length then tot (n.cm.take n.tk) else 0
def Nt.same (a b : Nt) : Bool := decide (a.wt = b.wt) && decide (a.sn = b.sn) && decide (tot a.cm = tot b.cm)
theorem Nt.wt_push {n : Nt} (h : n.Ok) (p : List Int) : ({ n with cm := n.cm ++ [p] } : Nt).wt = n.wt ++ [p] := by
  unfold Nt.wt; simp only; rw [List.drop_append_of_le_length h.tk]
theorem Nt.wt_take {n : Nt} (h : n.tk < n.cm.length) : n.wt = n.nextB :: ({ n with tk := n.tk + 1 } : Nt).wt := by
  unfold Nt.wt Nt.nextB; simp only
  rw [List.drop_eq_getElem_cons h]
  congr 1
  simp [List.getElem?_eq_getElem h]
theorem Nt.wt_pos {n : Nt} : 0 < n.wt.length ↔ n.tk < n.cm.length := by simp [Nt.wt]; omega
theorem Nt.tot_wt (n : Nt) : tot n.cm = tot (n.cm.take n.tk) + tot n.wt := tot_split _ _
theorem Nt.tot_next {n : Nt} (h : n.tk < n.cm.length) : tot (n.cm.take (n.tk + 1)) = tot (n.cm.take n.tk) + n.nextB.length := by
  apply tot_take_succ
  rw [Nt.nextB, List.getElem?_eq_getElem h]; rfl
theorem Nt.Ok.pushed {n : Nt} (h : n.Ok) (p : List Int) : (n.pushed p).Ok := by
  unfold Nt.pushed; split
  · rename_i h2
    refine ⟨?_, ?_, ?_, h.s64⟩
    · have := h.tk; simp; omega
    · rw [Nt.wt_push h]; have := h2.2; simp; omega
    · intro x hx
      rcases List.mem_append.1 hx with hx | hx
      · exact h.c64 x hx
      · simp at hx; subst hx; exact h2.1
  · exact h
theorem Nt.Ok.sent {n : Nt} (h : n.Ok) (p : List Int) : (n.sent p).Ok := by
  unfold Nt.sent; split
  · rename_i h2
    refine ⟨h.tk, h.wt, h.c64, ?_⟩
    intro x hx
    rcases List.mem_append.1 hx with hx | hx
    · exact h.s64 x hx
    · simp at hx; subst hx; exact h2
  · exact h
theorem Nt.Ok.took {n : Nt} (h : n.Ok) : n.took.Ok := by
  unfold Nt.took; split
  · rename_i h2
    refine ⟨h2, ?_, h.c64, h.s64⟩
    have := h.wt
    rw [Nt.wt_take h2] at this
    simp at this; omega
  · exact h
theorem Nt.Ok.wt64 {n : Nt} (h : n.Ok) : ∀ x ∈ n.wt, x.length ≤ 64 := fun x hx => h.c64 x (List.mem_of_mem_drop hx)

/-- A call. -/
structure Ac where
  k : Int
  b : List Int
def Nt.act (n : Nt) (a : Ac) : Nt := if a.k = 0 then n.pushed a.b else if a.k = 1 then n.took else n.sent a.b
theorem Nt.Ok.act {n : Nt} (h : n.Ok) (a : Ac) : (n.act a).Ok := by
  unfold Nt.act
  split
  · exact h.pushed _
  split
  · exact h.took
  · exact h.sent _
theorem Nt.sz_act (n : Nt) (a : Ac) : (n.act a).sz ≤ n.sz + 1 := by
  unfold Nt.act
  split
  · unfold Nt.pushed Nt.sz; split <;> (try simp) <;> omega
  split
  · unfold Nt.took Nt.sz; split <;> (try simp only) <;> omega
  · unfold Nt.sent Nt.sz; split <;> (try simp) <;> omega
end Go.Proofs.Ytepimbebodmajaa

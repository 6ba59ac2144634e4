/-
  Layer 16: a number is taken off bytes: walk. Layer 16: bytes and numbers that must be there: walks. Layer 16: a list of bytes that grows: put, number: walks.
-/
import Derived.Test.YtjffclcjijpmiaaG12
set_option linter.unusedVariables false
set_option linter.unusedSimpArgs false
namespace Go.Proofs.Ytjffclcjijpmiaa.LG
open Go.RowKit
set_option maxHeartbeats 4000000
set_option maxRecDepth 100000
set_option linter.unusedVariables false
set_option linter.unusedSimpArgs false

/-- The taker over a box. -/
abbrev tkf (B : Nat) : Value := .func (.func 60) #[] #[.pointer (some ⟨B, 0, none⟩)]
abbrev maxI : Int := 9223372036854775807
/-- What the program tells of a number. -/
def NumR (l : List Int) (n : Int) (le th : Bool) (l' : List Int) : Prop :=
  (th = false ∧ (tk 0 1 0 l).2 ≤ 0) ∨ (th = true ∧ le = true ∧ 0 < (tk 0 1 0 l).2 ∧ n = (tk 0 1 0 l).1 ∧ l' = l.drop (tk 0 1 0 l).2.toNat) ∨ (th = true ∧ (tk 0 1 0 l).2 = -1 ∧ (le = false ∨ n = maxI))
def NumP (N B L : Nat) (l : List Int) (w : World) (e : Ending) (w' : World) : Prop :=
  ∃ n le th l', e = .returned (.tuple #[.int .i64 n, .bool le, .bool th]) ∧ Tk N w' B L l' ∧ Turned (fun k => k = L) w w' ∧ NumR l n le th l' ∧ 0 ≤ n ∧ n ≤ maxI ∧ l'.length ≤ l.length
/-- What a number's loop knows. -/
structure TnI (N B L : Nat) (l : List Int) (w : World) (k : Nat) (n : Int) (W : World) : Prop where
  t : Tk N W B L (l.drop k)
  u : Turned (fun k => k = L) w W
  r : (k ≤ 8 ∧ 0 ≤ n ∧ n < 128 ^ k ∧ tk 0 1 0 l = tk k (128 ^ k) n (l.drop k)) ∨ (9 ≤ k ∧ 0 ≤ n ∧ n ≤ maxI ∧ (tk 0 1 0 l).2 = -1)
theorem tk_last {l r : List Int} {k : Nat} {n x : Int} (h8 : k ≤ 8) (he : tk 0 1 0 l = tk k (128 ^ k) n (x :: r)) (hx : x < 128) (hn : ¬ (0 < k ∧ x = 0)) : tk 0 1 0 l = (n + x % 128 * 128 ^ k, (k : Int) + 1) := by
  rw [he, tk_cons, if_neg (by omega), if_pos hx]
theorem tk_zero {l r : List Int} {k : Nat} {n : Int} (hk : k ≠ 0) (he : tk 0 1 0 l = tk k (128 ^ k) n (0 :: r)) : (tk 0 1 0 l).2 = -1 := by
  rw [he, tk_cons, if_pos (.inr ⟨by omega, rfl⟩)]
theorem tk_next {l r : List Int} {k : Nat} {n x : Int} (h8 : k ≤ 8) (he : tk 0 1 0 l = tk k (128 ^ k) n (x :: r)) (hx : 128 ≤ x) : (k + 1 ≤ 8 ∧ tk 0 1 0 l = tk (k + 1) (128 ^ (k + 1)) (n + x % 128 * 128 ^ k) r) ∨ (k = 8 ∧ (tk 0 1 0 l).2 = -1) := by
  by_cases hk : k = 8
  · right; rw [he, tk_cons, if_pos (.inl ⟨hk, hx⟩)]; exact ⟨hk, rfl⟩
  · left; rw [he, tk_cons, if_neg (by omega), if_neg (by omega), Int.pow_succ]; exact ⟨by omega, rfl⟩
theorem numR_last {l r : List Int} {k : Nat} {n x : Int} (h8 : k ≤ 8) (he : tk 0 1 0 l = tk k (128 ^ k) n (x :: r)) (hx : x < 128) (hn : ¬ (0 < k ∧ x = 0)) : NumR l (n + x % 128 * 128 ^ k) true true (l.drop (k + 1)) := by
  have h := tk_last h8 he hx hn
  refine .inr (.inl ⟨rfl, rfl, ?_, ?_, ?_⟩)
  · rw [h]; simp only; omega
  · rw [h]
  · rw [h]; rfl
theorem tnum_any {N B L : Nat} {w : World} {l : List Int} (h : Tk N w B L l) (hl : l.length ≤ 1000000000) :
    Calls Try.prog 58 #[tkf B] w fun e w' => NumP N B L l w e w' := by
  have H0 : Hid (TnI N B L l w 0 0 w) := ⟨h, Turned.refl _ _, .inl ⟨by omega, by omega, by decide, rfl⟩⟩
  have HN := Lib.hid (And.intro h.nB h.nL)
  clear h
  go_enter Try.func58, Try.ntmps58
  go_wp2
  go_loopw [2, 5] (fun nv sv wr => ∃ (k : Nat) (n : Int), k ≤ l.length ∧ nv = .int .i64 n ∧ sv = .int .i64 (7 * (k : Int)) ∧ Hid (TnI N B L l w k n wr)) (fun _ sv _ => 7 * l.length + 7 - (intOf sv).toNat)
  case atStart => exact ⟨0, 0, by omega, rfl, by go_num, H0.out⟩
  case round =>
    obtain ⟨k, n, hk, rfl, rfl, HI⟩ := hrel
    go_wp2_with fail
    refine (take1_any HI.out.t 1 (by omega)).mono ?_
    rintro e w1 (⟨hlt, rfl, rfl⟩ | ⟨hle, v1, rfl, hb1, ht1, hu1⟩)
    · have HR : Hid ((tk 0 1 0 l).2 ≤ 0) := by
        have hk2 : l.length ≤ k := by rw [List.length_drop] at hlt; omega
        rcases HI.out.r with ⟨_, _, _, e⟩ | ⟨_, _, _, e⟩
        · rw [e, List.drop_of_length_le hk2]; exact Lib.hid (by simp [tk])
        · rw [e]; exact Lib.hid (by decide)
      have HT := Lib.hid (And.intro HI.out.t HI.out.u)
      have HL : Hid ((l.drop k).length ≤ l.length) := Lib.hid (by rw [List.length_drop]; omega)
      clear hlt HI H0 HN
      go_wp2
      go_ret3
      exact ⟨0, false, false, _, rfl, HT.out.1, HT.out.2, .inl ⟨rfl, HR.out⟩, by decide, by decide, HL.out⟩
    · rw [List.length_drop] at hle
      have hk1 : k < l.length := by omega
      obtain ⟨x, hx⟩ : ∃ x, l[k]? = some x := ⟨_, List.getElem?_eq_getElem hk1⟩
      have hd : l.drop k = x :: l.drop (k + 1) := by
        obtain ⟨h1, h2⟩ := List.getElem?_eq_some_iff.1 hx
        rw [List.drop_eq_getElem_cons h1, h2]
      rw [hd] at hb1 ht1
      have hb2 : Bn N w1 v1 [x] := hb1
      obtain ⟨g1, o1, c1, y, e1, l1, hy, q1⟩ := hb2.1.at_ (k := 0) (by simp)
      simp at l1
      subst l1
      subst e1
      simp only [List.length_singleton, Nat.add_zero] at q1
      have HI2 : Hid (Tk N w1 B L (l.drop (k + 1)) ∧ Turned (fun k => k = L) w w1) := ⟨ht1, HI.out.u.trans hu1 (fun x hx => .inl hx)⟩
      have HI3 := Lib.hid HI.out.r
      have HD := Lib.hid hd
      have HL : Hid ((l.drop (k + 1)).length ≤ l.length) := Lib.hid (by rw [List.length_drop]; omega)
      have h70 : (7 * (k : Int)).toNat = 7 * k := by omega
      clear hb1 ht1 hu1 hb2 hd hx HI H0 HN hle h70
      by_cases h8 : k ≤ 8
      · obtain ⟨n0, n1, HE⟩ : 0 ≤ n ∧ n < 128 ^ k ∧ Hid (tk 0 1 0 l = tk k (128 ^ k) n (x :: l.drop (k + 1))) := by
          rcases HI3.out with ⟨_, h1, h2, e⟩ | ⟨h1, _⟩
          · rw [HD.out] at e; exact ⟨h1, h2, Lib.hid e⟩
          · omega
        have hq := back8 (k := k) (p := x % 128) h8 (by omega) (by omega)
        have ho := or8 (k := k) (n := n) (p := x % 128) h8 (by omega) (by omega) n0 n1
        have HB8 : Hid (0 ≤ n + x % 128 * 128 ^ k ∧ n + x % 128 * 128 ^ k < 128 ^ (k + 1)) := by
          have h4 : x % 128 * 128 ^ k ≤ 127 * 128 ^ k := Int.mul_le_mul_of_nonneg_right (by omega) (by have := pw_pos k; omega)
          have h5 : 0 ≤ x % 128 * 128 ^ k := Int.mul_nonneg (by omega) (by have := pw_pos k; omega)
          exact Lib.hid ⟨by omega, by rw [Int.pow_succ]; omega⟩
        have HB9 : Hid (n + x % 128 * 128 ^ k ≤ maxI) := by
          have := pw_le h8
          have h4 : x % 128 * 128 ^ k ≤ 127 * 128 ^ k := Int.mul_le_mul_of_nonneg_right (by omega) (by have := pw_pos k; omega)
          exact Lib.hid (by show _ ≤ 9223372036854775807; omega)
        have HO := Lib.hid ho
        have HN := Lib.hid (And.intro n0 n1)
        clear n0 n1 ho HI3 HD
        by_cases hx1 : x < 128
        · by_cases hx0 : x = 0
          · subst hx0
            have hq0 := back0 (7 * k)
            have HZ : Hid (bits .or .i64 n 0 = n) := Lib.hid (or0 HN.out.1 (by have := HB9.out; have := HN.out; simp at *; omega))
            clear hq
            by_cases hk0 : k = 0
            · subst hk0
              go_wp2
              go_ret3
              have := numR_last h8 HE.out hx1 (by omega)
              rw [show n + (0 : Int) % 128 * 128 ^ 0 = n by simp] at this
              exact ⟨_, true, true, _, rfl, HI2.out.1, HI2.out.2, by rw [HZ.out]; exact this, by rw [HZ.out]; exact HN.out.1, by rw [HZ.out]; have := HN.out.2; simp at this; show n ≤ 9223372036854775807; omega, HL.out⟩
            · have hk3 : (7 * (k : Int) == 0) = false := by simp; omega
              go_wp2
              go_ret3
              exact ⟨_, false, true, _, rfl, HI2.out.1, HI2.out.2, .inr (.inr ⟨rfl, tk_zero hk0 HE.out, .inl rfl⟩), by rw [HZ.out]; exact HN.out.1, by rw [HZ.out]; have := HN.out.2; have := pw_le h8; show n ≤ 9223372036854775807; omega, HL.out⟩
          · have hx3 : x % 128 = x := by omega
            rw [hx3] at hq
            have HO2 := HO.out
            have HR := Lib.hid (numR_last h8 HE.out hx1 (by omega))
            rw [hx3] at HO2
            replace HO := Lib.hid HO2
            have HB := Lib.hid (And.intro HB8.out.1 HB9.out)
            rw [hx3] at HB HR
            clear HO2 HB8 HB9 HE
            go_wp2
            go_ret3
            exact ⟨_, true, true, _, rfl, HI2.out.1, HI2.out.2, by rw [HO.out]; exact HR.out, by rw [HO.out]; exact HB.out.1, by rw [HO.out]; exact HB.out.2, HL.out⟩
        · have hx2 : 128 ≤ x := by omega
          have HX : Hid (TnI N B L l w (k + 1) (n + x % 128 * 128 ^ k) w1) := by
            refine ⟨HI2.out.1, HI2.out.2, ?_⟩
            rcases tk_next h8 HE.out hx2 with ⟨a1, a2⟩ | ⟨a1, a2⟩
            · exact .inl ⟨a1, HB8.out.1, HB8.out.2, a2⟩
            · exact .inr ⟨by omega, HB8.out.1, HB9.out, a2⟩
          go_wp2
          refine ⟨⟨k + 1, _, by omega, by rw [HO.out], by go_num, HX.out⟩, ?_⟩
          simp [intOf]; omega
      · have h9 : 9 ≤ k := by omega
        obtain ⟨n0, n1, HE⟩ : 0 ≤ n ∧ n ≤ maxI ∧ Hid ((tk 0 1 0 l).2 = -1) := by
          rcases HI3.out with ⟨h1, _⟩ | ⟨_, h1, h2, e⟩
          · omega
          · exact ⟨h1, h2, Lib.hid e⟩
        have HN := Lib.hid (And.intro n0 n1)
        clear HI3 HD n0 n1
        obtain ⟨m, hm, hm63⟩ : ∃ m, min (7 * (k : Int)).toNat IntKind.i64.bits = m ∧ 63 ≤ m := ⟨_, rfl, by show 63 ≤ min _ 64; omega⟩
        have hs1 := shl_any (x % 128) (7 * (k : Int)) m (by omega) hm
        have hs2 := shr_any (wrap64 (x % 128 * 2 ^ m)) (7 * (k : Int)) m (by omega) hm
        clear hm
        by_cases hp : x % 128 = 0
        · have hq0 := back0 m
          rw [hp] at hs1 hs2
          rw [Int.zero_mul] at hs1 hs2
          have HZ : Hid (bits .or .i64 n 0 = n) := Lib.hid (or0 HN.out.1 HN.out.2)
          have hk3 : (7 * (k : Int) == 0) = false := by simp; omega
          by_cases hx1 : x < 128
          · go_wp2
            go_ret3
            exact ⟨_, false, true, _, rfl, HI2.out.1, HI2.out.2, .inr (.inr ⟨rfl, HE.out, .inl rfl⟩), by rw [wrap0, HZ.out]; exact HN.out.1, by rw [wrap0, HZ.out]; exact HN.out.2, HL.out⟩
          · have hx2 : 128 ≤ x := by omega
            have HX : Hid (TnI N B L l w (k + 1) n w1) := ⟨HI2.out.1, HI2.out.2, .inr ⟨by omega, HN.out.1, HN.out.2, HE.out⟩⟩
            go_wp2
            refine ⟨⟨k + 1, _, by omega, by rw [wrap0, HZ.out], by go_num, HX.out⟩, ?_⟩
            simp [intOf]; omega
        · have hq := back9 (m := m) (p := x % 128) hm63 (by omega)
          have HM : Hid ((0 : Int) ≤ maxI ∧ maxI ≤ maxI) := Lib.hid ⟨by decide, by decide⟩
          by_cases hx1 : x < 128
          · go_wp2
            go_ret3
            exact ⟨_, true, true, _, rfl, HI2.out.1, HI2.out.2, .inr (.inr ⟨rfl, HE.out, .inr rfl⟩), HM.out.1, HM.out.2, HL.out⟩
          · have hx2 : 128 ≤ x := by omega
            have HX : Hid (TnI N B L l w (k + 1) maxI w1) := ⟨HI2.out.1, HI2.out.2, .inr ⟨by omega, HM.out.1, HM.out.2, HE.out⟩⟩
            go_wp2
            refine ⟨⟨k + 1, _, by omega, rfl, by go_num, HX.out⟩, ?_⟩
            simp [intOf]; omega
end Go.Proofs.Ytjffclcjijpmiaa.LG
namespace Go.Proofs.Ytjffclcjijpmiaa.LG
open Go.RowKit
set_option maxHeartbeats 4000000
set_option maxRecDepth 100000
set_option linter.unusedVariables false
set_option linter.unusedSimpArgs false

def SureP (N B L : Nat) (l : List Int) (n why : Int) (w : World) (e : Ending) (w' : World) : Prop :=
  ((l.length : Int) < n ∧ e = .panicked (chain why) ∧ w = w') ∨
  (n ≤ (l.length : Int) ∧ ∃ v1, e = .returned v1 ∧ Bn N w' v1 (l.take n.toNat) ∧ Tk N w' B L (l.drop n.toNat) ∧ Turned (fun k => k = L) w w')
theorem sure_any {N B L : Nat} {w : World} {l : List Int} (h : Tk N w B L l) (n why : Int) (hn0 : 0 ≤ n) :
    Calls Try.prog 55 #[tkf B, .int .i64 n, .int .i64 why] w fun e w' => SureP N B L l n why w e w' := by
  have HT := Lib.hid (take1_any h n hn0)
  clear h
  go_enter Try.func55, Try.ntmps55
  go_wp2_with fail
  refine HT.out.mono ?_
  rintro e w1 (⟨hlt, rfl, rfl⟩ | ⟨hle, v1, rfl, hb1, ht1, hu1⟩)
  · have HL := Lib.hid hlt
    clear hlt
    go_wp2_with fail
    refine (must_no why _).mono ?_
    rintro e w2 ⟨rfl, rfl⟩
    go_wp2
    exact ⟨rfl, .inl ⟨HL.out, rfl, rfl⟩⟩
  · have HP := Lib.hid (And.intro hle (And.intro hb1 (And.intro ht1 hu1)))
    clear hle hb1 ht1 hu1
    go_wp2_with fail
    refine (must_yes why _).mono ?_
    rintro e w2 ⟨rfl, rfl⟩
    go_wp2
    go_ret
    exact .inr ⟨HP.out.1, _, rfl, HP.out.2⟩
/-- A number that must be there. -/
def SureN (N B L : Nat) (l : List Int) (why : Int) (w : World) (e : Ending) (w' : World) : Prop :=
  Turned (fun k => k = L) w w' ∧ ((e = .panicked (chain why) ∧ (tk 0 1 0 l).2 ≤ 0) ∨
  (∃ n l', e = .returned (.int .i64 n) ∧ Tk N w' B L l' ∧ 0 ≤ n ∧ n ≤ maxI ∧ l'.length ≤ l.length ∧ ((0 < (tk 0 1 0 l).2 ∧ n = (tk 0 1 0 l).1 ∧ l' = l.drop (tk 0 1 0 l).2.toNat) ∨ ((tk 0 1 0 l).2 = -1 ∧ n = maxI))))
theorem sureN_any {N B L : Nat} {w : World} {l : List Int} (h : Tk N w B L l) (hl : l.length ≤ 1000000000) (why : Int) :
    Calls Try.prog 56 #[tkf B, .int .i64 why] w fun e w' => SureN N B L l why w e w' := by
  have HT := Lib.hid (tnum_any h hl)
  clear h hl
  go_enter Try.func56, Try.ntmps56
  go_wp2_with fail
  refine HT.out.mono ?_
  rintro e w1 ⟨n, le, th, l', rfl, ht1, hu1, hr, hn0, hn1, hl⟩
  have HP := Lib.hid (And.intro ht1 (And.intro hu1 (And.intro hn0 (And.intro hn1 hl))))
  have HR := Lib.hid hr
  clear ht1 hu1 hr hn0 hn1 hl HT
  cases le
  · go_wp2_with fail
    refine (must_no why _).mono ?_
    rintro e w2 ⟨rfl, rfl⟩
    go_wp2
    refine ⟨rfl, HP.out.2.1, .inl ⟨rfl, ?_⟩⟩
    rcases HR.out with ⟨_, h⟩ | ⟨_, h, _⟩ | ⟨_, h, _⟩
    · exact h
    · cases h
    · omega
  · cases th
    · go_wp2_with fail
      refine (must_no why _).mono ?_
      rintro e w2 ⟨rfl, rfl⟩
      go_wp2
      refine ⟨rfl, HP.out.2.1, .inl ⟨rfl, ?_⟩⟩
      rcases HR.out with ⟨_, h⟩ | ⟨h, _⟩ | ⟨h, _⟩
      · exact h
      · cases h
      · cases h
    · go_wp2_with fail
      refine (must_yes why _).mono ?_
      rintro e w2 ⟨rfl, rfl⟩
      go_wp2
      go_ret
      refine ⟨HP.out.2.1, .inr ⟨n, l', rfl, HP.out.1, HP.out.2.2.1, HP.out.2.2.2.1, HP.out.2.2.2.2, ?_⟩⟩
      rcases HR.out with ⟨h, _⟩ | ⟨_, _, h⟩ | ⟨_, h1, h2⟩
      · cases h
      · exact .inl h
      · rcases h2 with h2 | h2
        · cases h2
        · exact .inr ⟨h1, h2⟩
theorem takerOf_any (w : World) (L : Nat) : Calls Try.prog 54 #[.pointer (some ⟨L, 0, none⟩)] w fun e w' => e = .returned (tkf w.heap.size) ∧ w' = w.alloc (.cells #[.pointer (some ⟨L, 0, none⟩)] 92) := by
  have hmf : ∀ (fn : Fn) (first cap : Array Value) (w : World), (Instr.makeFunc fn first cap).run Try.prog w = .ok (.func fn first cap) w := fun _ _ _ _ => rfl
  go_enter Try.func54, Try.ntmps54
  go_wp2
  go_ret
  exact ⟨rfl, rfl⟩
end Go.Proofs.Ytjffclcjijpmiaa.LG
namespace Go.Proofs.Ytjffclcjijpmiaa.LG
open Go.RowKit
set_option maxHeartbeats 4000000
set_option maxRecDepth 100000
set_option linter.unusedVariables false
set_option linter.unusedSimpArgs false

/-- A list at the head of a block; g: its own row. -/
def Lw (w : World) (S : Nat) (ty : TypeId) (rest : List Value) (out : List Int) (g : Option Nat) : Prop := ∃ sv, Blk w S (sv :: rest).toArray ty ∧ Og w sv out ∧ blkOf sv = g
section
variable {w w' : World} {S : Nat} {ty : TypeId} {rest : List Value} {out : List Int} {g : Option Nat}
theorem Lw.below (h : Lw w S ty rest out g) (hb : Below w.heap.size w w') : Lw w' S ty rest out g := by
  obtain ⟨sv, h1, h2, h3⟩ := h
  exact ⟨sv, h1.below hb, h2.below hb, h3⟩
theorem Lw.lt (h : Lw w S ty rest out g) : S < w.heap.size := by
  obtain ⟨sv, h1, _⟩ := h
  exact h1.lt
theorem Lw.turned {F : Nat → Prop} (h : Lw w S ty rest out g) (ht : Turned F w w') (hS : ¬ F S) (hg : ∀ k, g = some k → ¬ F k) : Lw w' S ty rest out g := by
  obtain ⟨sv, h1, h2, h3⟩ := h
  exact ⟨sv, h1.turned ht hS, Gs.turned h2 ht (fun k hk => hg k (h3 ▸ hk)), h3⟩
theorem Lw.lt' (h : Lw w S ty rest out g) {k : Nat} (hk : g = some k) : k < w.heap.size := by
  obtain ⟨sv, h1, h2, h3⟩ := h
  exact Gs.lt h2 (h3.trans hk)
end
theorem src_bs {w : World} {v : Value} {l : List Int} (h : Bs w v l) : Src Try.prog 1 34 v l.length (u8s l) w := by
  obtain ⟨⟨h0, ao, c, rfl, hc, hm, hr⟩, hb⟩ := h
  cases ao with
  | none =>
    have hn : l.length = 0 := by
      rcases Nat.eq_zero_or_pos l.length with e | e
      · exact e
      · obtain ⟨_, _, e2, _⟩ := hr e; cases e2
    obtain rfl := List.eq_nil_of_length_eq_zero hn
    exact Src.ofNil w Try.underlying34 c
  | some a =>
    refine Src.ofSlice w Try.underlying34 a l.length c _ h0 (fun j u hj => ?_) (fun u hu => ?_)
    · have hjl := (List.getElem?_eq_some_iff.1 hj).1
      obtain ⟨g, o, e, h6⟩ := hr (by simp at hjl; omega)
      simp at e
      rw [e, add_lit]
      exact h6 j u hj
    · simp at hu
      obtain ⟨x, _, rfl⟩ := hu
      rfl
/-- What a list's growing leaves. -/
def PutP (S : Nat) (ty : TypeId) (rest : List Value) (out : List Int) (g : Option Nat) (w : World) (e : Ending) (w' : World) : Prop :=
  ∃ g', e = .returned (.tuple #[]) ∧ Lw w' S ty rest out g' ∧ Turned (fun k => k = S ∨ g = some k) w w' ∧ (∀ k, g' = some k → g = some k ∨ w.heap.size ≤ k)
theorem put_any {w : World} {S : Nat} {ty : TypeId} {rest : List Value} {out l : List Int} {g : Option Nat} {bv : Value} (h : Lw w S ty rest out g) (ht : ty ≠ 5) (hb : Bs w bv l) (hl : out.length + l.length ≤ 1000000) :
    Calls Try.prog 51 #[.pointer (some ⟨S, 0, none⟩), bv] w fun e w' => PutP S ty rest (out ++ l) g w e w' := by
  obtain ⟨sv, h1, h2, rfl⟩ := h
  have c0 := h1.cell 0
  have z0 := h1.frozen 0
  simp only [List.getElem?_toArray, List.getElem?_cons_zero] at c0
  obtain ⟨so, sc, rfl, _, _⟩ := h2.shape
  obtain ⟨bo, bc, rfl, _, _⟩ := hb.shape
  have HS := Lib.hid (src_bs hb)
  have HG := Lib.hid h2
  have H1 := Lib.hid h1
  clear h1 h2 hb
  go_enter Try.func51, Try.ntmps51
  go_wp2_with (refine wp_append_g rfl _ _ rfl Try.underlying58 infoU8 rfl (by omega) (by omega) rfl rfl HG.out HS.out (by omega) ?_)
  intro v6 w6 hg6 ht6 hn6
  obtain ⟨vo, vc, rfl, _, _⟩ := hg6.shape
  have hne : ¬ (blkOf (.slice so out.length sc) = some S) := fun e => Gs.ne HG.out H1.out ht e rfl
  have hB := H1.out.turned ht6 hne
  have c6 := hB.cell 0
  have z6 := hB.frozen 0
  simp only [List.getElem?_toArray, List.getElem?_cons_zero] at c6
  have HP : Hid (PutP S ty rest (out ++ l) (blkOf (.slice so out.length sc)) w (.returned (.tuple #[])) (w6.setCell ⟨S, 0, none⟩ (.slice vo (out.length + l.length) vc))) := by
    have hg7 : Og w6 (.slice vo (out.length + l.length) vc) (out ++ l) := by
      show Gs 5 1 w6 (.slice vo (out.length + l.length) vc) (out ++ l).length (u8s (out ++ l))
      rw [List.length_append, u8s, List.map_append]; exact hg6
    have hT : Turned (fun k => k = S) w6 (w6.setCell ⟨S, 0, none⟩ (.slice vo (out.length + l.length) vc)) := (Turned.refl (fun k => k = S) w6).setCell (p := ⟨S, 0, none⟩) (.inl rfl) (.slice vo (out.length + l.length) vc)
    have hne6 : ∀ k, blkOf (.slice vo (out.length + l.length) vc) = some k → ¬ (k = S) := fun k hk => Gs.ne hg7 hB ht hk
    refine ⟨blkOf (.slice vo (out.length + l.length) vc), rfl, ⟨(.slice vo (out.length + l.length) vc), ?_, Gs.turned hg7 hT hne6, rfl⟩, ?_, hn6⟩
    · have := hB.setCell 0 (.slice vo (out.length + l.length) vc)
      simpa using this
    · exact (ht6.mono (fun k hk => .inr hk)).trans hT (fun k hk => .inl (.inl hk))
  clear hg6 ht6 hn6 hne HG HS H1 hB
  go_wp2
  go_end0
  exact HP.out
/-- The bytes of a number, so far. -/
structure LnI (S : Nat) (ty : TypeId) (rest : List Value) (out : List Int) (g : Option Nat) (w : World) (m n : Nat) (W : World) : Prop where
  p : ∃ g' o', Lw W S ty rest (out ++ o') g' ∧ num m = o' ++ num n ∧ (∀ k, g' = some k → g = some k ∨ w.heap.size ≤ k)
  u : Turned (fun k => k = S ∨ g = some k) w W
theorem or128 {x : Int} (h0 : 0 ≤ x) (h1 : x < 256) : bits .or .u8 x 128 = x % 128 + 128 := by
  have : ∀ x : Fin 256, bits .or .u8 ((x.val : Nat) : Int) 128 = ((x.val : Nat) : Int) % 128 + 128 := by decide +kernel
  have := this ⟨x.toNat, by omega⟩
  rw [show (((⟨x.toNat, by omega⟩ : Fin 256).val : Nat) : Int) = x by simp; omega] at this
  exact this
theorem LnI.step {S : Nat} {ty : TypeId} {rest : List Value} {out : List Int} {g : Option Nat} {w : World} {wr : World} {x : Int} {o' : List Int} {g' : Option Nat} {e : Ending} {w1 : World} (hS : S < w.heap.size) (hg : ∀ k, g = some k → k < w.heap.size) (hgn : ∀ k, g' = some k → g = some k ∨ w.heap.size ≤ k) (hu : Turned (fun k => k = S ∨ g = some k) w wr)
    (h : PutP S ty rest (out ++ o' ++ [x]) g' (wr.alloc (.cells #[.int .u8 x] 5)) e w1) : e = .returned (.tuple #[]) ∧ (∃ g'', Lw w1 S ty rest (out ++ (o' ++ [x])) g'' ∧ (∀ k, g'' = some k → g = some k ∨ w.heap.size ≤ k)) ∧ Turned (fun k => k = S ∨ g = some k) w w1 := by
  obtain ⟨g2, he, hl, ht, hn⟩ := h
  have hz := hu.size
  refine ⟨he, ⟨g2, by rw [← List.append_assoc]; exact hl, fun k hk => ?_⟩, (hu.alloc _).trans ht (fun k hk => ?_)⟩
  · rcases hn k hk with e | e
    · exact hgn k e
    · right; simp at e; omega
  · rcases hk with rfl | hk
    · exact .inl (.inl rfl)
    · rcases hgn k hk with e | e
      · exact .inl (.inr e)
      · exact .inr e
theorem lnum_any {w : World} {S : Nat} {ty : TypeId} {rest : List Value} {out : List Int} {g : Option Nat} (m : Nat) (hm : m < 2 ^ 63) (h : Lw w S ty rest out g) (ht : ty ≠ 5) (hl : out.length ≤ 900000) :
    Calls Try.prog 52 #[.pointer (some ⟨S, 0, none⟩), .int .i64 m] w fun e w' => PutP S ty rest (out ++ num m) g w e w' := by
  have HL := Lib.hid (num_len 8 (n := m) (by omega))
  have H0 : Hid (LnI S ty rest out g w m m w) := ⟨⟨g, [], by simpa using h, rfl, fun k hk => .inl hk⟩, Turned.refl _ _⟩
  have HS := Lib.hid (And.intro h.lt (fun k (hk : g = some k) => h.lt' hk))
  clear h hm
  go_enter Try.func52, Try.ntmps52
  go_wp2_with fail
  go_loopw [1] (fun nv wr => ∃ (n : Nat), n ≤ m ∧ nv = .int .i64 (n : Int) ∧ Hid (LnI S ty rest out g w m n wr)) (fun nv _ => (intOf nv).toNat)
  case atStart => exact ⟨m, by omega, rfl, H0.out⟩
  case round =>
    obtain ⟨n, hn, rfl, HI⟩ := hrel
    obtain ⟨⟨g', o', hw, ho, hgn⟩, hu⟩ := HI.out
    have hol : o'.length ≤ 10 := by
      have h1 := congrArg List.length ho
      rw [List.length_append] at h1
      have h2 := HL.out
      omega
    by_cases h : 128 ≤ n
    · have h' : (128 : Int) ≤ (n : Int) := by omega
      have hor := or128 (x := (n : Int) % 256) (by omega) (by omega)
      have HC := Lib.hid (put_any (l := [(n : Int) % 256 % 128 + 128]) (hw.below (bel1 wr (.cells #[.int .u8 ((n : Int) % 256 % 128 + 128)] 5))) ht (show Bs (wr.alloc (.cells #[.int .u8 ((n : Int) % 256 % 128 + 128)] 5)) (.slice (some ⟨wr.heap.size, 0, none⟩) 1 1) [(n : Int) % 256 % 128 + 128] from ⟨⟨rfl, _, 1, rfl, by simp, by unfold maxLen; simp, fun _ => ⟨_, _, rfl, (blk_new wr _ _).range 0 _ rfl⟩⟩, fun x hx => by simp at hx; omega⟩) (by simp; omega))
      have HX : Hid (num m = (o' ++ [(n : Int) % 256 % 128 + 128]) ++ num (n / 128)) := by
        rw [ho, num_big h, show (((n % 128 : Nat) : Int)) = (n : Int) % 256 % 128 by omega]
        exact Lib.hid (by simp)
      have HG := Lib.hid (And.intro hgn hu)
      have HO := Lib.hid hor
      clear hw ho hgn hu hor HI
      go_wp2_with fail
      rw [HO.out]
      refine HC.out.mono ?_
      rintro e w1 hp
      obtain ⟨rfl, ⟨g2, hl2, hn2⟩, hu2⟩ := LnI.step HS.out.1 HS.out.2 HG.out.1 HG.out.2 hp
      have HN : Hid (LnI S ty rest out g w m (n / 128) w1) := ⟨⟨g2, _, hl2, HX.out, hn2⟩, hu2⟩
      clear hp hl2 hn2 hu2 HC HX HG HO
      go_wp2
      refine ⟨⟨n / 128, by omega, by go_num, HN⟩, ?_⟩
      simp [intOf]; omega
    · have h' : (n : Int) < 128 := by omega
      have HC := Lib.hid (put_any (l := [(n : Int)]) (hw.below (bel1 wr (.cells #[.int .u8 (n : Int)] 5))) ht (show Bs (wr.alloc (.cells #[.int .u8 (n : Int)] 5)) (.slice (some ⟨wr.heap.size, 0, none⟩) 1 1) [(n : Int)] from ⟨⟨rfl, _, 1, rfl, by simp, by unfold maxLen; simp, fun _ => ⟨_, _, rfl, (blk_new wr _ _).range 0 _ rfl⟩⟩, fun x hx => by simp at hx; omega⟩) (by simp; omega))
      have HX : Hid (num m = o' ++ [(n : Int)]) := by
        rw [ho, num_small (n := n) (by omega)]
        exact Lib.hid rfl
      have HG := Lib.hid (And.intro hgn hu)
      clear hw ho hgn hu HI
      go_wp2_with fail
      refine HC.out.mono ?_
      rintro e w1 hp
      obtain ⟨rfl, ⟨g2, hl2, hn2⟩, hu2⟩ := LnI.step HS.out.1 HS.out.2 HG.out.1 HG.out.2 hp
      have HN : Hid (PutP S ty rest (out ++ num m) g w (.returned (.tuple #[])) w1) := ⟨g2, rfl, by rw [HX.out]; exact hl2, hu2, hn2⟩
      clear hp hl2 hn2 hu2 HC HX HG
      go_wp2
      go_end0
      exact HN.out
end Go.Proofs.Ytjffclcjijpmiaa.LG

/-
  Layer 3: what some bytes have together: Union and Get of package shadow, over the closure that each hands bytes to: walks.
-/
import Derived.Test.YtepmndadbikijaaLeaf
import Derived.StillTailTactics
import Derived.RegionTactic
namespace Go.Proofs.Ytepmndadbikijaa
open Go.RowKit
set_option maxHeartbeats 1000000

theorem add_at (g o k : Nat) : (⟨g, o, none⟩ : Addr).add k = ⟨g, o + k, none⟩ := by unfold Addr.add; split <;> simp_all
theorem ShIs.cellAt {w : World} {S mb P : Nat} {l : List Int} {G : Nat → Nat} {D : DataW Unit} (h : ShIs w S mb P l G D) {p k : Nat} (hk : k < 64) : w.cell? ((pageAt S l G p).add k) = some (.int .u32 (at0 l (64 * p + k))) := by
  unfold pageAt
  cases hq : priv l p with
  | true => rw [if_pos rfl, add_at, Nat.zero_add]; exact (h.cellPage hq hk).1
  | false => rw [if_neg (by simp), add_at, not_priv h.bytes.len hq hk]; exact h.cellNought hk
theorem boxed_cell {w : World} {B : Nat} {v : Value} {t : TypeId} (h : w.heap[B]? = some (.cells #[v] t (0, 0))) : w.cell? ⟨B, 0, none⟩ = some v ∧ w.frozen? ⟨B, 0, none⟩ = false := by simp [World.cell?, World.frozen?, h]
theorem boxed_set {w : World} {B : Nat} {v : Value} {t : TypeId} (h : w.heap[B]? = some (.cells #[v] t (0, 0))) (u : Value) : (w.setCell ⟨B, 0, none⟩ u).heap[B]? = some (.cells #[u] t (0, 0)) := by
  simp [World.setCell, Array.getElem?_modify, h]

theorem Union1_any {w : World} {S mb P : Nat} {l : List Int} {G : Nat → Nat} {D : DataW Unit} (h : ShIs w S mb P l G D) {p k : Nat} (hp : p < P) (hk : k < 64) (BU BS : Nat) (u : Int) (hu : S16 u)
    (b1 : w.heap[BU]? = some (.cells #[.int .u32 u] 26 (0, 0))) (b2 : w.heap[BS]? = some (.cells #[.pointer (some ⟨S, 0, none⟩)] 22 (0, 0))) :
    Calls Try.prog 35 #[.int .i64 (p : Int), .int .i64 (k : Int), .pointer (some ⟨BU, 0, none⟩), .pointer (some ⟨BS, 0, none⟩)] w fun e w' => (∃ v, e = .returned v) ∧ w' = w.drew.setCell ⟨BU, 0, none⟩ (.int .u32 (orI u (at0 l (64 * p + k)))) := by
  obtain ⟨c1, f1⟩ := boxed_cell b1
  obtain ⟨c2, f2⟩ := boxed_cell b2
  have HP : Hid (∀ W, W = w.drew → Calls Try.prog 36 #[.pointer (some ⟨S, 0, none⟩), .int .i64 (p : Int)] W fun e w' => e = .returned (.pointer (some (pageAt S l G p))) ∧ W = w') := fun W e => by subst e; exact page_any (w := w.drew) (h.kept' (fun _ _ => rfl)) hp
  have cP := h.cellAt (p := p) hk
  have hor := orI_bits u (at0 l (64 * p + k)) hu.w32 (h.bytes.at_ _).w32
  have k0 : (0 : Int) ≤ k := by omega
  have k1 : (k : Int) < 64 := by omega
  generalize pageAt S l G p = A at HP cP
  generalize at0 l (64 * p + k) = x at cP hor ⊢
  clear h b1 b2 hp hk
  go_enter Try.func35, Try.ntmps35
  go_wp2
  refine wp_region_still_tail 9 (by kernel_rfl) (by kernel_rfl) ?_
  simp only [List.take_succ_cons, List.take_zero, List.drop_succ_cons, List.drop_zero]
  still_step
  still_step
  still_step
  still_call ((HP.out _ rfl).mono fun e w' h => ⟨h.1, h.2.symm⟩)
  still_step
  still_step
  still_step
  still_step
  still_step
  refine wpStill_nil ?_
  change wpList _ _ _ _ _ w.drew
  have c1' : w.drew.cell? ⟨BU, 0, none⟩ = some (.int .u32 u) := c1
  have f1' : w.drew.frozen? ⟨BU, 0, none⟩ = false := f1
  obtain ⟨w2, hw2⟩ : ∃ w2, w2 = w.drew := ⟨_, rfl⟩
  rw [← hw2] at c1' f1' ⊢
  have HW := Lib.hid hw2
  clear c1 f1 cP c2 f2 HP hw2
  go_wp2
  go_end0
  exact ⟨⟨_, rfl⟩, by rw [HW.out]⟩

/-- each, over the closure of Union: what holds behind k bytes. -/
theorem eachU_any (c1 c2 : Value) (a n : Nat) (ha : a + n ≤ 2048) (I : Nat → World → Prop) (w : World) (h0 : I 0 w)
    (hstep : ∀ k W, k < n → I k W → Calls Try.prog 35 #[.int .i64 (((a + k) / 64 : Nat) : Int), .int .i64 (((a + k) % 64 : Nat) : Int), c1, c2] W fun e W' => (∃ v, e = .returned v) ∧ I (k + 1) W') :
    Calls Try.prog 34 #[.int .i64 (a : Int), .int .i64 (n : Int), .func (.func 35) #[] #[c1, c2]] w fun e w' => (∃ v, e = .returned v) ∧ I n w' := by
  have HS := Lib.hid hstep
  clear hstep
  go_enter Try.func34, Try.ntmps34
  go_wp2
  go_loopw [6] (fun i wr => ∃ k : Nat, k ≤ n ∧ i = .int .i64 ((a + k : Nat) : Int) ∧ Hid (I k wr)) (fun i _ => a + n - (intOf i).toNat)
  case atStart => exact ⟨0, by omega, rfl, h0⟩
  case round =>
    obtain ⟨k, hk, rfl, hI⟩ := hrel
    by_cases hlt : k < n
    · go_wp2_with fail
      have e1 : ((a : Int) + (k : Int)) / 64 = (((a + k) / 64 : Nat) : Int) := by omega
      have e2 : ((a : Int) + (k : Int)) % 64 = (((a + k) % 64 : Nat) : Int) := by omega
      rw [e1, e2]
      refine (HS.out k _ hlt hI.out).mono ?_
      rintro e W' ⟨⟨v, rfl⟩, hI'⟩
      clear e1 e2
      go_wp2
      go_roundw
      case rel => exact ⟨k + 1, by omega, by go_num, hI'⟩
      case measure => simp [intOf]; omega
    · go_wp2
      go_end0
      obtain rfl : k = n := by omega
      exact ⟨⟨_, rfl⟩, hI.out⟩

def UnionIs (w : World) (BU BS S : Nat) (l : List Int) (a k : Nat) (W : World) : Prop :=
  W.heap[BU]? = some (.cells #[.int .u32 (unionL l a k)] 26 (0, 0)) ∧ W.heap[BS]? = some (.cells #[.pointer (some ⟨S, 0, none⟩)] 22 (0, 0)) ∧ Below w.heap.size w W
/-- What Union tells. -/
def unionV (P : Nat) (l : List Int) (a n : Int) : Int := if insB P a n = true then unionL l a.toNat n.toNat else 0
def unionE (P : Nat) (a n : Int) : Int := if insB P a n = true then 0 else 4
theorem Union_nil (a n : Int) (w : World) : Calls Try.prog 13 #[.pointer none, .int .i64 a, .int .i64 n] w fun e w' => e = .returned (.tuple #[.int .u32 0, .int .i64 1]) ∧ Below w.heap.size w w' := by
  go_enter Try.func13, Try.ntmps13
  go_wp2_with (go_at_call 33; refine (refusal_nil _ _ _ _).mono ?_; rintro e w' ⟨rfl, rfl⟩)
  go_ret2
  exact ⟨rfl, (Below.refl _ _).alloc (Nat.le_refl _) _⟩
theorem Union_any {w : World} {S P : Nat} {l : List Int} {F : Nat → Prop} (h : Sh w S P l F) (a n : Int) :
    Calls Try.prog 13 #[.pointer (some ⟨S, 0, none⟩), .int .i64 a, .int .i64 n] w fun e w' => e = .returned (.tuple #[.int .u32 (unionV P l a n), .int .i64 (unionE P a n)]) ∧ Below w.heap.size w w' := by
  obtain ⟨c0, h1, h2⟩ := h.cell
  have hSl := h.lt S h.mem
  have HR : Hid (∀ W, W.cell? ⟨S, 32, none⟩ = w.cell? ⟨S, 32, none⟩ → Calls Try.prog 33 #[.pointer (some ⟨S, 0, none⟩), .int .i64 a, .int .i64 n, .int .u32 0] W fun e w' => e = .returned (.int .i64 (unionE P a n)) ∧ W = w') := fun W hW => by
    have := refusal_cell S P a n 0 (by simp [W32]) W (hW.trans c0) h1 h2
    simpa [refR, unionE] using this
  obtain ⟨mb, G, D, rfl, h⟩ := h
  have hb := h.bytes
  by_cases hi : insB P a n = true
  · obtain ⟨i, k, rfl, rfl, hik⟩ := insB_yes hi
    have e0 : unionE P (i : Int) (k : Int) = 0 := by simp [unionE, hi]
    have ev : unionV P l (i : Int) (k : Int) = unionL l i k := by simp [unionV, hi]
    rw [e0] at HR ⊢
    have HE : Hid (∀ W, UnionIs w (w.heap.size + 1) w.heap.size S l i 0 W → Calls Try.prog 34 #[.int .i64 (i : Int), .int .i64 (k : Int), .func (.func 35) #[] #[.pointer (some ⟨w.heap.size + 1, 0, none⟩), .pointer (some ⟨w.heap.size, 0, none⟩)]] W fun e w' => (∃ v, e = .returned v) ∧ UnionIs w (w.heap.size + 1) w.heap.size S l i k w') := fun W hW => by
      refine eachU_any _ _ i k (by omega) (UnionIs w (w.heap.size + 1) w.heap.size S l i) W hW ?_
      rintro j W1 hj ⟨u1, u2, u3⟩
      have hP : (i + j) / 64 < P := by omega
      have hs1 := h.kept' (w' := W1) (fun b hb' => u3.block b (h.lt b hb'))
      refine (Union1_any hs1 hP (by omega) (w.heap.size + 1) w.heap.size (unionL l i j) (union_s16 hb i j) u1 u2).mono ?_
      rintro e W2 ⟨hv, rfl⟩
      refine ⟨hv, ?_, ?_, ?_⟩
      · have := boxed_set (w := W1.drew) u1 (.int .u32 (orI (unionL l i j) (at0 l (64 * ((i + j) / 64) + (i + j) % 64))))
        rw [this, show 64 * ((i + j) / 64) + (i + j) % 64 = i + j by omega]
        rfl
      · rw [Below.heap_setCell _ _ _ _ (by simp)]; exact u2
      · exact u3.drew.setCell (p := ⟨w.heap.size + 1, 0, none⟩) (by simp) _
    have EV := Lib.hid ev
    have HU0 : Hid (UnionIs w (w.heap.size + 1) w.heap.size S l i 0 ((w.alloc (.cells #[.pointer (some ⟨S, 0, none⟩)] 22)).alloc (.cells #[.int .u32 0] 26))) := by
      refine ⟨?_, ?_, ((Below.refl _ _).alloc (Nat.le_refl _) _).alloc (by simp) _⟩
      · have := heap_alloc_new (w.alloc (.cells #[.pointer (some ⟨S, 0, none⟩)] 22)) (.cells #[.int .u32 0] 26)
        rwa [World.size_alloc] at this
      · rw [Below.heap_alloc _ _ _ (by simp)]; exact heap_alloc_new w _
    clear e0 hi h ev
    go_enter Try.func13, Try.ntmps13
    go_wp2_with (first | (go_at_call 33; refine (HR.out _ (World.cell?_alloc_lt _ _ _ (by simpa using hSl))).mono ?_; rintro e w' ⟨rfl, rfl⟩) | (go_at_call 34; refine (HE.out _ HU0.out).mono ?_; rintro e w' ⟨⟨v, rfl⟩, hu⟩; obtain ⟨c9, f9⟩ := boxed_cell hu.1; have HU := Lib.hid hu.2.2; clear hu))
    go_ret2
    exact ⟨by rw [EV.out]; rfl, HU.out⟩
  · have e0 : unionE P a n = 4 := by simp [unionE, hi]
    have ev : unionV P l a n = 0 := by simp [unionV, hi]
    rw [e0] at HR
    rw [e0, ev]
    clear e0 ev hi h
    go_enter Try.func13, Try.ntmps13
    go_wp2_with (go_at_call 33; refine (HR.out _ (World.cell?_alloc_lt _ _ _ (by simpa using hSl))).mono ?_; rintro e w' ⟨rfl, rfl⟩)
    go_ret2
    exact ⟨rfl, (Below.refl _ _).alloc (Nat.le_refl _) _⟩
theorem Get_nil (a : Int) (w : World) : Calls Try.prog 12 #[.pointer none, .int .i64 a] w fun e w' => e = .returned (.tuple #[.int .u32 0, .int .i64 1]) ∧ Below w.heap.size w w' := by
  go_enter Try.func12, Try.ntmps12
  go_wp2_with (go_at_call 13; refine (Union_nil _ _ _).mono ?_; rintro e w' ⟨rfl, hb⟩)
  go_ret2
  exact ⟨rfl, hb⟩
theorem Get_any {w : World} {S P : Nat} {l : List Int} {F : Nat → Prop} (h : Sh w S P l F) (a : Int) :
    Calls Try.prog 12 #[.pointer (some ⟨S, 0, none⟩), .int .i64 a] w fun e w' => e = .returned (.tuple #[.int .u32 (unionV P l a 1), .int .i64 (unionE P a 1)]) ∧ Below w.heap.size w w' := by
  have HU := Lib.hid (Union_any h a 1)
  clear h
  go_enter Try.func12, Try.ntmps12
  go_wp2_with (go_at_call 13; refine (HU.out).mono ?_; rintro e w' ⟨rfl, hb⟩)
  go_ret2
  exact ⟨rfl, hb⟩
end Go.Proofs.Ytepmndadbikijaa

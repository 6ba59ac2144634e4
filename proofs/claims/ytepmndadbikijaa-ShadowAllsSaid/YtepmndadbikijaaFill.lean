/-
  Layer 3: Fill and Set of package shadow, over the closure that each hands bytes to: walks.
-/
import Derived.Test.YtepmndadbikijaaPutW
namespace Go.Proofs.Ytepmndadbikijaa
open Go.RowKit
set_option maxHeartbeats 1000000

theorem PutPost.step {w w1 w2 : World} {S P : Nat} {l l' : List Int} {F F1 : Nat → Prop} (t1 : Turned F w w1) (hF : ∀ j, F1 j → F j ∨ w.heap.size ≤ j) (h : PutPost w1 S P l' F1 w2) : PutPost w S P l' F w2 := by
  obtain ⟨F2, h1, h2, h3⟩ := h
  refine ⟨F2, h1, t1.trans h2 hF, fun j hj => ?_⟩
  rcases h3 j hj with h4 | h4
  · exact hF j h4
  · right; have := t1.size; omega
theorem PutPost.refl {w : World} {S P : Nat} {l : List Int} {F : Nat → Prop} (h : Sh w S P l F) : PutPost w S P l F w := ⟨F, h, Turned.refl _ _, fun _ hj => .inl hj⟩
theorem Fill1_any {w : World} {S P : Nat} {l : List Int} {F : Nat → Prop} (h : Sh w S P l F) {p k : Nat} (hp : p < P) (hk : k < 64) (x : Int) (hx : S16 x) (BS BX : Nat)
    (b1 : w.heap[BS]? = some (.cells #[.pointer (some ⟨S, 0, none⟩)] 22 (0, 0))) (b2 : w.heap[BX]? = some (.cells #[.int .u32 x] 26 (0, 0))) :
    Calls Try.prog 39 #[.int .i64 (p : Int), .int .i64 (k : Int), .pointer (some ⟨BS, 0, none⟩), .pointer (some ⟨BX, 0, none⟩)] w fun e w' => (∃ v, e = .returned v) ∧ PutPost w S P (l.set (64 * p + k) x) F w' := by
  obtain ⟨c1, f1⟩ := boxed_cell b1
  obtain ⟨c2, f2⟩ := boxed_cell b2
  have HP := Lib.hid (put_any h hp hk x hx)
  clear h b1 b2 hx hp hk
  go_enter Try.func39, Try.ntmps39
  go_wp2_with (go_at_call 40; refine (HP.out).mono ?_; rintro e w' ⟨⟨v, rfl⟩, hp⟩; have HQ := Lib.hid hp; clear hp)
  go_end0
  exact ⟨⟨_, rfl⟩, HQ.out⟩
theorem eachF_any (c1 c2 : Value) (a n : Nat) (ha : a + n ≤ 2048) (I : Nat → World → Prop) (w : World) (h0 : I 0 w)
    (hstep : ∀ k W, k < n → I k W → Calls Try.prog 39 #[.int .i64 (((a + k) / 64 : Nat) : Int), .int .i64 (((a + k) % 64 : Nat) : Int), c1, c2] W fun e W' => (∃ v, e = .returned v) ∧ I (k + 1) W') :
    Calls Try.prog 34 #[.int .i64 (a : Int), .int .i64 (n : Int), .func (.func 39) #[] #[c1, c2]] w fun e w' => (∃ v, e = .returned v) ∧ I n w' := by
  have HS := Lib.hid hstep
  clear hstep
  go_enter Try.func34, Try.ntmps34
  go_wp2
  go_loopw [6] (fun i wr => ∃ k : Nat, k ≤ n ∧ i = .int .i64 ((a + k : Nat) : Int) ∧ Hid (I k wr)) (fun i _ => a + n - (intOf i).toNat)
  case atStart => exact ⟨0, by omega, rfl, h0⟩
  case round =>
    obtain ⟨k, hk, rfl, hI⟩ := hrel
    by_cases hlt : k < n
    · go_wp2_with fail
      have e1 : ((a : Int) + (k : Int)) / 64 = (((a + k) / 64 : Nat) : Int) := by omega
      have e2 : ((a : Int) + (k : Int)) % 64 = (((a + k) % 64 : Nat) : Int) := by omega
      rw [e1, e2]
      refine (HS.out k _ hlt hI.out).mono ?_
      rintro e W' ⟨⟨v, rfl⟩, hI'⟩
      clear e1 e2
      go_wp2
      go_roundw
      case rel => exact ⟨k + 1, by omega, by go_num, hI'⟩
      case measure => simp [intOf]; omega
    · go_wp2
      go_end0
      obtain rfl : k = n := by omega
      exact ⟨⟨_, rfl⟩, hI.out⟩

/-- The bytes' sets behind a fill. -/
def fillR (P : Nat) (l : List Int) (a n x : Int) : List Int := if refR P a n x = 0 then fillL l a.toNat x n.toNat else l
theorem refR_ok {P : Nat} {a n x : Int} (h : refR P a n x = 0) : x < 65536 ∧ insB P a n = true := by
  unfold refR at h
  split at h
  · cases h
  · split at h
    · exact ⟨by omega, by assumption⟩
    · cases h
theorem Bytes.fillR {P : Nat} {l : List Int} (h : Bytes P l) (a n : Int) {x : Int} (hx : W32 x) : Bytes P (fillR P l a n x) := by
  unfold Go.Proofs.Ytepmndadbikijaa.fillR
  split
  · exact h.fill _ ⟨hx.1, (refR_ok ‹_›).1⟩ _
  · exact h
def FillIs (w : World) (S P : Nat) (l : List Int) (x : Int) (a : Nat) (F : Nat → Prop) (k : Nat) (W : World) : Prop :=
  W.heap[w.heap.size]? = some (.cells #[.pointer (some ⟨S, 0, none⟩)] 22 (0, 0)) ∧ W.heap[w.heap.size + 1]? = some (.cells #[.int .u32 x] 26 (0, 0)) ∧
    ∃ F', Sh W S P (fillL l a x k) F' ∧ Turned F w W ∧ ∀ j, F' j → F j ∨ w.heap.size + 2 ≤ j
theorem Fill_nil (a n x : Int) (w : World) : Calls Try.prog 17 #[.pointer none, .int .i64 a, .int .i64 n, .int .u32 x] w fun e w' => e = .returned (.int .i64 1) ∧ Below w.heap.size w w' := by
  go_enter Try.func17, Try.ntmps17
  go_wp2_with (go_at_call 33; refine (refusal_nil _ _ _ _).mono ?_; rintro e w' ⟨rfl, rfl⟩)
  go_ret
  exact ⟨rfl, ((Below.refl _ _).alloc (Nat.le_refl _) _).alloc (by simp) _⟩
theorem Fill_any {w : World} {S P : Nat} {l : List Int} {F : Nat → Prop} (h : Sh w S P l F) (a n x : Int) (hx : W32 x) :
    Calls Try.prog 17 #[.pointer (some ⟨S, 0, none⟩), .int .i64 a, .int .i64 n, .int .u32 x] w fun e w' => e = .returned (.int .i64 (refR P a n x)) ∧ PutPost w S P (fillR P l a n x) F w' := by
  obtain ⟨c0, h1, h2⟩ := h.cell
  have hSl := h.lt S h.mem
  have HR : Hid (∀ W, W.cell? ⟨S, 32, none⟩ = w.cell? ⟨S, 32, none⟩ → Calls Try.prog 33 #[.pointer (some ⟨S, 0, none⟩), .int .i64 a, .int .i64 n, .int .u32 x] W fun e w' => e = .returned (.int .i64 (refR P a n x)) ∧ W = w') := fun W hW => refusal_cell S P a n x hx W (hW.trans c0) h1 h2
  have hcl : ((w.alloc (.cells #[.pointer (some ⟨S, 0, none⟩)] 22)).alloc (.cells #[.int .u32 x] 26)).cell? ⟨S, 32, none⟩ = w.cell? ⟨S, 32, none⟩ := by
    rw [World.cell?_alloc_lt _ _ _ (by simp; omega), World.cell?_alloc_lt _ _ _ (by simpa using hSl)]
  have HCL := Lib.hid hcl
  have hA : Below w.heap.size w ((w.alloc (.cells #[.pointer (some ⟨S, 0, none⟩)] 22)).alloc (.cells #[.int .u32 x] 26)) := ((Below.refl _ _).alloc (Nat.le_refl _) _).alloc (by simp) _
  by_cases hi : refR P a n x = 0
  · obtain ⟨hx1, hi2⟩ := refR_ok hi
    have hxs : S16 x := ⟨hx.1, hx1⟩
    obtain ⟨i, k, rfl, rfl, hik⟩ := insB_yes hi2
    have hP32 := h2
    have HE : Hid (∀ W, FillIs w S P l x i F 0 W → Calls Try.prog 34 #[.int .i64 (i : Int), .int .i64 (k : Int), .func (.func 39) #[] #[.pointer (some ⟨w.heap.size, 0, none⟩), .pointer (some ⟨w.heap.size + 1, 0, none⟩)]] W fun e w' => (∃ v, e = .returned v) ∧ FillIs w S P l x i F k w') := fun W hW => by
      refine eachF_any _ _ i k (by omega) (FillIs w S P l x i F) W hW ?_
      rintro j W1 hj ⟨u1, u2, F1, u3, u4, u5⟩
      refine (Fill1_any u3 (show (i + j) / 64 < P by omega) (show (i + j) % 64 < 64 by omega) x hxs w.heap.size (w.heap.size + 1) u1 u2).mono ?_
      rintro e W2 ⟨hv, F2, v1, v2, v3⟩
      rw [show 64 * ((i + j) / 64) + (i + j) % 64 = i + j by omega] at v1
      have hlt := h.lt
      have hs1 : w.heap.size + 1 < W1.heap.size := (Array.getElem?_eq_some_iff.1 u2).1
      refine ⟨hv, v2.keep u1 (fun hf => ?_), v2.keep u2 (fun hf => ?_), F2, v1, u4.trans v2 (fun j' hj' => ?_), fun j' hj' => ?_⟩
      · rcases u5 _ hf with h' | h'
        · have := hlt _ h'; omega
        · omega
      · rcases u5 _ hf with h' | h'
        · have := hlt _ h'; omega
        · omega
      · rcases u5 _ hj' with h' | h'
        · exact .inl h'
        · right; omega
      · rcases v3 _ hj' with h' | h'
        · exact u5 _ h'
        · right; omega
    have HU0 : Hid (FillIs w S P l x i F 0 ((w.alloc (.cells #[.pointer (some ⟨S, 0, none⟩)] 22)).alloc (.cells #[.int .u32 x] 26))) := by
      refine ⟨?_, ?_, F, h.below hA, Turned.of_below hA _, fun j hj => .inl hj⟩
      · rw [Below.heap_alloc _ _ _ (by simp)]; exact heap_alloc_new w _
      · have := heap_alloc_new (w.alloc (.cells #[.pointer (some ⟨S, 0, none⟩)] 22)) (.cells #[.int .u32 x] 26)
        rwa [World.size_alloc] at this
    rw [hi] at HR ⊢
    have HF : Hid (fillR P l (i : Int) (k : Int) x = fillL l i x k) := by simp [Hid, fillR, hi]
    clear h hcl hA hi hx hxs hx1 hi2
    go_enter Try.func17, Try.ntmps17
    go_wp2_with (first | (go_at_call 33; refine (HR.out _ HCL.out).mono ?_; rintro e w' ⟨rfl, rfl⟩) | (go_at_call 34; refine (HE.out _ HU0.out).mono ?_; rintro e w' ⟨⟨v, rfl⟩, hu⟩; have HU := Lib.hid hu; clear hu))
    go_ret
    obtain ⟨u1, u2, F1, u3, u4, u5⟩ := HU.out
    exact ⟨rfl, F1, by rw [HF.out]; exact u3, u4, fun j hj => by rcases u5 j hj with h' | h'; exact .inl h'; right; omega⟩
  · have hi' : (refR P a n x == 0) = false := by simpa using hi
    have HF : Hid (fillR P l a n x = l) := by simp [Hid, fillR, hi]
    have HH : Hid (Sh ((w.alloc (.cells #[.pointer (some ⟨S, 0, none⟩)] 22)).alloc (.cells #[.int .u32 x] 26)) S P l F) := h.below hA
    have HA := Lib.hid hA
    generalize refR P a n x = r at HR hi' ⊢
    clear hi h hcl hA
    go_enter Try.func17, Try.ntmps17
    go_wp2_with (first | (go_at_call 33; refine (HR.out _ HCL.out).mono ?_; rintro e w' ⟨rfl, rfl⟩))
    go_ret
    exact ⟨rfl, F, by rw [HF.out]; exact HH.out, Turned.of_below HA.out _, fun j hj => .inl hj⟩
theorem Set_nil (a x : Int) (w : World) : Calls Try.prog 16 #[.pointer none, .int .i64 a, .int .u32 x] w fun e w' => e = .returned (.int .i64 1) ∧ Below w.heap.size w w' := by
  go_enter Try.func16, Try.ntmps16
  go_wp2_with (go_at_call 17; refine (Fill_nil _ _ _ _).mono ?_; rintro e w' ⟨rfl, hb⟩)
  go_ret
  exact ⟨rfl, hb⟩
theorem Set_any {w : World} {S P : Nat} {l : List Int} {F : Nat → Prop} (h : Sh w S P l F) (a x : Int) (hx : W32 x) :
    Calls Try.prog 16 #[.pointer (some ⟨S, 0, none⟩), .int .i64 a, .int .u32 x] w fun e w' => e = .returned (.int .i64 (refR P a 1 x)) ∧ PutPost w S P (fillR P l a 1 x) F w' := by
  have HF := Lib.hid (Fill_any h a 1 x hx)
  clear h hx
  go_enter Try.func16, Try.ntmps16
  go_wp2_with (go_at_call 17; refine (HF.out).mono ?_; rintro e w' ⟨rfl, hp⟩; have HQ := Lib.hid hp; clear hp)
  go_ret
  exact ⟨rfl, HQ.out⟩
end Go.Proofs.Ytepmndadbikijaa

/-
  Layer 3: count of package shadow: how many bytes of a page have sets: walks.
-/
import Derived.Test.YtepmndadbikijaaLeaf
import Derived.RegionTactic
import Derived.ChangeAlike
namespace Go.Proofs.Ytepmndadbikijaa
open Go.RowKit
set_option maxHeartbeats 1000000

theorem set_cells {w : World} {B k : Nat} {arr : Array Value} {t : TypeId} {fr : Nat × Nat} (h : w.heap[B]? = some (.cells arr t fr)) (v : Value) : (w.setCell ⟨B, k, none⟩ v).heap[B]? = some (.cells (arr.setIfInBounds k v) t fr) := by
  simp [World.setCell, Array.getElem?_modify, h]
/-- What count leaves: at most one block turned, one cell of it. -/
structure Stored (w w' : World) (B k : Nat) (v : Value) : Prop where
  turned : Turned (fun j => j = B) w w'
  blk : ∀ arr t fr, w.heap[B]? = some (.cells arr t fr) → w'.heap[B]? = some (.cells (arr.setIfInBounds k v) t fr)
theorem Stored.set (w : World) (B k : Nat) (v : Value) : Stored w (w.setCell ⟨B, k, none⟩ v) B k v :=
  ⟨(Turned.refl (fun j => j = B) w).setCell (p := ⟨B, k, none⟩) (.inl rfl) _, fun _ _ _ h => set_cells h v⟩
theorem Stored.drew {w w' : World} {B k : Nat} {v : Value} (h : Stored w w' B k v) : Stored w w'.drew B k v := ⟨h.turned.drew, h.blk⟩
theorem Stored.again {w w' w'' : World} {B k : Nat} {v v' : Value} (h : Stored w w' B k v) (h' : Stored w' w'' B k v') : Stored w w'' B k v' :=
  ⟨h.turned.trans h'.turned (fun x hx => .inl hx), fun arr t fr hb => by
    have := h'.blk _ _ _ (h.blk _ _ _ hb)
    rw [this, Array.setIfInBounds_setIfInBounds]⟩
theorem Stored.begin {w w1 w' : World} {B k : Nat} {v : Value} (he : w1.heap = w.heap) (ho : w1.os = w.os) (ht : w1.tape = w.tape) (hu : w1.output = w.output) (h : Stored w1 w' B k v) : Stored w w' B k v :=
  ⟨⟨h.turned.os.trans ho, h.turned.tape.trans ht, h.turned.output.trans hu, by rw [← he]; exact h.turned.size, fun j hj hn => by rw [h.turned.block j (by rw [he]; exact hj) hn, he]⟩, fun arr t fr hb => h.blk arr t fr (by rw [he]; exact hb)⟩

theorem count_any (S p c : Nat) (a b : Int) (w : World) (hp : p < 32) (hc : c ≤ 64) (hab : a ≠ 0 ∨ b ≠ 0) (h1 : a ≠ 0 → 1 ≤ c) (c1 : w.cell? ⟨S, p, none⟩ = some (.int .i64 (c : Int))) (f1 : w.frozen? ⟨S, p, none⟩ = false) :
    Calls Try.prog 48 #[.pointer (some ⟨S, 0, none⟩), .int .i64 (p : Int), .int .u32 a, .int .u32 b] w fun e w' => (∃ v, e = .returned v) ∧ Stored w w' S p (.int .i64 ((c + (if b ≠ 0 then 1 else 0) - (if a ≠ 0 then 1 else 0) : Nat) : Int)) := by
  have k0 : (0 : Int) ≤ p := by omega
  have k1 : (p : Int) < 32 := by omega
  have hA : (⟨S, 0, none⟩ : Addr).add p = ⟨S, p, none⟩ := by unfold Addr.add; split <;> simp_all
  have sA : w.cell? ((⟨S, 0, none⟩ : Addr).add p) = some (.int .i64 (c : Int)) := by rw [hA]; exact c1
  have sF : w.frozen? ((⟨S, 0, none⟩ : Addr).add p) = false := by rw [hA]; exact f1
  by_cases ha : a = 0
  · have hb : b ≠ 0 := by rcases hab with h | h; exact absurd ha h; exact h
    have ea : (a == 0) = true := by simpa using ha
    have eb : (b == 0) = false := by simpa using hb
    have HV : Hid ((c + (if b ≠ 0 then 1 else 0) - (if a ≠ 0 then 1 else 0) : Nat) = c + 1) := by simp [Hid, ha, hb]
    generalize (c + (if b ≠ 0 then 1 else 0) - (if a ≠ 0 then 1 else 0) : Nat) = r at HV ⊢
    clear hab h1 ha hb
    go_enter Try.func48, Try.ntmps48
    go_wp2
    go_region
    go_end0
    refine ⟨⟨_, rfl⟩, ?_⟩
    rw [HV.out]
    exact (Stored.set w S p (.int .i64 ((c + 1 : Nat) : Int))).drew
  · have hc1 := h1 ha
    have ea : (a == 0) = false := by simpa using ha
    by_cases hb : b = 0
    · have eb : (b == 0) = true := by simpa using hb
      have HV : Hid ((c + (if b ≠ 0 then 1 else 0) - (if a ≠ 0 then 1 else 0) : Nat) = c - 1) := by simp [Hid, ha, hb]
      generalize (c + (if b ≠ 0 then 1 else 0) - (if a ≠ 0 then 1 else 0) : Nat) = r at HV ⊢
      clear hab h1 ha hb
      go_enter Try.func48, Try.ntmps48
      go_wp2
      go_region
      go_wp2
      go_end0
      refine ⟨⟨_, rfl⟩, ?_⟩
      rw [HV.out]
      have := (Stored.set w S p (.int .i64 ((c : Int) - 1))).drew
      rw [show ((c : Int) - 1) = ((c - 1 : Nat) : Int) by omega] at this ⊢
      exact this
    · have eb : (b == 0) = false := by simpa using hb
      have HV : Hid ((c + (if b ≠ 0 then 1 else 0) - (if a ≠ 0 then 1 else 0) : Nat) = c) := by simp [Hid, ha, hb]
      generalize (c + (if b ≠ 0 then 1 else 0) - (if a ≠ 0 then 1 else 0) : Nat) = r at HV ⊢
      clear hab h1 ha hb
      go_enter Try.func48, Try.ntmps48
      go_wp2
      go_region
      go_wp2
      have HS0 := Lib.hid (Stored.set w S p (.int .i64 ((c : Int) - 1))).drew
      have fz : (w.setCell ⟨S, p, none⟩ (.int .i64 ((c : Int) - 1))).frozen? ⟨S, p, none⟩ = false := by rw [World.frozen?_setCell]; exact f1
      have cz : (w.setCell ⟨S, p, none⟩ (.int .i64 ((c : Int) - 1))).cell? ⟨S, p, none⟩ = some (.int .i64 ((c : Int) - 1)) := World.cell?_setCell_same _ _ _ c1
      generalize w.setCell ⟨S, p, none⟩ (.int .i64 ((c : Int) - 1)) = w2 at HS0 fz cz ⊢
      have cz' : w2.drew.cell? ⟨S, p, none⟩ = some (.int .i64 ((c : Int) - 1)) := cz
      have fz' : w2.drew.frozen? ⟨S, p, none⟩ = false := fz
      obtain ⟨w3, hw3⟩ : ∃ w3, w3 = w2.drew := ⟨_, rfl⟩
      rw [← hw3] at cz' fz' HS0 ⊢
      clear cz fz hw3 w2 c1 f1 sA sF
      go_region
      go_end0
      refine ⟨⟨_, rfl⟩, ?_⟩
      rw [HV.out]
      exact (HS0.out.again (Stored.set w3 S p (.int .i64 (c : Int)))).drew
end Go.Proofs.Ytepmndadbikijaa

/-
  Layer 5: the walk of FramesReads.
-/
import Derived.Test.YthcipnmcmcihgaaWorks
import Derived.Test.YthcipnmcmcihgaaArgs
namespace Go.Proofs.Ythcipnmcmcihgaa
open Go.RowKit
set_option maxHeartbeats 1000000
set_option linter.unusedVariables false

def accO (s : Acc3) : Obj := .cells #[.int .u32 s.a, .int .i64 s.d, .int .u32 s.x] 36
theorem acc_cells {W : World} {b : Nat} {s : Acc3} (h : W.heap[b]? = some (accO s)) : W.cell? ⟨b, 0, none⟩ = some (.int .u32 s.a) ∧ W.cell? ⟨b, 1, none⟩ = some (.int .i64 s.d) ∧ W.cell? ⟨b, 2, none⟩ = some (.int .u32 s.x) := by
  simp [World.cell?, h, accO]
/-- Behind paged, and behind all that is made later: what was, at g; the access, at the world's first new block. -/
structure Was (w : World) (o : Obj) (l : List Int) (g c : Nat) (W : World) : Prop where
  below : Below w.heap.size w W
  box : W.heap[w.heap.size]? = some o
  row : RowAt W g l
  cap : l.length ≤ c
  lo : w.heap.size ≤ g
  byt : Byt l
  len : 64 ≤ l.length ∧ l.length ≤ 2048 ∧ l.length % 64 = 0
theorem Was.kept {w W W' : World} {o : Obj} {l : List Int} {g c : Nat} (h : Was w o l g c W) (hb : Below W.heap.size W W') : Was w o l g c W' :=
  ⟨h.below.trans (hb.mono h.below.size), by rw [hb.block _ (Array.getElem?_eq_some_iff.1 h.box).1]; exact h.box, h.row.keep (hb.block _ h.row.lt), h.cap, h.lo, h.byt, h.len⟩
theorem Was.nums {w W : World} {o : Obj} {l : List Int} {g c : Nat} (h : Was w o l g c W) : NumsIn .u8 W (.slice (some ⟨g, 0, none⟩) l.length c) l :=
  h.row.nums h.byt h.cap (by have := h.len; unfold maxLen; omega)
theorem paged_was (v : Value) (b : List Int) (p : Int) (w : World) (o : Obj) (h : NumsIn .u8 w v b) (hm : b.length ≤ 65536) :
    Calls Try.prog 17 #[v, .int .i64 p] (w.alloc o) fun e W => ∃ g c, e = .returned (.slice (some ⟨g, 0, none⟩) (pgd b p).length c) ∧ Was w o (pgd b p) g c W := by
  have hA := (Below.refl w.heap.size w).alloc (Nat.le_refl _) o
  refine (paged_any v b p (w.alloc o) (h.below hA) hm).mono ?_
  rintro e W ⟨u, rfl, g, c, rfl, hr, hc, hg, hb⟩
  have hlo := pgN_lo p
  have hhi := pgN_hi p
  have hl := pgd_length b p
  refine ⟨g, c, rfl, hA.trans (hb.mono hA.size), ?_, hr, hc, by simp at hg; omega, pgd_byt h.byt p, by omega, by omega, by omega⟩
  rw [hb.block _ (by simp)]
  exact heap_alloc_new w o

set_option maxRecDepth 100000 in
theorem FramesReads_walk (v0 : Value) (b : List Int) (p : Int) (hp : (Lit.int .i64 p).wf = true) (s : Acc3) (hs : s.Ok) (w : World) (h : NumsIn .u8 w v0 b) :
    Calls Try.prog 4 #[v0, .int .i64 p, .agg #[.int .u32 s.a, .int .i64 s.d, .int .u32 s.x]] w fun e w' => e = .returned (.bool true) ∧ Below w.heap.size w w' := by
  have HO := Lib.hid hs
  by_cases hlen : (3000 : Int) < b.length
  · obtain ⟨o, c, rfl, _, hm, _⟩ := h.form
    have HA := Lib.hid ((Below.refl w.heap.size w).alloc (Nat.le_refl _) (.cells #[.int .u32 s.a, .int .i64 s.d, .int .u32 s.x] 36))
    unfold maxLen at hm
    go_enter Try.func4, Try.ntmps4
    go_wp2_with (go_at_call 10; refine (works_any _).mono ?_; rintro e w' ⟨rfl, hb⟩)
    go_ret
    exact ⟨rfl, HA.out.trans (hb.mono HA.out.size)⟩
  · have HP := Lib.hid (paged_was v0 b p w (accO s) h (by omega))
    obtain ⟨o, c, rfl, _, hm, _⟩ := h.form
    unfold maxLen at hm
    generalize pgd b p = l at HP
    clear h
    go_enter Try.func4, Try.ntmps4
    go_wp2_with fail
    refine HP.out.mono ?_
    rintro e w1 ⟨g, c1, rfl, hW⟩
    have W1 := Lib.hid hW
    clear hW
    go_wp2_with fail
    refine (At.of (w := w1) _ W1.out.nums W1.out.len.1 W1.out.len.2.1 W1.out.len.2.2 (Below.refl _ _)).mono ?_
    rintro e w2 ⟨S, rfl, hAt, _⟩
    have A2 := Lib.hid hAt
    have W2 := Lib.hid (W1.out.kept hAt.kept)
    obtain ⟨a0, a1, a2⟩ := acc_cells W2.out.box
    clear hAt
    go_wp2_with fail
    refine (A2.out.read s.a s.d HO.out.a HO.out.d).mono ?_
    rintro e w3 ⟨rfl, hAt⟩
    have A3 := Lib.hid hAt
    have W3 := Lib.hid (W1.out.kept hAt.kept)
    clear hAt a0 a1 a2
    obtain ⟨a0, a1, a2⟩ := acc_cells W3.out.box
    go_wp2_with fail
    refine (Refused_any _ l.length c1 (by have := W1.out.len; omega) s.a s.d HO.out.a w3).mono ?_
    rintro e w4 ⟨rfl, rfl⟩
    by_cases hz : refE l.length s.a s.d = 0
    · obtain ⟨hw, hm4, hl⟩ := refE_zero hz
      have HR : Hid (Calls Try.prog 20 #[.slice (some ⟨g, 0, none⟩) l.length c1, .int .u32 s.a, .int .i64 s.d] w3 fun e w' => e = .returned (.int .u32 (rdE l s.a s.d)) ∧ w3 = w') := by
        obtain ⟨k, hk⟩ := Int.eq_ofNat_of_zero_le HO.out.a.1
        have := W3.out.len
        have hrd : rdE l s.a s.d = rdV l k s.d := by unfold rdE; rw [hz, hk]; simp
        rw [hrd, hk]
        refine RRead_any W3.out.row W3.out.byt W3.out.cap (by omega) k s.d hw ?_
        rw [hk] at hm4 hl
        rcases hw with e | e
        · rw [e]; omega
        · rw [e] at hm4 ⊢; omega
      rw [hz]
      clear hz hw hm4 hl hlen
      generalize rdE l s.a s.d = r at HR ⊢
      go_wp2_with (first | (go_at_call 13; refine (num_any _ _).mono ?_; rintro e w' ⟨rfl, rfl⟩) | (go_at_call 20; refine HR.out.mono ?_; rintro e w' ⟨rfl, rfl⟩) | (go_at_call 10; refine (works_any _).mono ?_; rintro e w' ⟨rfl, hb⟩))
      go_ret
      exact ⟨rfl, W3.out.below.trans (hb.mono W3.out.below.size)⟩
    · have hrd : rdE l s.a s.d = 0 := by unfold rdE; rw [if_neg hz]
      rw [hrd]
      have hz1 : (refE l.length s.a s.d != 0) = true := by simpa using hz
      clear hlen hrd
      generalize refE l.length s.a s.d = r at hz hz1 ⊢
      go_wp2_with (first | (go_at_call 13; refine (num_any _ _).mono ?_; rintro e w' ⟨rfl, rfl⟩) | (go_at_call 10; refine (works_any _).mono ?_; rintro e w' ⟨rfl, hb⟩))
      go_ret
      exact ⟨rfl, W3.out.below.trans (hb.mono W3.out.below.size)⟩
end Go.Proofs.Ythcipnmcmcihgaa

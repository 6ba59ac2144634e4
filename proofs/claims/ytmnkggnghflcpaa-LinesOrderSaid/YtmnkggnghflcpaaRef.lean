/-
  Layer 7: the document's answers: SetMask, Raise, Raised, Waits, Push, Take, Tell: walks. Written by gen_ref.py.
-/
import Derived.Test.YtmnkggnghflcpaaRegion
import Derived.Test.YtmnkggnghflcpaaWants
import Derived.Deep.Slices
namespace Go.Proofs.Ytmnkggnghflcpaa
open Go.RowKit
set_option maxHeartbeats 1000000
set_option linter.unusedVariables false
set_option linter.unusedSimpArgs false

/-- The document's zero lines, as cells. -/
abbrev zR : Array Value := #[.int .u32 0, .int .u32 0, .bool false, .bool false, .bool false, .bool false, .slice none 0 0, .int .i64 0, .slice none 0 0]
theorem zR_ok : zR.size = 9 ∧ zR.all (·.oneCell') = true := ⟨rfl, by simp [zR]; exact ⟨rfl, rfl, rfl, rfl, rfl⟩⟩
@[go_sem] theorem rcL0 (l : Ls) (pv tv : Value) : (rcL l pv tv)[0]? = some (.int .u32 l.al) := rfl
@[go_sem] theorem rcL1 (l : Ls) (pv tv : Value) : (rcL l pv tv)[1]? = some (.int .u32 l.ms) := rfl
@[go_sem] theorem rcL2 (l : Ls) (pv tv : Value) : (rcL l pv tv)[2]? = some (.bool false) := rfl
@[go_sem] theorem rcL3 (l : Ls) (pv tv : Value) : (rcL l pv tv)[3]? = some (.bool false) := rfl
@[go_sem] theorem rcL4 (l : Ls) (pv tv : Value) : (rcL l pv tv)[4]? = some (.bool l.d) := rfl
@[go_sem] theorem rcL5 (l : Ls) (pv tv : Value) : (rcL l pv tv)[5]? = some (.bool l.n) := rfl
@[go_sem] theorem rcL6 (l : Ls) (pv tv : Value) : (rcL l pv tv)[6]? = some pv := rfl
@[go_sem] theorem rcL7 (l : Ls) (pv tv : Value) : (rcL l pv tv)[7]? = some (.int .i64 (l.tk : Int)) := rfl
@[go_sem] theorem rcL8 (l : Ls) (pv tv : Value) : (rcL l pv tv)[8]? = some tv := rfl
/-- What a call of the document's makes. -/
def RvC (w : World) (l : Ls) (G : Nat → Prop) (c' : Array Value) (w' : World) : Prop := ∃ G', Rv w' l c' G' ∧ (∀ k, G' k → G k ∨ w.heap.size ≤ k) ∧ Below w.heap.size w w'
theorem RvIs.ok {w : World} {l : Ls} {pv tv : Value} (h : RvIs w l pv tv) (l' : Ls) : (rcL l' pv tv).size = 9 ∧ (rcL l' pv tv).all (·.oneCell') = true := ⟨rfl, one_rcL l' pv tv h.p.one h.t.one⟩
theorem RvIs.below {w w' : World} {l : Ls} {pv tv : Value} (h : RvIs w l pv tv) (hb : Below w.heap.size w w') : RvIs w' l pv tv := ⟨h.p.below hb, h.t.below hb⟩
/-- The two boxes: the argument's, the result's. -/
structure Two (w : World) (c : Array Value) (W : World) : Prop where
  a : Rf W w.heap.size c
  r : Rf W (w.heap.size + 1) zR
  below : Below w.heap.size w W
theorem two_start (w : World) (c : Array Value) (hc : c.size = 9 ∧ c.all (·.oneCell') = true) : Two w c ((w.alloc (.cells c 30)).alloc (.cells zR 30)) := by
  refine ⟨⟨(blk_new _ _ _).alloc _, hc.1, hc.2⟩, ?_, ((Below.refl _ _).alloc (Nat.le_refl _) _).alloc (by simp) _⟩
  have := blk_new (w.alloc (.cells c 30)) zR 30
  rw [World.size_alloc] at this
  exact ⟨this, zR_ok.1, zR_ok.2⟩
theorem Two.set {w W : World} {c c' : Array Value} (h : Two w c W) (j : Nat) (v : Value) (e : c.setIfInBounds j v = c') (hc : c'.size = 9 ∧ c'.all (·.oneCell') = true) : Two w c' (W.setCell ⟨w.heap.size, j, none⟩ v) :=
  ⟨⟨by have := h.a.blk.setCell j v; rw [e] at this; exact this, hc.1, hc.2⟩, h.r.keep (Below.heap_setCell _ _ _ _ (by simp)), h.below.setCell (Nat.le_refl _) v⟩
theorem Two.after {w W W' : World} {c : Array Value} (h : Two w c W) (hb : Below W.heap.size W W') : Two w c W' := ⟨h.a.below hb, h.r.below hb, h.below.trans (hb.mono h.below.size)⟩
theorem Two.ans {w W : World} {c : Array Value} (h : Two w c W) (c' : Array Value) : Below w.heap.size w (W.setRow (w.heap.size + 1) c') := below_setRow h.below (by omega) c'
theorem Rf.cells {w : World} {R : Nat} {l : Ls} {pv tv : Value} (h : Rf w R (rcL l pv tv)) : w.cell? ⟨R, 0, none⟩ = some (.int .u32 l.al) ∧ w.cell? ⟨R, 1, none⟩ = some (.int .u32 l.ms) ∧ w.cell? ⟨R, 2, none⟩ = some (.bool false) ∧ w.cell? ⟨R, 3, none⟩ = some (.bool false) ∧
    w.cell? ⟨R, 4, none⟩ = some (.bool l.d) ∧ w.cell? ⟨R, 5, none⟩ = some (.bool l.n) ∧ w.cell? ⟨R, 6, none⟩ = some pv ∧ w.cell? ⟨R, 7, none⟩ = some (.int .i64 (l.tk : Int)) ∧ w.cell? ⟨R, 8, none⟩ = some tv := by
  refine ⟨?_, ?_, ?_, ?_, ?_, ?_, ?_, ?_, ?_⟩ <;> (rw [h.blk.cell]; rfl)
theorem belowK {B : Nat} {w W : World} (h : Below B w W) {R : Nat} (hR : B ≤ R) (c : Array Value) : Below B w (W.setRow R c) := below_setRow h hR c

theorem RSetMask_any {w : World} {l : Ls} {c : Array Value} {G : Nat → Prop} (h : Rv w l c G) (x : Int) (hx : W32 x) : Calls Try.prog 36 #[.agg c, .int .u32 x] w fun e w' => ∃ c', e = .returned (.agg c') ∧ RvC w { l with ms := x % 16 } G c' w' := by
  obtain ⟨pv, tv, rfl, rfl, h⟩ := h
  have H2 := Lib.hid (two_start w (rcL l pv tv) (h.ok l))
  have ht : x.tmod 16 = x % 16 := Int.tmod_eq_emod_of_nonneg hx.1
  have H3 := Lib.hid (two_start w (rcL { l with ms := x % 16 } pv tv) (h.ok _))
  have hc := H2.out.a.cells.2.1
  have hf := H2.out.a.blk.frozen 1
  have HI := Lib.hid h
  have HC := Lib.hid (show Rf _ _ zR ∧ (rcL { l with ms := x % 16 } pv tv).size = 9 ∧ (rcL { l with ms := x % 16 } pv tv).all (·.oneCell') = true from ⟨H3.out.r, h.ok _⟩)
  have HX := Lib.hid hx
  clear h hx H2
  go_enter Try.func36, Try.ntmps36
  go_wp2_with (first | ((with_reducible apply wp_load_R); (exact H3.out.a); (rfl)) | ((with_reducible apply wp_store_R _); (exact HC.out); (rfl); (rfl)))
  refine bodyPost_ret (res_R (fn := Try.f36) rfl _ (HC.out.1.set HC.out.2.1 HC.out.2.2) rfl) rfl ⟨_, rfl, _, ⟨pv, tv, rfl, rfl, (HI.out.below (H3.out.ans _)).p, (HI.out.below (H3.out.ans _)).t⟩, fun k hk => .inl hk, H3.out.ans _⟩
theorem RRaise_any {w : World} {l : Ls} {c : Array Value} {G : Nat → Prop} (h : Rv w l c G) (k : Int) (up : Bool) : Calls Try.prog 38 #[.agg c, .int .i64 k, .bool up] w fun e w' => ∃ c', e = .returned (.tuple #[.agg c', .int .i64 (raiseE k)]) ∧ RvC w (l.raise k up) G c' w' := by
  obtain ⟨pv, tv, rfl, rfl, h⟩ := h
  have H2 := Lib.hid (two_start w (rcL l pv tv) (h.ok l))
  have HI := Lib.hid h
  have fin : ∀ (l' : Ls) (W : World), Two w (rcL l' pv tv) W → l'.ps = l.ps → l'.td = l.td → RvC w l' (rvG pv tv) (rcL l' pv tv) (W.setRow (w.heap.size + 1) (rcL l' pv tv)) := fun l' W h2 e1 e2 =>
    ⟨_, ⟨pv, tv, rfl, rfl, by rw [e1]; exact (HI.out.below (h2.ans _)).p, by rw [e2]; exact (HI.out.below (h2.ans _)).t⟩, fun k hk => .inl hk, h2.ans _⟩
  have HF := Lib.hid fin
  have H5 := Lib.hid (two_start w (rcL { l with d := up } pv tv) (h.ok _))
  have H6 := Lib.hid (two_start w (rcL { l with n := up } pv tv) (h.ok _))
  have HC5 := Lib.hid (show Rf _ _ zR ∧ (rcL { l with d := up } pv tv).size = 9 ∧ (rcL { l with d := up } pv tv).all (·.oneCell') = true from ⟨H5.out.r, h.ok _⟩)
  have HC6 := Lib.hid (show Rf _ _ zR ∧ (rcL { l with n := up } pv tv).size = 9 ∧ (rcL { l with n := up } pv tv).all (·.oneCell') = true from ⟨H6.out.r, h.ok _⟩)
  have HC2 := Lib.hid (show Rf _ _ zR ∧ (rcL l pv tv).size = 9 ∧ (rcL l pv tv).all (·.oneCell') = true from ⟨H2.out.r, h.ok _⟩)
  have hc5 := H2.out.a.cells.2.2.2.2.1
  have hf5 := H2.out.a.blk.frozen 4
  have hc6 := H2.out.a.cells.2.2.2.2.2.1
  have hf6 := H2.out.a.blk.frozen 5
  clear h fin
  by_cases e2 : k = 2
  · subst e2
    go_enter Try.func38, Try.ntmps38
    go_wp2_with (first | ((with_reducible apply wp_load_R); (exact H5.out.a); (rfl)) | ((with_reducible apply wp_store_R _); (exact HC5.out); (rfl); (rfl)))
    refine bodyPost_ret (res_R_tmp (fn := Try.f38) rfl _ (HC5.out.1.set HC5.out.2.1 HC5.out.2.2) rfl) rfl ⟨_, rfl, HF.out _ _ H5.out rfl rfl⟩
  · by_cases e3 : k = 3
    · subst e3
      clear e2
      go_enter Try.func38, Try.ntmps38
      go_wp2_with (first | ((with_reducible apply wp_load_R); (exact H6.out.a); (rfl)) | ((with_reducible apply wp_store_R _); (exact HC6.out); (rfl); (rfl)))
      refine bodyPost_ret (res_R_tmp (fn := Try.f38) rfl _ (HC6.out.1.set HC6.out.2.1 HC6.out.2.2) rfl) rfl ⟨_, rfl, HF.out _ _ H6.out rfl rfl⟩
    · have E := Lib.hid (show raiseE k = 2 by simp [raiseE, e2, e3])
      have E2 := Lib.hid (show l.raise k up = l by simp [Ls.raise, e2, e3])
      have hk2 : (k != 2) = true := by simp [e2]
      have hk3 : (k != 3) = true := by simp [e3]
      clear e2 e3
      go_enter Try.func38, Try.ntmps38
      go_wp2_with (first | ((with_reducible apply wp_load_R); (exact H2.out.a); (rfl)) | ((with_reducible apply wp_store_R _); (exact HC2.out); (rfl); (rfl)))
      refine bodyPost_ret (res_R_tmp (fn := Try.f38) rfl _ (HC2.out.1.set HC2.out.2.1 HC2.out.2.2) rfl) rfl ⟨_, by rw [E.out]; rfl, by rw [E2.out]; exact HF.out _ _ H2.out rfl rfl⟩
theorem one_start (w : World) (c : Array Value) (hc : c.size = 9 ∧ c.all (·.oneCell') = true) : Rf (w.alloc (.cells c 30)) w.heap.size c ∧ Below w.heap.size w (w.alloc (.cells c 30)) :=
  ⟨⟨blk_new _ _ _, hc.1, hc.2⟩, (Below.refl _ _).alloc (Nat.le_refl _) _⟩
theorem RRaised_any {w : World} {l : Ls} {c : Array Value} {G : Nat → Prop} (h : Rv w l c G) (k : Int) : Calls Try.prog 20 #[.agg c, .int .i64 k] w fun e w' => e = .returned (.bool (l.isUp k)) ∧ Below w.heap.size w w' := by
  obtain ⟨pv, tv, rfl, rfl, h⟩ := h
  obtain ⟨h1, hb⟩ := one_start w (rcL l pv tv) (h.ok l)
  obtain ⟨_, _, c2, c3, c4, c5, _⟩ := h1.cells
  have HB := Lib.hid hb
  clear h h1 hb
  by_cases e2 : k = 2
  · subst e2
    go_enter Try.func20, Try.ntmps20
    go_wp2
    go_ret
    exact ⟨rfl, HB.out⟩
  · by_cases e3 : k = 3
    · subst e3
      clear e2
      go_enter Try.func20, Try.ntmps20
      go_wp2
      go_ret
      exact ⟨rfl, HB.out⟩
    · have E := Lib.hid (show l.isUp k = false by simp [Ls.isUp, e2, e3])
      go_enter Try.func20, Try.ntmps20
      go_wp2
      go_ret
      exact ⟨by rw [E.out]; rfl, HB.out⟩
/-- A slice cut at its beginning. -/
theorem NumsIn.cut {w : World} {o : Option Addr} {xs : List Int} {c : Nat} (h : NumsIn .u8 w (.slice o xs.length c) xs) {k : Nat} (hk : k ≤ xs.length) : NumsIn .u8 w (.slice (if c = k then o else o.map (·.add k)) (xs.length - k) (c - k)) (xs.drop k) := by
  have hl : (xs.drop k).length = xs.length - k := by simp
  rcases h with ⟨h0, h1⟩ | ⟨a, c', h0, h2, h3, h4, h5⟩
  · simp at h0
    obtain ⟨rfl, _, rfl⟩ := h0
    subst h1
    left
    simp at hk; subst hk
    simp
  · simp at h0
    obtain ⟨rfl, rfl⟩ := h0
    refine .inr ⟨if c = k then a else a.add k, c - k, ?_, by rw [hl]; omega, by rw [hl]; omega, fun i x hi => ?_, fun x hx => h5 x (List.mem_of_mem_drop hx)⟩
    · rw [hl]
      by_cases e : c = k <;> simp [e]
    · have hil : i < xs.length - k := by have := (List.getElem?_eq_some_iff.1 hi).1; rw [hl] at this; exact this
      rw [List.getElem?_drop] at hi
      rw [if_neg (by omega), Go.Deep.add_add]
      exact h4 (k + i) x hi
theorem RWaits_any {w : World} {l : Ls} {c : Array Value} {G : Nat → Prop} (h : Rv w l c G) (hk : l.tk ≤ l.ps.length) : Calls Try.prog 41 #[.agg c] w fun e w' => ∃ v, e = .returned v ∧ NumsIn .u8 w' v l.wt ∧ Below w.heap.size w w' := by
  obtain ⟨pv, tv, rfl, rfl, h⟩ := h
  obtain ⟨h1, hb⟩ := one_start w (rcL l pv tv) (h.ok l)
  obtain ⟨o, n, rfl, hn, hm, _⟩ := h.p.form
  obtain ⟨_, _, _, _, _, _, c6, c7, _⟩ := h1.cells
  have HB := Lib.hid hb
  have hcut := h.p.cut hk
  have HC := Lib.hid (hcut.below hb)
  have hk' : (l.tk : Int) ≤ (l.ps.length : Int) := by omega
  have HE : ∀ (q : Prop) [Decidable q], True := fun _ _ => trivial
  clear h h1 hb hcut HE
  by_cases e : n = l.tk
  · subst e
    have HC2 := HC.out
    rw [if_pos rfl, Nat.sub_self, show l.ps.length - l.tk = 0 by omega] at HC2
    have HD := Lib.hid HC2
    clear HC HC2
    go_enter Try.func41, Try.ntmps41
    go_wp2
    go_ret
    exact ⟨_, rfl, HD.out, HB.out⟩
  · have HC2 := HC.out
    rw [if_neg e] at HC2
    have HD := Lib.hid HC2
    clear HC HC2
    go_enter Try.func41, Try.ntmps41
    go_wp2
    go_ret
    exact ⟨_, rfl, HD.out, HB.out⟩
end Go.Proofs.Ytmnkggnghflcpaa

/-
  Layer 16: Check, Bound: walks.
-/
import Derived.Test.YtjffclcjijpmiaaG17
set_option linter.unusedVariables false
set_option linter.unusedSimpArgs false
namespace Go.Proofs.Ytjffclcjijpmiaa.LG
open Go.RowKit
set_option maxHeartbeats 8000000
set_option maxRecDepth 100000
set_option linter.unusedVariables false
set_option linter.unusedSimpArgs false

/-- What Check tells. -/
def ckE (l : Lg) : Int := if l.ok = true then 0 else 260
theorem PCheck_any {w : World} {l : Lg} {rv : Value} (h : LgIn w rv l) : Calls Try.prog 12 #[.agg (lgc l rv)] w fun e w' => e = .returned (.int .i64 (ckE l)) ∧ Below w.heap.size w w' := by
  have hmf : ∀ (fn : Fn) (first cap : Array Value) (w : World), (Instr.makeFunc fn first cap).run Try.prog w = .ok (.func fn first cap) w := fun _ _ _ _ => rfl
  have HL0 : Hid (Lbx ((w.alloc (.cells (lgc l rv) 26)).alloc (.cells #[.int .i64 0] 30)) w.heap.size l rv ∧ Blk ((w.alloc (.cells (lgc l rv) 26)).alloc (.cells #[.int .i64 0] 30)) (w.heap.size + 1) #[.int .i64 0] 30 ∧ Below w.heap.size w ((w.alloc (.cells (lgc l rv) 26)).alloc (.cells #[.int .i64 0] 30))) := by
    have k2 := blk_new (w.alloc (.cells (lgc l rv) 26)) #[.int .i64 0] 30
    rw [World.size_alloc] at k2
    exact Lib.hid ⟨⟨(blk_new w _ _).alloc _, h.below (belT (bel1 w _) (bel1 _ _))⟩, k2, belT (bel1 w _) (bel1 _ _)⟩
  have HK : Hid (ckE l = if chk l = true then 0 else 260) := Lib.hid (by rw [chk_ok]; rfl)
  obtain ⟨fr, se, mo, rs, wh, en⟩ := l
  simp only [lgc] at HL0 ⊢
  clear h
  go_enter_defers Try.func12, Try.ntmps12
  go_wp2_with fail
  refine (check_any HL0.out.1.i).mono ?_
  rintro e W2 ⟨hb, (⟨hc, rfl⟩ | ⟨hc, rfl⟩)⟩
  · have hB := HL0.out.2.1.below hb
    have HB := Lib.hid (And.intro hB (belT HL0.out.2.2 hb))
    have c0 := hB.cell 0
    have z0 := hB.frozen 0
    simp only [List.getElem?_toArray, List.getElem?_cons_zero] at c0
    rw [if_pos hc] at HK
    clear hb hB hc HL0
    go_wp2
    refine leaves_cons (f := 25) (args := #[.pointer (some ⟨w.heap.size + 1, 0, none⟩)]) (by simp) (by simp [go_sem]) ?_
    have hB3 := HB.out.1.setCell 0 (.int .i64 0)
    refine (Check1_r _ 0 _ (hB3.cell 0) (hB3.frozen 0)).mono ?_
    rintro e u' w'' ⟨rfl, rfl, rfl⟩
    have hB4 := (hB3.setCell 0 (.int .i64 0)).cell 0
    refine ⟨.int .i64 0, ?_, by rw [HK.out], ?_⟩
    · simp [results, Try.results12, go_sem, hB4]
    · have h1 := (Turned.refl (fun k => k = w.heap.size + 1) W2).setCell (p := ⟨w.heap.size + 1, 0, none⟩) (.inl rfl) (.int .i64 0)
      have h2 := h1.setCell (p := ⟨w.heap.size + 1, 0, none⟩) (.inl rfl) (.int .i64 0)
      exact HB.out.2.trans (h2.below (by have := HB.out.2.size; omega) (fun k hk => by omega))
  · have hB := HL0.out.2.1.below hb
    have HB := Lib.hid (And.intro hB (belT HL0.out.2.2 hb))
    rw [if_neg (by rw [hc]; simp)] at HK
    clear hb hB hc HL0
    go_wp2
    refine leaves_cons (f := 25) (args := #[.pointer (some ⟨w.heap.size + 1, 0, none⟩)]) (by simp) (by simp [go_sem]) ?_
    refine (Check1_p _ 0 260 _ (HB.out.1.cell 0) (HB.out.1.frozen 0)).mono ?_
    rintro e u' w'' ⟨rfl, rfl, rfl⟩
    have hB4 := (HB.out.1.setCell 0 (.int .i64 260)).cell 0
    simp only [settle, List.dropWhile]
    refine ⟨.int .i64 260, ?_, by rw [HK.out], ?_⟩
    · simp [results, Try.results12, go_sem, hB4]
    · have h1 := (Turned.refl (fun k => k = w.heap.size + 1) W2).setCell (p := ⟨w.heap.size + 1, 0, none⟩) (.inl rfl) (.int .i64 260)
      exact HB.out.2.trans (h1.below (by have := HB.out.2.size; omega) (fun k hk => by omega))
theorem PBound_any {w : World} {l : Lg} {rv : Value} (h : LgIn w rv l) (hl : ∀ k, bdN (l.rs.take k) ≤ 1000000) : Calls Try.prog 17 #[.agg (lgc l rv)] w fun e w' => e = .returned (.tuple #[.int .i64 (if l.ok = true then l.bound else 0), .int .i64 (ckE l)]) ∧ Below w.heap.size w w' := by
  have hmf : ∀ (fn : Fn) (first cap : Array Value) (w : World), (Instr.makeFunc fn first cap).run Try.prog w = .ok (.func fn first cap) w := fun _ _ _ _ => rfl
  have HL0 : Hid (Lbx ((w.alloc (.cells (lgc l rv) 26)).alloc (.cells #[.int .i64 0] 30)) w.heap.size l rv ∧ Blk ((w.alloc (.cells (lgc l rv) 26)).alloc (.cells #[.int .i64 0] 30)) (w.heap.size + 1) #[.int .i64 0] 30 ∧ Below w.heap.size w ((w.alloc (.cells (lgc l rv) 26)).alloc (.cells #[.int .i64 0] 30))) := by
    have k2 := blk_new (w.alloc (.cells (lgc l rv) 26)) #[.int .i64 0] 30
    rw [World.size_alloc] at k2
    exact Lib.hid ⟨⟨(blk_new w _ _).alloc _, h.below (belT (bel1 w _) (bel1 _ _))⟩, k2, belT (bel1 w _) (bel1 _ _)⟩
  have HK : Hid (chk l = l.ok) := Lib.hid (chk_ok l)
  have HE1 : Hid (l.ok = true → Value.tuple #[.int .i64 (if l.ok = true then l.bound else 0), .int .i64 (ckE l)] = .tuple #[.int .i64 (bdN l.rs), .int .i64 0]) := Lib.hid (fun e => by unfold ckE; simp [e]; rfl)
  have HE2 : Hid (l.ok = false → Value.tuple #[.int .i64 (if l.ok = true then l.bound else 0), .int .i64 (ckE l)] = .tuple #[.int .i64 0, .int .i64 260]) := Lib.hid (fun e => by unfold ckE; simp [e])
  obtain ⟨X, hX⟩ : ∃ X, Value.tuple #[.int .i64 (if l.ok = true then l.bound else 0), .int .i64 (ckE l)] = X := ⟨_, rfl⟩
  rw [hX] at HE1 HE2 ⊢
  clear hX
  obtain ⟨fr, se, mo, rs, wh, en⟩ := l
  have HLm : Hid (∀ k, bdN (rs.take k) ≤ 1000000) := Lib.hid hl
  obtain ⟨ao, ca, rfl, _, hla⟩ := h.r.shape
  simp only at hla
  unfold maxLen at hla
  simp only [lgc] at HL0 ⊢
  clear h hl
  go_enter_defers Try.func17, Try.ntmps17
  go_wp2_with fail
  refine (check_any HL0.out.1.i).mono ?_
  rintro e W2 ⟨hb, (⟨hc, rfl⟩ | ⟨hc, rfl⟩)⟩
  · have HB := Lib.hid (And.intro (HL0.out.1.below hb) (And.intro (HL0.out.2.1.below hb) (belT HL0.out.2.2 hb)))
    have HX := Lib.hid (HE1.out (by rw [← HK.out, hc]))
    clear hb hc HL0 HE1 HE2 HK
    obtain ⟨c0, c1, c2, c3, c4, c5⟩ := HB.out.1.cells
    go_wp2
    clear c0 c1 c2 c3 c4 c5
    go_loopw [4, 13] (fun nv iv wr => ∃ (k : Nat), k ≤ rs.length ∧ nv = .int .i64 (bdN (rs.take k)) ∧ iv = .int .i64 (k : Int) ∧ Hid (Below W2.heap.size W2 wr)) (fun _ iv _ => rs.length + 1 - (intOf iv).toNat)
    case atStart => exact ⟨0, by omega, rfl, rfl, Lib.hid (Below.refl _ _)⟩
    case round =>
      obtain ⟨k, hk, rfl, rfl, HW⟩ := hrel
      by_cases hlt : k < rs.length
      · have hi : (k : Int) < (rs.length : Int) := by omega
        obtain ⟨g1, o1, c1, x, bv, e1, l1, hx, hxb, q⟩ := (HB.out.1.below HW.out).i.r.at_ hlt
        simp only [Value.slice.injEq] at e1
        obtain ⟨rfl, _, rfl⟩ := e1
        obtain ⟨q0, q1, q2, q3⟩ := rng4 q
        obtain ⟨bo, cb, rfl, _, hlb⟩ := hxb.shape
        unfold maxLen at hlb
        have hn := bdN_succ (l := rs) l1
        have b0 := bdN_pos (rs.take k)
        have b1 := HLm.out (k + 1)
        have b2 : (0 : Int) ≤ (x.bs.length : Int) := by omega
        try simp only at b1
        rw [hn] at b1
        have HW2 := Lib.hid (belT HW.out (bel1 wr (.cells #[.int .i64 x.tm, .int .i64 x.kind, .int .i64 x.n, .slice bo x.bs.length cb] 42)))
        have HN : Hid (bdN (rs.take (k + 1)) = bdN (rs.take k) + (16 + (x.bs.length : Int))) := Lib.hid (by rw [hn]; omega)
        clear l1 q hx hxb hn
        generalize bdN (rs.take k) = z at *
        go_wp2
        refine ⟨⟨k + 1, by omega, by rw [HN.out], by first | rfl | go_num, HW2⟩, ?_⟩
        simp [intOf]; omega
      · obtain rfl : k = rs.length := by omega
        have hn : Hid (bdN (rs.take rs.length) = bdN rs) := Lib.hid (by rw [List.take_length])
        rw [hn.out]
        have hB := HB.out.2.1.below HW.out
        have HB9 := Lib.hid (And.intro hB (belT HB.out.2.2 HW.out))
        have y0 := hB.cell 0
        have z0 := hB.frozen 0
        simp only [List.getElem?_toArray, List.getElem?_cons_zero] at y0
        clear hB
        go_wp2
        refine leaves_cons (f := 36) (args := #[.pointer (some ⟨w.heap.size + 1, 0, none⟩)]) (by simp) (by simp [go_sem]) ?_
        have hB3 := HB9.out.1.setCell 0 (.int .i64 0)
        refine (Bound1_r _ 0 _ (hB3.cell 0) (hB3.frozen 0)).mono ?_
        rintro e u' w'' ⟨rfl, rfl, rfl⟩
        have hB4 := (hB3.setCell 0 (.int .i64 0)).cell 0
        refine ⟨X, ?_, rfl, ?_⟩
        · rw [HX.out]; simp [results, Try.results17, go_sem, hB4]
        · have h1 := (Turned.refl (fun k => k = w.heap.size + 1) wr).setCell (p := ⟨w.heap.size + 1, 0, none⟩) (.inl rfl) (.int .i64 0)
          have h2 := h1.setCell (p := ⟨w.heap.size + 1, 0, none⟩) (.inl rfl) (.int .i64 0)
          exact HB9.out.2.trans (h2.below (by have := HB9.out.2.size; omega) (fun k hk => by omega))
  · have hB := HL0.out.2.1.below hb
    have HB := Lib.hid (And.intro hB (belT HL0.out.2.2 hb))
    have HX := Lib.hid (HE2.out (by rw [← HK.out, hc]))
    clear hb hB hc HL0 HE1 HE2 HK
    go_wp2
    refine leaves_cons (f := 36) (args := #[.pointer (some ⟨w.heap.size + 1, 0, none⟩)]) (by simp) (by simp [go_sem]) ?_
    refine (Bound1_p _ 0 260 _ (HB.out.1.cell 0) (HB.out.1.frozen 0)).mono ?_
    rintro e u' w'' ⟨rfl, rfl, rfl⟩
    have hB4 := (HB.out.1.setCell 0 (.int .i64 260)).cell 0
    simp only [settle, List.dropWhile]
    refine ⟨X, ?_, rfl, ?_⟩
    · rw [HX.out]; simp [results, Try.results17, go_sem, hB4]
    · have h1 := (Turned.refl (fun k => k = w.heap.size + 1) W2).setCell (p := ⟨w.heap.size + 1, 0, none⟩) (.inl rfl) (.int .i64 260)
      exact HB.out.2.trans (h1.below (by have := HB.out.2.size; omega) (fun k hk => by omega))
end Go.Proofs.Ytjffclcjijpmiaa.LG

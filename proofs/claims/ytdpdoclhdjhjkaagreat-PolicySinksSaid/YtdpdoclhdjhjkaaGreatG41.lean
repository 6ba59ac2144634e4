/-
  Layer 13: what the statement PolicySinks makes: rules, touches.
-/
import Derived.Test.YtdpdoclhdjhjkaaGreatG39
set_option linter.unusedVariables false
set_option linter.unusedSimpArgs false
namespace Go.Proofs.YtdpdoclhdjhjkaaGreat
open Go.RowKit
set_option maxHeartbeats 8000000
set_option maxRecDepth 100000
set_option linter.unusedVariables false
set_option linter.unusedSimpArgs false

theorem ruC_setS (r : Ru) {j : Nat} (h : j < 11) (x : Int) : (ruC r).setIfInBounds j (.int .u32 x) = ruC (r.set j x) := by
  rcases (show j = 0 ∨ j = 1 ∨ j = 2 ∨ j = 3 ∨ j = 4 ∨ j = 5 ∨ j = 6 ∨ j = 7 ∨ j = 8 ∨ j = 9 ∨ j = 10 by omega) with rfl | rfl | rfl | rfl | rfl | rfl | rfl | rfl | rfl | rfl | rfl <;> rfl
/-- The rules so far. -/
def snR (f : Nat → Int) (k : Nat) : Ru := fun j => if 6 ≤ j ∧ j < 6 + k then f (j - 6) % 65536 else 0
theorem snR_succ (f : Nat → Int) (k : Nat) : (snR f k).set (6 + k) (f k % 65536) = snR f (k + 1) := by
  funext j
  show (if j = 6 + k then f k % 65536 else if 6 ≤ j ∧ j < 6 + k then f (j - 6) % 65536 else 0) = if 6 ≤ j ∧ j < 6 + (k + 1) then f (j - 6) % 65536 else 0
  by_cases h : j = 6 + k
  · subst h
    rw [if_pos rfl, if_pos (by omega), Nat.add_sub_cancel_left]
  · rw [if_neg h]
    by_cases h2 : 6 ≤ j ∧ j < 6 + k
    · rw [if_pos h2, if_pos (by omega)]
    · rw [if_neg h2, if_neg (by omega)]
theorem snR_w (f : Nat → Int) (k : Nat) : RuW (snR f k) := fun j _ => by
  show W32 (if 6 ≤ j ∧ j < 6 + k then f (j - 6) % 65536 else 0)
  unfold W32
  split <;> omega
theorem snR_zero (f : Nat → Int) : ruC (snR f 0) = #[.int .u32 0, .int .u32 0, .int .u32 0, .int .u32 0, .int .u32 0, .int .u32 0, .int .u32 0, .int .u32 0, .int .u32 0, .int .u32 0, .int .u32 0] := rfl
def snN (n : Int) (k : Nat) : Int := if k = 12 ∨ k = 14 ∨ k = 16 then n else 0
/-- The touches so far. -/
def snT (n : Int) : Nat → List T.Tc
  | 0 => []
  | k + 1 => snT n k ++ [(((k : Int), snN n k), [(1, 1)]), (((k : Int), snN n k), [])]
theorem snT_len (n : Int) : ∀ k, (snT n k).length = 2 * k
  | 0 => rfl
  | k + 1 => by rw [snT, List.length_append, snT_len n k]; simp; omega
theorem snT_pi {n : Int} (hn : 0 ≤ n ∧ n ≤ 100) : ∀ k, k ≤ 18 → ∀ t ∈ snT n k, Pi t.1
  | 0, _, t, h => by simp [snT] at h
  | k + 1, hk, t, h => by
    have hN : 0 ≤ snN n k ∧ snN n k ≤ 100 := by unfold snN; split <;> omega
    rw [snT] at h
    rcases List.mem_append.1 h with h | h
    · exact snT_pi hn k (by omega) t h
    · simp only [List.mem_cons, List.not_mem_nil, or_false] at h
      rcases h with rfl | rfl <;> exact ⟨⟨by show _ ≤ (k : Int); omega, by show (k : Int) ≤ _; omega⟩, by show _ ≤ snN n k; omega, by show snN n k ≤ _; omega⟩
theorem tcc_app {W : World} : ∀ {a b : List T.Tc} {cs ds : List Value}, TcC W a cs → TcC W b ds → TcC W (a ++ b) (cs ++ ds)
  | [], b, cs, ds, h, k => by obtain rfl := h; exact k
  | t :: a, b, cs, ds, ⟨v, cs', e, h1, h2⟩, k => ⟨v, cs' ++ ds, by rw [e]; rfl, h1, tcc_app h2 k⟩
/-- A round of the second loop: the boxes, the touches so far. -/
structure SnI (w : World) (B : Nat) (R : Ru) (n : Int) (k : Nat) (av : Value) (cs : List Value) (W : World) : Prop where
  b : Below w.heap.size w W
  x : Rf 67 11 W (w.heap.size + 1) (ruC R)
  p : Blk W B #[.int .i64 1, .int .i64 1] 35
  hB : w.heap.size + 2 ≤ B
  row : Gs 90 3 W av (2 * k) cs
  tc : ∃ Ai : Nat → Prop, (∀ V : World, (∀ b, Ai b → V.heap[b]? = W.heap[b]?) → TcC V (snT n k) cs) ∧ ∀ b, Ai b → b < W.heap.size ∧ blkOf av ≠ some b
  lo : ∀ b, blkOf av = some b → B < b
section
variable {w W W' : World} {B : Nat} {R : Ru} {n : Int} {k : Nat} {av av' : Value} {cs : List Value}
theorem SnI.after (h : SnI w B R n k av cs W) (hb : Below W.heap.size W W') : SnI w B R n k av cs W' := by
  obtain ⟨Ai, h1, h2⟩ := h.tc
  exact ⟨h.b.trans (hb.mono h.b.size), h.x.below hb, h.p.below hb, h.hB, h.row.below hb, ⟨Ai, fun V hV => h1 V fun b hb' => (hV b hb').trans (hb.block b (h2 b hb').1), fun b hb' => ⟨by have := (h2 b hb').1; have := hb.size; omega, (h2 b hb').2⟩⟩, h.lo⟩
theorem SnI.app (h : SnI w B R n k av cs W) {A : Nat} (hA : Blk W A #[.int .i64 1, .int .i64 1] 35) (hg : Gs 90 3 W' av' (2 * k + 2) (cs ++ [.int .i64 (k : Int), .int .i64 (snN n k), .slice (some ⟨A, 0, none⟩) 1 1, .int .i64 (k : Int), .int .i64 (snN n k), .slice none 0 0]))
    (ht : Turned (fun b => blkOf av = some b) W W') (hn : ∀ b, blkOf av' = some b → blkOf av = some b ∨ W.heap.size ≤ b) :
    SnI w B R n (k + 1) av' (cs ++ [.int .i64 (k : Int), .int .i64 (snN n k), .slice (some ⟨A, 0, none⟩) 1 1, .int .i64 (k : Int), .int .i64 (snN n k), .slice none 0 0]) W' := by
  obtain ⟨Ai, h1, h2⟩ := h.tc
  have hz := h.p.lt
  have hB := h.hB
  have hAav : blkOf av ≠ some A := fun e => Gs.ne h.row hA (by decide) e rfl
  refine ⟨h.b.trans (ht.below h.b.size (fun b e => by have := h.lo b e; omega)), h.x.turned ht (fun e => by have := h.lo _ e; omega), h.p.turned ht (fun e => by have := h.lo _ e; omega), h.hB, hg, ⟨fun b => Ai b ∨ b = A, fun V hV => ?_, fun b hb => ?_⟩, fun b hb => ?_⟩
  · rw [snT]
    refine tcc_app (h1 V fun b hb => (hV b (.inl hb)).trans (ht.block b (h2 b hb).1 (h2 b hb).2)) ⟨_, _, rfl, ?_, _, [], rfl, Rd.nil _ _ _ _ |> fun h => ⟨h, fun p hp => by cases hp⟩, rfl⟩
    exact PlsIn.lit (l := [(1, 1)]) ((hA.turned ht hAav).keep (hV A (.inr rfl))) (by simp [maxLen]) (by simp [Pi, I64])
  · have hs := ht.size
    rcases hb with hb | rfl
    · refine ⟨by have := (h2 b hb).1; omega, fun e => ?_⟩
      rcases hn b e with e' | e'
      · exact (h2 b hb).2 e'
      · have := (h2 b hb).1; omega
    · refine ⟨by have := hA.lt; omega, fun e => ?_⟩
      rcases hn b e with e' | e'
      · exact hAav e'
      · have := hA.lt; omega
  · rcases hn b hb with e | e
    · exact h.lo b e
    · omega
theorem SnI.ts (hn : 0 ≤ n ∧ n ≤ 100) (h : SnI w B R n 18 av cs W) : TsIn W av (snT n 18) := by
  obtain ⟨Ai, h1, h2⟩ := h.tc
  exact ⟨cs, by rw [snT_len]; exact h.row.rd, h1 W (fun _ _ => rfl), snT_pi hn 18 (Nat.le_refl _)⟩
end
theorem tcc_take {W : World} : ∀ (k : Nat) {l : List T.Tc} {cs : List Value}, TcC W l cs → TcC W (l.take k) (cs.take (k * 3)) ∧ TcC W (l.drop k) (cs.drop (k * 3))
  | 0, l, cs, h => ⟨by simp [TcC], by simpa using h⟩
  | k + 1, [], cs, h => by obtain rfl := h; exact ⟨by simp [TcC], by simp [TcC]⟩
  | k + 1, t :: l, cs, ⟨v, cs', e, h1, h2⟩ => by
    subst e
    obtain ⟨i1, i2⟩ := tcc_take k h2
    rw [show (k + 1) * 3 = k * 3 + 3 by omega]
    exact ⟨⟨v, cs'.take (k * 3), rfl, h1, i1⟩, i2⟩
theorem TsIn.cut {W : World} {g o c : Nat} {l : List T.Tc} (h : TsIn W (.slice (some ⟨g, o, none⟩) l.length c) l) {k : Nat} (hk : k ≤ l.length) : TsIn W (.slice (some ⟨g, o, none⟩) k c) (l.take k) ∧ TsIn W (.slice (some ⟨g, o + k * 3, none⟩) (l.length - k) (c - k)) (l.drop k) := by
  obtain ⟨cs, ⟨h0, ao, c', e, h1, h2, h3⟩, ht, hp⟩ := h
  simp only [Value.slice.injEq] at e
  obtain ⟨rfl, _, rfl⟩ := e
  obtain ⟨t1, t2⟩ := tcc_take k ht
  refine ⟨⟨cs.take (k * 3), ?_, t1, fun t ht => hp t (List.mem_of_mem_take ht)⟩, ⟨cs.drop (k * 3), ?_, t2, fun t ht => hp t (List.mem_of_mem_drop ht)⟩⟩
  · have hlt : (l.take k).length = k := by simp; omega
    rw [hlt]
    refine ⟨by rw [List.length_take]; omega, _, _, rfl, by omega, by omega, fun hn => ?_⟩
    obtain ⟨g', o', e', hr⟩ := h3 (by omega)
    simp at e'
    obtain ⟨rfl, rfl⟩ := e'
    exact ⟨g, o, rfl, fun j u hj => hr j u (by rw [List.getElem?_take] at hj; split at hj; exact hj; cases hj)⟩
  · have hlt : (l.drop k).length = l.length - k := by simp
    rw [hlt]
    refine ⟨by rw [List.length_drop, h0, Nat.sub_mul], _, _, rfl, by omega, by omega, fun hn => ?_⟩
    obtain ⟨g', o', e', hr⟩ := h3 (by omega)
    simp at e'
    obtain ⟨rfl, rfl⟩ := e'
    refine ⟨g, o + k * 3, rfl, fun j u hj => ?_⟩
    rw [List.getElem?_drop] at hj
    have := hr _ u hj
    rwa [← Nat.add_assoc] at this
theorem ts_src2 (w : World) (k n : Int) (A : Nat) : Src Tryz.prog 3 36 (.slice (some ⟨w.heap.size, 0, none⟩) 2 2) 2 [.int .i64 k, .int .i64 n, .slice (some ⟨A, 0, none⟩) 1 1, .int .i64 k, .int .i64 n, .slice none 0 0] (w.alloc (.cells #[.int .i64 k, .int .i64 n, .slice (some ⟨A, 0, none⟩) 1 1, .int .i64 k, .int .i64 n, .slice none 0 0] 90)) := by
  refine Src.ofSlice _ Tryz.underlying36 _ 2 2 _ rfl (fun j u hj => ?_) (fun u hu => ?_)
  · rw [add_lit, (blk_new w _ _).cell, Nat.zero_add]
    simpa using hj
  · simp only [List.mem_cons, List.not_mem_nil, or_false] at hu
    rcases hu with rfl | rfl | rfl | rfl | rfl | rfl <;> rfl
theorem infoTouchS : (Tryz.prog.info? 90).map (fun i => (i.zero, i.size, i.bytes)) = some (some (.agg #[.int .i64 0, .int .i64 0, .slice none 0 0]), 3, 40) := by kernel_rfl
theorem Sinks_few (f : Nat → Int) (x n : Int) {w : World} (hq : n < 0 ∨ 100 < n) : Calls Tryz.prog 7 #[.agg #[.int .u32 (f 0), .int .u32 (f 1), .int .u32 (f 2), .int .u32 (f 3)], .int .u32 x, .int .i64 n] w fun e w' => e = .returned (.bool true) ∧ Below w.heap.size w w' := by
  have HB0 := Lib.hid (bel1 w (.cells #[.int .u32 (f 0), .int .u32 (f 1), .int .u32 (f 2), .int .u32 (f 3)] 87))
  by_cases h0 : n < 0
  · clear hq
    go_enter Tryz.func7, Tryz.ntmps7
    go_wp2_with fail
    refine (known13_any _).mono ?_
    rintro e w2 ⟨rfl, hb⟩
    have HB2 := Lib.hid (HB0.out.trans (hb.mono HB0.out.size))
    clear hb
    go_wp2
    go_ret
    exact ⟨rfl, HB2.out⟩
  · have h1 : 100 < n := by omega
    clear hq
    go_enter Tryz.func7, Tryz.ntmps7
    go_wp2_with fail
    refine (known13_any _).mono ?_
    rintro e w2 ⟨rfl, hb⟩
    have HB2 := Lib.hid (HB0.out.trans (hb.mono HB0.out.size))
    clear hb
    go_wp2
    go_ret
    exact ⟨rfl, HB2.out⟩
end Go.Proofs.YtdpdoclhdjhjkaaGreat

/-
  Layer 8: played of the statements: a disk behind writes, and its bytes: walk. Written by gen_played.py.
-/
import Derived.Test.YtbinpapgfddafaaRef
import Derived.Test.YtbinpapgfddafaaArgs
import Derived.Test.YtbinpapgfddafaaBytes
namespace Go.Proofs.Ytbinpapgfddafaa
open Go.RowKit
set_option maxHeartbeats 1000000
set_option linter.unusedVariables false
set_option linter.unusedSimpArgs false

/-- A disk's bytes behind writes. -/
def plB (P : Nat) (xs : List Ac) : List Int := xs.foldl (fun b s => wrE b s.n s.x) (nw P)
theorem take_snoc {α : Type} {l : List α} {k : Nat} {s : α} (h : l[k]? = some s) : l.take (k + 1) = l.take k ++ [s] := by
  obtain ⟨hk, rfl⟩ := List.getElem?_eq_some_iff.1 h
  exact List.take_succ_eq_append_getElem hk
theorem plB_step {P : Nat} {xs : List Ac} {k : Nat} {s : Ac} (h : xs[k]? = some s) : plB P (xs.take (k + 1)) = wrE (plB P (xs.take k)) s.n s.x := by
  rw [take_snoc h]; simp [plB]
/-- A disk and bytes that are alike, both made by the call. -/
structure PlI (w : World) (S P : Nat) (b : List Int) (F : Nat → Prop) (v : Value) (W : World) : Prop where
  dk : Dk W S P b F
  n : NumsIn .u8 W v b
  lF : ∀ k, F k → w.heap.size ≤ k
  lV : ∀ k, rdBlk v = some k → w.heap.size ≤ k
  below : Below w.heap.size w W
section
variable {w W W' : World} {S P : Nat} {b b' : List Int} {F : Nat → Prop} {v v' : Value}
theorem PlI.after (h : PlI w S P b F v W) (hb : Below W.heap.size W W') : PlI w S P b F v W' := ⟨h.dk.below hb, h.n.below hb, h.lF, h.lV, h.below.trans (hb.mono h.below.size)⟩
/-- The document's write is done; the disk's is to come. -/
structure PlH (w : World) (S P : Nat) (b : List Int) (F : Nat → Prop) (b' : List Int) (v : Value) (W : World) : Prop where
  dk : Dk W S P b F
  n : NumsIn .u8 W v b'
  lF : ∀ k, F k → w.heap.size ≤ k
  lV : ∀ k, rdBlk v = some k → w.heap.size ≤ k
  below : Below w.heap.size w W
theorem PlI.half (h : PlI w S P b F v W) (hw : WrP W v b' v' W') : PlH w S P b F b' v' W' :=
  ⟨h.dk.below hw.2.2, hw.1, h.lF, fun k hk => by rcases hw.2.1 k hk with e | e; exact h.lV k e; have := h.below.size; omega, h.below.trans (hw.2.2.mono h.below.size)⟩
theorem PlH.drew (h : PlH w S P b F b' v W) : PlH w S P b F b' v W.drew := ⟨h.dk.keep fun _ _ => rfl, h.n.keep fun _ _ => rfl, h.lF, h.lV, h.below.drew⟩
theorem PlI.drew (h : PlI w S P b F v W) : PlI w S P b F v W.drew := ⟨h.dk.keep fun _ _ => rfl, h.n.keep fun _ _ => rfl, h.lF, h.lV, h.below.drew⟩
theorem PlH.step (h : PlH w S P b F b' v W) (hw : PutPost W S P b' F W') : PlI w S P b' F v W' :=
  ⟨hw.1, h.n.turned hw.2 (h.dk.apart h.n), h.lF, h.lV, h.below.trans (hw.2.below h.below.size h.lF)⟩
end
set_option maxRecDepth 100000 in
theorem played_any {w : World} {P : Nat} (h0 : 1 ≤ P) (h1 : P ≤ 32) {va : Value} {xs : List Ac} (ha : ActsIn w va xs) (hxl : xs.length ≤ 40) : Calls Try.prog 15 #[.int .i64 (P : Int), va] w fun e w' => ∃ S F v, e = .returned (.tuple #[.pointer (some ⟨S, 0, none⟩), v, .bool true]) ∧ PlI w S P (plB P xs) F v w' := by
  have HA := Lib.hid (fun W (hb : Below w.heap.size w W) => (show ActsIn W va xs from ha.below hb))
  obtain ⟨ao, c, rfl, hc, hm, _⟩ := ha
  have hmk := fun W => make_bytes h1 (z := 64 * (P : Int)) rfl W
  have HN := Lib.hid (New_any w h0 h1)
  have HP := Lib.hid (show 1 ≤ P ∧ P ≤ 32 from ⟨h0, h1⟩)
  go_enter Try.func15, Try.ntmps15
  go_wp2_with fail
  refine HN.out.mono ?_
  rintro e w1 ⟨S, rfl, F, hd, hF, hb1⟩
  have hb2 : Below w1.heap.size w1 (w1.alloc (.cells (bv (nw P)).toArray 5)) := (Below.refl _ _).alloc (Nat.le_refl _) _
  have H0 : Hid (PlI w S P (plB P []) F (.slice (some ⟨w1.heap.size, 0, none⟩) (64 * P) (64 * P)) (w1.alloc (.cells (bv (nw P)).toArray 5))) := by
    refine ⟨hd.below hb2, ?_, hF, fun k hk => ?_, hb1.trans (hb2.mono hb1.size)⟩
    · have hq := Qs.lit w1 (xs := nw P) (byt_zeros _) (by simp [nw, maxLen]; omega)
      have hln : (nw P).length = 64 * P := by simp [nw]
      rw [hln] at hq
      exact hq.nums
    · simp [rdBlk] at hk
      have := hb1.size
      omega
  clear hd hF hb1 hb2
  go_wp2
  go_loopw [9, 10] (fun b i wr => ∃ k : Nat, k ≤ xs.length ∧ i = .int .i64 (k : Int) ∧ Hid (PlI w S P (plB P (xs.take k)) F b wr)) (fun _ i _ => xs.length + 1 - natI i)
  case atStart => exact ⟨0, by omega, rfl, H0.out⟩
  case round =>
    obtain ⟨k, hk, rfl, HK⟩ := hrel
    by_cases hlt : k < xs.length
    · have hi : (k : Int) < (xs.length : Int) := by omega
      obtain ⟨s, hs⟩ : ∃ s, xs[k]? = some s := ⟨_, List.getElem?_eq_getElem hlt⟩
      obtain ⟨hok, g, o, hao, _⟩ : s.Ok ∧ ∃ g o, ao = some ⟨g, o, none⟩ ∧ True := by
        obtain ⟨ao', c', e, _, _, h4⟩ := HA.out w (Below.refl _ _)
        simp at e
        obtain ⟨h5, g, o, h6, _⟩ := h4 k s hs
        exact ⟨h5, g, o, by rw [e.1]; exact h6, trivial⟩
      subst hao
      have HAC := Lib.hid (show ∀ W, Below w.heap.size w W → W.cell? ⟨g, o + k * 65, none⟩ = some (.int .i64 s.n) ∧ W.rangeAt g (o + k * 65 + 1) (bv s.x) from fun W hb => by
        obtain ⟨ao', c', e, _, _, h4⟩ := HA.out W hb
        simp at e
        obtain ⟨h5, g', o', h6, h7, h8⟩ := h4 k s hs
        rw [← e.1] at h6
        simp at h6
        obtain ⟨rfl, rfl⟩ := h6
        exact ⟨h7, h8⟩)
      have HT := Lib.hid (plB_step (P := P) hs)
      have HIX := Lib.hid (add_lit g o (k * 65))
      have HK0 := Lib.hid HK.out.drew
      have HLB := Lib.hid (show (plB P (xs.take k)).length ≤ 100000 by have := HK.out.dk.dsk.len; have := HP.out.2; omega)
      have hK0 := HAC.out wr.drew HK0.out.below
      clear hs hmk
      go_wp2
      refine wp_region_held_drew (S := fun W => W.cell? ⟨g, o + k * 65, none⟩ = some (.int .i64 s.n) ∧ W.rangeAt g (o + k * 65 + 1) (bv s.x)) (by kernel_rfl) hK0 (fun _ => ?_)
      have hS := hK0
      refine take_d (i := 0) (d := some 28) (v := ?_) rfl rfl (by kernel_rfl) (by kernel_rfl) (by kernel_rfl) (fun _ _ _ h => h) (.inl ⟨by rfl, ?_⟩) hS ?_
      rotate_left
      · intro W hW
        go_simp
        try with_reducible rfl
      try simp only [Act.put, List.setIfInBounds_toArray, List.set_cons_zero, List.set_cons_succ]
      refine take_d (i := 1) (d := some 29) (v := ?_) rfl rfl (by kernel_rfl) (by kernel_rfl) (by kernel_rfl) (fun _ _ _ h => h) (.inl ⟨by rfl, ?_⟩) hS ?_
      rotate_left
      · intro W hW
        go_simp
        try with_reducible rfl
      try simp only [Act.put, List.setIfInBounds_toArray, List.set_cons_zero, List.set_cons_succ]
      refine take_d (i := 2) (d := some 30) (v := ?_) rfl rfl (by kernel_rfl) (by kernel_rfl) (by kernel_rfl) (fun _ _ _ h => h) (.inl ⟨by rfl, ?_⟩) hS ?_
      rotate_left
      · intro W hW
        go_simp
        try with_reducible rfl
      try simp only [Act.put, List.setIfInBounds_toArray, List.set_cons_zero, List.set_cons_succ]
      refine take_d (i := 3) (d := some 31) (v := .pointer (some ⟨g, o + k * 65, none⟩)) rfl rfl (by kernel_rfl) (by kernel_rfl) (by kernel_rfl) (fun _ _ _ h => h) (.inl ⟨by rfl, fun W hW => by have q := HIX.out; go_simp⟩) hS ?_
      try simp only [Act.put, List.setIfInBounds_toArray, List.set_cons_zero, List.set_cons_succ]
      refine take_d (i := 4) (d := some 32) (v := ?_) rfl rfl (by kernel_rfl) (by kernel_rfl) (by kernel_rfl) (fun _ _ _ h => h) (.inl ⟨by rfl, ?_⟩) hS ?_
      rotate_left
      · intro W hW
        go_simp
        try with_reducible rfl
      try simp only [Act.put, List.setIfInBounds_toArray, List.set_cons_zero, List.set_cons_succ]
      refine take_d (i := 5) (d := some 33) (v := ?_) rfl rfl (by kernel_rfl) (by kernel_rfl) (by kernel_rfl) (fun _ _ _ h => h) (.inl ⟨by rfl, ?_⟩) hS ?_
      rotate_left
      · intro W hW
        have q := hW.1
        go_simp
        try with_reducible rfl
      try simp only [Act.put, List.setIfInBounds_toArray, List.set_cons_zero, List.set_cons_succ]
      refine take_d (i := 6) (d := some 34) (v := ?_) rfl rfl (by kernel_rfl) (by kernel_rfl) (by kernel_rfl) (fun _ _ _ h => h) (.inl ⟨by rfl, ?_⟩) hS ?_
      rotate_left
      · intro W hW
        go_simp
        try with_reducible rfl
      try simp only [Act.put, List.setIfInBounds_toArray, List.set_cons_zero, List.set_cons_succ]
      refine take_d (i := 7) (d := some 35) (v := ?_) rfl rfl (by kernel_rfl) (by kernel_rfl) (by kernel_rfl) (fun _ _ _ h => h) (.inl ⟨by rfl, ?_⟩) hS ?_
      rotate_left
      · intro W hW
        go_simp
        try with_reducible rfl
      try simp only [Act.put, List.setIfInBounds_toArray, List.set_cons_zero, List.set_cons_succ]
      refine take_d (i := 8) (d := some 36) (v := .pointer (some ⟨g, o + k * 65, none⟩)) rfl rfl (by kernel_rfl) (by kernel_rfl) (by kernel_rfl) (fun _ _ _ h => h) (.inl ⟨by rfl, fun W hW => by have q := HIX.out; go_simp⟩) hS ?_
      try simp only [Act.put, List.setIfInBounds_toArray, List.set_cons_zero, List.set_cons_succ]
      refine take_d (i := 9) (d := some 37) (v := .pointer (some ⟨g, o + k * 65 + 1, none⟩)) rfl rfl (by kernel_rfl) (by kernel_rfl) (by kernel_rfl) (fun _ _ _ h => h) (.inl ⟨by rfl, fun W hW => by go_simp⟩) hS ?_
      try simp only [Act.put, List.setIfInBounds_toArray, List.set_cons_zero, List.set_cons_succ]
      refine take_d (i := 10) (d := some 38) (v := .agg (sc s.x)) rfl rfl (by kernel_rfl) (by kernel_rfl) (by kernel_rfl) (fun _ _ _ h => h) (y_Am (by kernel_rfl) rfl rfl (fun W hW => hW.2) hok.len) hS ?_
      try simp only [Act.put, List.setIfInBounds_toArray, List.set_cons_zero, List.set_cons_succ]
      refine wpAnyH_all (rs := [11]) (by kernel_rfl) (by simp) (fun i hi => ?_)
      simp only [List.mem_cons, List.not_mem_nil, or_false] at hi
      subst hi
      refine .inl ?_
      go_simp
      refine (RWrite_any HK0.out.n HLB.out s.n hok.len hok.byt).mono ?_
      rintro e wc ⟨v9, rfl, hw1⟩
      have hS : wc.cell? ⟨g, o + k * 65, none⟩ = some (.int .i64 s.n) ∧ wc.rangeAt g (o + k * 65 + 1) (bv s.x) := ⟨cell_below hK0.1 hw1.2.2, range_below hK0.2 hw1.2.2⟩
      refine ⟨hS, ?_⟩
      have HW1 := Lib.hid hw1
      clear hw1
      try simp only [Act.put, List.setIfInBounds_toArray, List.set_cons_zero, List.set_cons_succ]
      refine take_d (i := 12) (d := some 27) (v := ?_) rfl rfl (by kernel_rfl) (by kernel_rfl) (by kernel_rfl) (fun _ _ _ h => h) (.inl ⟨by rfl, ?_⟩) hS ?_
      rotate_left
      · intro W hW
        go_simp
        try with_reducible rfl
      try simp only [Act.put, List.setIfInBounds_toArray, List.set_cons_zero, List.set_cons_succ]
      refine take_d (i := 13) (d := some 40) (v := ?_) rfl rfl (by kernel_rfl) (by kernel_rfl) (by kernel_rfl) (fun _ _ _ h => h) (.inl ⟨by rfl, ?_⟩) hS ?_
      rotate_left
      · intro W hW
        go_simp
        try with_reducible rfl
      try simp only [Act.put, List.setIfInBounds_toArray, List.set_cons_zero, List.set_cons_succ]
      refine take_d (i := 14) (d := some 41) (v := ?_) rfl rfl (by kernel_rfl) (by kernel_rfl) (by kernel_rfl) (fun _ _ _ h => h) (.inl ⟨by rfl, ?_⟩) hS ?_
      rotate_left
      · intro W hW
        go_simp
        try with_reducible rfl
      try simp only [Act.put, List.setIfInBounds_toArray, List.set_cons_zero, List.set_cons_succ]
      refine take_d (i := 15) (d := some 11) (v := ?_) rfl rfl (by kernel_rfl) (by kernel_rfl) (by kernel_rfl) (fun _ _ _ h => h) (.inl ⟨by rfl, ?_⟩) hS ?_
      rotate_left
      · intro W hW
        go_simp
        try with_reducible rfl
      try simp only [Act.put, List.setIfInBounds_toArray, List.set_cons_zero, List.set_cons_succ]
      refine take_d (i := 16) (d := some 12) (v := ?_) rfl rfl (by kernel_rfl) (by kernel_rfl) (by kernel_rfl) (fun _ _ _ h => h) (.inl ⟨by rfl, ?_⟩) hS ?_
      rotate_left
      · intro W hW
        go_simp
        try with_reducible rfl
      try simp only [Act.put, List.setIfInBounds_toArray, List.set_cons_zero, List.set_cons_succ]
      refine wpAnyH_done (by kernel_rfl) ?_ _
      have HK1 := Lib.hid (HK0.out.half HW1.out)
      have HK2 := Lib.hid HK1.out.drew
      clear hK0 hS
      go_wp2
      have hK0 := HAC.out wc.drew HK2.out.below
      refine wp_region_held_drew (S := fun W => W.cell? ⟨g, o + k * 65, none⟩ = some (.int .i64 s.n) ∧ W.rangeAt g (o + k * 65 + 1) (bv s.x)) (by kernel_rfl) hK0 (fun _ => ?_)
      have hS := hK0
      refine take_d (i := 0) (d := some 43) (v := ?_) rfl rfl (by kernel_rfl) (by kernel_rfl) (by kernel_rfl) (fun _ _ _ h => h) (.inl ⟨by rfl, ?_⟩) hS ?_
      rotate_left
      · intro W hW
        go_simp
        try with_reducible rfl
      try simp only [Act.put, List.setIfInBounds_toArray, List.set_cons_zero, List.set_cons_succ]
      refine take_d (i := 1) (d := some 44) (v := ?_) rfl rfl (by kernel_rfl) (by kernel_rfl) (by kernel_rfl) (fun _ _ _ h => h) (.inl ⟨by rfl, ?_⟩) hS ?_
      rotate_left
      · intro W hW
        go_simp
        try with_reducible rfl
      try simp only [Act.put, List.setIfInBounds_toArray, List.set_cons_zero, List.set_cons_succ]
      refine take_d (i := 2) (d := some 45) (v := ?_) rfl rfl (by kernel_rfl) (by kernel_rfl) (by kernel_rfl) (fun _ _ _ h => h) (.inl ⟨by rfl, ?_⟩) hS ?_
      rotate_left
      · intro W hW
        go_simp
        try with_reducible rfl
      try simp only [Act.put, List.setIfInBounds_toArray, List.set_cons_zero, List.set_cons_succ]
      refine take_d (i := 3) (d := some 46) (v := .pointer (some ⟨g, o + k * 65, none⟩)) rfl rfl (by kernel_rfl) (by kernel_rfl) (by kernel_rfl) (fun _ _ _ h => h) (.inl ⟨by rfl, fun W hW => by have q := HIX.out; go_simp⟩) hS ?_
      try simp only [Act.put, List.setIfInBounds_toArray, List.set_cons_zero, List.set_cons_succ]
      refine take_d (i := 4) (d := some 47) (v := ?_) rfl rfl (by kernel_rfl) (by kernel_rfl) (by kernel_rfl) (fun _ _ _ h => h) (.inl ⟨by rfl, ?_⟩) hS ?_
      rotate_left
      · intro W hW
        go_simp
        try with_reducible rfl
      try simp only [Act.put, List.setIfInBounds_toArray, List.set_cons_zero, List.set_cons_succ]
      refine take_d (i := 5) (d := some 48) (v := ?_) rfl rfl (by kernel_rfl) (by kernel_rfl) (by kernel_rfl) (fun _ _ _ h => h) (.inl ⟨by rfl, ?_⟩) hS ?_
      rotate_left
      · intro W hW
        have q := hW.1
        go_simp
        try with_reducible rfl
      try simp only [Act.put, List.setIfInBounds_toArray, List.set_cons_zero, List.set_cons_succ]
      refine take_d (i := 6) (d := some 49) (v := ?_) rfl rfl (by kernel_rfl) (by kernel_rfl) (by kernel_rfl) (fun _ _ _ h => h) (.inl ⟨by rfl, ?_⟩) hS ?_
      rotate_left
      · intro W hW
        go_simp
        try with_reducible rfl
      try simp only [Act.put, List.setIfInBounds_toArray, List.set_cons_zero, List.set_cons_succ]
      refine take_d (i := 7) (d := some 50) (v := ?_) rfl rfl (by kernel_rfl) (by kernel_rfl) (by kernel_rfl) (fun _ _ _ h => h) (.inl ⟨by rfl, ?_⟩) hS ?_
      rotate_left
      · intro W hW
        go_simp
        try with_reducible rfl
      try simp only [Act.put, List.setIfInBounds_toArray, List.set_cons_zero, List.set_cons_succ]
      refine take_d (i := 8) (d := some 51) (v := .pointer (some ⟨g, o + k * 65, none⟩)) rfl rfl (by kernel_rfl) (by kernel_rfl) (by kernel_rfl) (fun _ _ _ h => h) (.inl ⟨by rfl, fun W hW => by have q := HIX.out; go_simp⟩) hS ?_
      try simp only [Act.put, List.setIfInBounds_toArray, List.set_cons_zero, List.set_cons_succ]
      refine take_d (i := 9) (d := some 52) (v := .pointer (some ⟨g, o + k * 65 + 1, none⟩)) rfl rfl (by kernel_rfl) (by kernel_rfl) (by kernel_rfl) (fun _ _ _ h => h) (.inl ⟨by rfl, fun W hW => by go_simp⟩) hS ?_
      try simp only [Act.put, List.setIfInBounds_toArray, List.set_cons_zero, List.set_cons_succ]
      refine take_d (i := 10) (d := some 53) (v := .agg (sc s.x)) rfl rfl (by kernel_rfl) (by kernel_rfl) (by kernel_rfl) (fun _ _ _ h => h) (y_Am (by kernel_rfl) rfl rfl (fun W hW => hW.2) hok.len) hS ?_
      try simp only [Act.put, List.setIfInBounds_toArray, List.set_cons_zero, List.set_cons_succ]
      refine take_d (i := 13) (d := some 56) (v := ?_) rfl rfl (by kernel_rfl) (by kernel_rfl) (by kernel_rfl) (fun _ _ _ h => h) (.inl ⟨by rfl, ?_⟩) hS ?_
      rotate_left
      · intro W hW
        go_simp
        try with_reducible rfl
      try simp only [Act.put, List.setIfInBounds_toArray, List.set_cons_zero, List.set_cons_succ]
      refine wpAnyH_all (rs := [11]) (by kernel_rfl) (by simp) (fun i hi => ?_)
      simp only [List.mem_cons, List.not_mem_nil, or_false] at hi
      subst hi
      refine .inl ?_
      go_simp
      refine (Write_any HK2.out.dk s.n hok.len hok.byt).mono ?_
      rintro e wc ⟨rfl, hw2⟩
      have HK3 := Lib.hid (HK2.out.step hw2)
      have hS : wc.cell? ⟨g, o + k * 65, none⟩ = some (.int .i64 s.n) ∧ wc.rangeAt g (o + k * 65 + 1) (bv s.x) := HAC.out wc HK3.out.below
      refine ⟨hS, ?_⟩
      clear hw2
      try simp only [Act.put, List.setIfInBounds_toArray, List.set_cons_zero, List.set_cons_succ]
      refine wpAnyH_all (rs := [12]) (by kernel_rfl) (by simp) (fun i hi => ?_)
      simp only [List.mem_cons, List.not_mem_nil, or_false] at hi
      subst hi
      refine .inl ?_
      go_simp
      refine (num_any _ _).mono ?_
      rintro e wc ⟨rfl, rfl⟩
      refine ⟨hS, ?_⟩
      try simp only [Act.put, List.setIfInBounds_toArray, List.set_cons_zero, List.set_cons_succ]
      refine take_d (i := 14) (d := some 57) (v := ?_) rfl rfl (by kernel_rfl) (by kernel_rfl) (by kernel_rfl) (fun _ _ _ h => h) (.inl ⟨by rfl, ?_⟩) hS ?_
      rotate_left
      · intro W hW
        go_simp
        try with_reducible rfl
      try simp only [Act.put, List.setIfInBounds_toArray, List.set_cons_zero, List.set_cons_succ]
      refine wpAnyH_done (by kernel_rfl) ?_ _
      clear hK0 hS
      go_wp2
      refine ⟨⟨k + 1, by omega, by go_num, ?_⟩, ?_⟩
      · show PlI w S P (plB P (xs.take (k + 1))) F _ _
        rw [HT.out]
        exact HK3.out
      · simp [natI]; omega
    · obtain rfl : k = xs.length := by omega
      have HK9 := Lib.hid (show PlI w S P (plB P xs) F _ wr from by have := HK.out; rw [List.take_length] at this; exact this)
      clear hmk
      go_wp2_with (go_at_call 12; refine (num_any _ _).mono ?_; rintro e w' ⟨rfl, rfl⟩)
      go_ret3
      exact ⟨_, _, _, rfl, HK9.out⟩
end Go.Proofs.Ytbinpapgfddafaa

/-
  Layer 8: is of the statements: a disk has just these bytes: walk. Written by gen_is.py.
-/
import Derived.Test.YtbinpapgfddafaaBytes
import Derived.Test.YtbinpapgfddafaaUsedL
import Derived.Test.YtbinpapgfddafaaRef2
namespace Go.Proofs.Ytbinpapgfddafaa
open Go.RowKit
set_option maxHeartbeats 1000000
set_option linter.unusedVariables false
set_option linter.unusedSimpArgs false

/-- Slices that read so. -/
def Reads (L : List (Value × List Int)) (W : World) : Prop := ∀ p ∈ L, NumsIn .u8 W p.1 p.2
theorem Reads.below {L : List (Value × List Int)} {W W' : World} (h : Reads L W) (hb : Below W.heap.size W W') : Reads L W' := fun p hp => (h p hp).below hb
theorem Reads.nil (W : World) : Reads [] W := fun p hp => by cases hp
theorem Reads.cons {L : List (Value × List Int)} {W : World} (h : Reads L W) {v : Value} {l : List Int} (hn : NumsIn .u8 W v l) : Reads ((v, l) :: L) W := fun p hp => by
  rcases List.mem_cons.1 hp with rfl | hp
  · exact hn
  · exact h p hp
theorem Reads.tail {L : List (Value × List Int)} {W : World} {p : Value × List Int} (h : Reads (p :: L) W) : Reads L W := fun q hq => h q (List.mem_cons_of_mem _ hq)
structure HeldG (I : World → Prop) (L : List (Value × List Int)) (W : World) : Prop where
  st : Stable I
  i : I W
  reads : Reads L W
section
variable {I : World → Prop} {L : List (Value × List Int)} {W W' : World}
theorem HeldG.after (h : HeldG I L W) (hb : Below W.heap.size W W') : HeldG I L W' := ⟨h.st, h.st _ _ h.i hb, h.reads.below hb⟩
theorem HeldG.cons (h : HeldG I L W) {v : Value} {x : List Int} (hn : NumsIn .u8 W v x) : HeldG I ((v, x) :: L) W := ⟨h.st, h.i, h.reads.cons hn⟩
theorem HeldG.tail {p : Value × List Int} (h : HeldG I (p :: L) W) : HeldG I L W := ⟨h.st, h.i, h.reads.tail⟩
theorem HeldG.drew (h : HeldG I L W) : HeldG I L W.drew := h.after (Below.refl _ _).drew
theorem HeldG.get (h : HeldG I L W) (v : Value) (l : List Int) (hm : (v, l) ∈ L) : NumsIn .u8 W v l := h.reads (v, l) hm
theorem anyH_heldG {P : Program} {md : Region.Mode} {ops : Array Oper} {Q : Exit → Act → World → Prop} {p : Value × List Int} {w0 : World} (_h : HeldG I (p :: L) w0) {fuel : Nat} {listed : Array Bool} {a : Act}
    (h : wpAnyH P md ops Q (HeldG I (p :: L)) fuel listed a W) : wpAnyH P md ops Q (HeldG I L) fuel listed a W := anyH_more (fun _ h => h.tail) _ _ _ _ h
end
structure IsI (w : World) (S P : Nat) (b : List Int) (F : Nat → Prop) (v : Value) (W : World) : Prop where
  dk : Dk W S P b F
  n : NumsIn .u8 W v b
  below : Below w.heap.size w W
theorem isI_stable (w : World) (S P : Nat) (b : List Int) (F : Nat → Prop) (v : Value) : Stable (IsI w S P b F v) := fun W W' h hb => ⟨h.dk.below hb, h.n.below hb, h.below.trans (hb.mono h.below.size)⟩
set_option maxRecDepth 100000 in
theorem is_any {w : World} {S P : Nat} {b : List Int} {F : Nat → Prop} {v : Value} (h : Dk w S P b F) (hv : NumsIn .u8 w v b) : Calls Try.prog 14 #[.pointer (some ⟨S, 0, none⟩), v] w fun e w' => e = .returned (.bool true) ∧ Below w.heap.size w w' := by
  have HI := Lib.hid (show HeldG (IsI w S P b F v) [] w.drew from ⟨isI_stable w S P b F v, ⟨h.keep fun _ _ => rfl, hv.keep fun _ _ => rfl, (Below.refl _ _).drew⟩, Reads.nil _⟩)
  obtain ⟨ao, c, rfl, hc, _⟩ := hv.form
  have hl := h.dsk.len
  have hhi := h.dsk.hi
  have HL := Lib.hid (show b.length ≤ 3000 by omega)
  have HD := Lib.hid (show b.length / 64 = P from h.dsk.div)
  have ht : (b.length : Int).tdiv 64 = (P : Int) := by rw [tdiv64, h.dsk.div]
  have HT := Lib.hid ht
  clear h hv hl ht
  go_enter Try.func14, Try.ntmps14
  go_wp2
  have hK0 := HI.out
  refine wp_region_held_drew (S := _) (by kernel_rfl) hK0 (fun _ => ?_)
  have hS := hK0
  refine take_d (i := 0) (d := some 5) (v := ?_) rfl rfl (by kernel_rfl) (by kernel_rfl) (by kernel_rfl) (fun _ _ _ h => h) (.inl ⟨by rfl, ?_⟩) hS ?_
  rotate_left
  · intro W hW
    go_simp
    try with_reducible rfl
  try simp only [Act.put, List.setIfInBounds_toArray, List.set_cons_zero, List.set_cons_succ]
  refine take_d (i := 3) (d := some 8) (v := ?_) rfl rfl (by kernel_rfl) (by kernel_rfl) (by kernel_rfl) (fun _ _ _ h => h) (.inl ⟨by rfl, ?_⟩) hS ?_
  rotate_left
  · intro W hW
    go_simp
    try with_reducible rfl
  try simp only [Act.put, List.setIfInBounds_toArray, List.set_cons_zero, List.set_cons_succ]
  refine take_d (i := 4) (d := some 9) (v := .string (strOfNums b)) rfl rfl (by kernel_rfl) (by kernel_rfl) (by kernel_rfl) (fun _ _ _ h => h) (y_conv (by kernel_rfl) rfl rfl (fun W hW => hW.i.n)) hS ?_
  try simp only [Act.put, List.setIfInBounds_toArray, List.set_cons_zero, List.set_cons_succ]
  refine wpAnyH_all (rs := [1]) (by kernel_rfl) (by simp) (fun i hi => ?_)
  simp only [List.mem_cons, List.not_mem_nil, or_false] at hi
  subst hi
  refine .inl ?_
  go_simp
  refine (Bytes_any hS.i.dk).mono ?_
  rintro e wc ⟨v1, rfl, hn, _, hb⟩
  have hS2 := (hS.after hb).cons hn
  refine ⟨hS.after hb, ?_⟩
  refine anyH_heldG hS2 ?_
  have hS := hS2
  clear hS2 hn hb
  try simp only [Act.put, List.setIfInBounds_toArray, List.set_cons_zero, List.set_cons_succ]
  refine take_d (i := 2) (d := some 7) (v := .string (strOfNums b)) rfl rfl (by kernel_rfl) (by kernel_rfl) (by kernel_rfl) (fun _ _ _ h => h) (y_conv (by kernel_rfl) rfl rfl (fun W hW => hW.get v1 b (by simp))) hS ?_
  try simp only [Act.put, List.setIfInBounds_toArray, List.set_cons_zero, List.set_cons_succ]
  refine take_d (i := 5) (d := some 10) (v := .bool true) rfl rfl (by kernel_rfl) (by kernel_rfl) (by kernel_rfl) (fun _ _ _ h => h) (.inl ⟨by rfl, fun W hW => by go_simp⟩) hS ?_
  try simp only [Act.put, List.setIfInBounds_toArray, List.set_cons_zero, List.set_cons_succ]
  refine take_d (i := 6) (d := some 11) (v := ?_) rfl rfl (by kernel_rfl) (by kernel_rfl) (by kernel_rfl) (fun _ _ _ h => h) (.inl ⟨by rfl, ?_⟩) hS ?_
  rotate_left
  · intro W hW
    go_simp
    try with_reducible rfl
  try simp only [Act.put, List.setIfInBounds_toArray, List.set_cons_zero, List.set_cons_succ]
  refine take_d (i := 7) (d := some 12) (v := ?_) rfl rfl (by kernel_rfl) (by kernel_rfl) (by kernel_rfl) (fun _ _ _ h => h) (.inl ⟨by rfl, ?_⟩) hS ?_
  rotate_left
  · intro W hW
    go_simp
    try with_reducible rfl
  try simp only [Act.put, List.setIfInBounds_toArray, List.set_cons_zero, List.set_cons_succ]
  refine take_d (i := 9) (d := some 14) (v := ?_) rfl rfl (by kernel_rfl) (by kernel_rfl) (by kernel_rfl) (fun _ _ _ h => h) (.inl ⟨by rfl, ?_⟩) hS ?_
  rotate_left
  · intro W hW
    go_simp
    try with_reducible rfl
  try simp only [Act.put, List.setIfInBounds_toArray, List.set_cons_zero, List.set_cons_succ]
  refine take_d (i := 10) (d := some 15) (v := ?_) rfl rfl (by kernel_rfl) (by kernel_rfl) (by kernel_rfl) (fun _ _ _ h => h) (.inl ⟨by rfl, ?_⟩) hS ?_
  rotate_left
  · intro W hW
    go_simp
    try with_reducible rfl
  try simp only [Act.put, List.setIfInBounds_toArray, List.set_cons_zero, List.set_cons_succ]
  refine take_d (i := 11) (d := some 16) (v := .int .i64 (P : Int)) rfl rfl (by kernel_rfl) (by kernel_rfl) (by kernel_rfl) (fun _ _ _ h => h) (.inl ⟨by rfl, fun W hW => by have q := HT.out; go_simp; rw [IntKind.wrap_i64]; omega⟩) hS ?_
  try simp only [Act.put, List.setIfInBounds_toArray, List.set_cons_zero, List.set_cons_succ]
  refine wpAnyH_all (rs := [8]) (by kernel_rfl) (by simp) (fun i hi => ?_)
  simp only [List.mem_cons, List.not_mem_nil, or_false] at hi
  subst hi
  refine .inl ?_
  go_simp
  refine (Sectors_any hS.i.dk).mono ?_
  rintro e wc ⟨rfl, rfl⟩
  refine ⟨hS, ?_⟩
  try simp only [Act.put, List.setIfInBounds_toArray, List.set_cons_zero, List.set_cons_succ]
  refine take_d (i := 12) (d := some 17) (v := ?_) rfl rfl (by kernel_rfl) (by kernel_rfl) (by kernel_rfl) (fun _ _ _ h => h) (.inl ⟨by rfl, ?_⟩) hS ?_
  rotate_left
  · intro W hW
    go_simp
    try with_reducible rfl
  try simp only [Act.put, List.setIfInBounds_toArray, List.set_cons_zero, List.set_cons_succ]
  refine take_d (i := 13) (d := some 18) (v := ?_) rfl rfl (by kernel_rfl) (by kernel_rfl) (by kernel_rfl) (fun _ _ _ h => h) (.inl ⟨by rfl, ?_⟩) hS ?_
  rotate_left
  · intro W hW
    go_simp
    try with_reducible rfl
  try simp only [Act.put, List.setIfInBounds_toArray, List.set_cons_zero, List.set_cons_succ]
  refine take_d (i := 14) (d := some 19) (v := ?_) rfl rfl (by kernel_rfl) (by kernel_rfl) (by kernel_rfl) (fun _ _ _ h => h) (.inl ⟨by rfl, ?_⟩) hS ?_
  rotate_left
  · intro W hW
    go_simp
    try with_reducible rfl
  try simp only [Act.put, List.setIfInBounds_toArray, List.set_cons_zero, List.set_cons_succ]
  refine take_d (i := 15) (d := some 20) (v := ?_) rfl rfl (by kernel_rfl) (by kernel_rfl) (by kernel_rfl) (fun _ _ _ h => h) (.inl ⟨by rfl, ?_⟩) hS ?_
  rotate_left
  · intro W hW
    go_simp
    try with_reducible rfl
  try simp only [Act.put, List.setIfInBounds_toArray, List.set_cons_zero, List.set_cons_succ]
  refine take_d (i := 16) (d := some 21) (v := ?_) rfl rfl (by kernel_rfl) (by kernel_rfl) (by kernel_rfl) (fun _ _ _ h => h) (.inl ⟨by rfl, ?_⟩) hS ?_
  rotate_left
  · intro W hW
    go_simp
    try with_reducible rfl
  try simp only [Act.put, List.setIfInBounds_toArray, List.set_cons_zero, List.set_cons_succ]
  refine wpAnyH_all (rs := [17]) (by kernel_rfl) (by simp) (fun i hi => ?_)
  simp only [List.mem_cons, List.not_mem_nil, or_false] at hi
  subst hi
  refine .inl ?_
  go_simp
  refine (RUsed_any hS.i.n HL.out).mono ?_
  rintro e wc ⟨v2, rfl, hn, _, hb⟩
  rw [HD.out] at hn
  have hS2 := hS.after hb
  refine ⟨hS2, ?_⟩
  have hS := hS2
  have HN2 := Lib.hid hn
  clear hS2 hn hb
  try simp only [Act.put, List.setIfInBounds_toArray, List.set_cons_zero, List.set_cons_succ]
  refine wpAnyH_all (rs := [18]) (by kernel_rfl) (by simp) (fun i hi => ?_)
  simp only [List.mem_cons, List.not_mem_nil, or_false] at hi
  subst hi
  refine .inl ?_
  go_simp
  refine (used_any hS.i.dk HN2.out).mono ?_
  rintro e wc ⟨rfl, hb⟩
  have hS2 := hS.after hb
  refine ⟨hS2, ?_⟩
  have hS := hS2
  clear hS2 hb
  try simp only [Act.put, List.setIfInBounds_toArray, List.set_cons_zero, List.set_cons_succ]
  refine take_d (i := 19) (d := some 24) (v := ?_) rfl rfl (by kernel_rfl) (by kernel_rfl) (by kernel_rfl) (fun _ _ _ h => h) (.inl ⟨by rfl, ?_⟩) hS ?_
  rotate_left
  · intro W hW
    go_simp
    try with_reducible rfl
  try simp only [Act.put, List.setIfInBounds_toArray, List.set_cons_zero, List.set_cons_succ]
  refine take_d (i := 20) (d := some 4) (v := ?_) rfl rfl (by kernel_rfl) (by kernel_rfl) (by kernel_rfl) (fun _ _ _ h => h) (.inl ⟨by rfl, ?_⟩) hS ?_
  rotate_left
  · intro W hW
    go_simp
    try with_reducible rfl
  try simp only [Act.put, List.setIfInBounds_toArray, List.set_cons_zero, List.set_cons_succ]
  refine wpAnyH_done (by kernel_rfl) ?_ _
  go_wp2
  go_ret
  exact ⟨rfl, hS.i.below⟩
end Go.Proofs.Ytbinpapgfddafaa

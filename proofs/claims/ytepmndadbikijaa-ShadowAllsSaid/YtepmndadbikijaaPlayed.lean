/-
  Layer 3: played of the statements: a shadow behind calls, and the document's sets: walk.
-/
import Derived.Test.YtepmndadbikijaaWorks
import Derived.Test.YtepmndadbikijaaRef2
import Derived.Test.YtepmndadbikijaaArgs
namespace Go.Proofs.Ytepmndadbikijaa
open Go.RowKit
set_option maxHeartbeats 1000000

/-- A call. -/
def step1 (P : Nat) (l : List Int) (s : Step4) : List Int := if s.k = 0 then fillR P l s.a 1 s.x else fillR P l s.a s.b s.x
def plays (P : Nat) (xs : List Step4) : List Int := xs.foldl (step1 P) (List.replicate (64 * P) 0)
/-- A shadow and the document's list of the same sets, apart. -/
def Both (w : World) (S P : Nat) (l : List Int) (g c : Nat) (W : World) : Prop :=
  ∃ F, Sh W S P l F ∧ (∀ k, F k → w.heap.size ≤ k) ∧ ¬ F g ∧ Rw W g c l ∧ w.heap.size ≤ g ∧ Below w.heap.size w W
section
variable {w W W' : World} {S P g c : Nat} {l : List Int}
theorem Both.below (h : Both w S P l g c W) (hb : Below W.heap.size W W') : Both w S P l g c W' := by
  obtain ⟨F, h1, h2, h3, h4, h5, h6⟩ := h
  exact ⟨F, h1.below hb, h2, h3, h4.below hb, h5, h6.trans (hb.mono h6.size)⟩
theorem Both.bytes (h : Both w S P l g c W) : Bytes P l := by obtain ⟨F, h1, _⟩ := h; exact h1.bytes
/-- The document's next list lies apart from the shadow's blocks. -/
theorem both_next {F : Nat → Prop} (h1 : Sh W S P l F) (h2 : ∀ k, F k → w.heap.size ≤ k) (h3 : ¬ F g) (h5 : w.heap.size ≤ g) (h6 : Below w.heap.size w W)
    {l' : List Int} {g' c' : Nat} {W1 W2 : World} (hr : Rw W1 g' c' l') (hg : g' = g ∨ W.heap.size ≤ g') (hb : Below W.heap.size W W1) (hp : PutPost W1 S P l' F W2) : Both w S P l' g' c' W2 := by
  obtain ⟨F', p1, p2, p3⟩ := hp
  have hn : ¬ F g' := by
    rcases hg with rfl | hg
    · exact h3
    · intro hf; have := h1.lt _ hf; omega
  have z := hb.size
  have z6 := h6.size
  have hgl := hr.lt
  refine ⟨F', p1, fun k hk => ?_, fun hf => ?_, hr.kept p2 hn, ?_, (h6.trans (hb.mono z6)).trans (p2.below (by omega) h2)⟩
  · rcases p3 k hk with h | h
    · exact h2 k h
    · omega
  · rcases p3 _ hf with h | h
    · exact hn h
    · omega
  · rcases hg with rfl | hg
    · exact h5
    · omega
end
theorem StepsIn.form {w : World} {v : Value} {xs : List Step4} (h : StepsIn w v xs) : ∃ (o : Option Addr) (c : Nat), v = .slice o xs.length c ∧ xs.length ≤ c ∧ xs.length ≤ maxLen ∧ (∀ (i : Nat) s, xs[i]? = some s → W32 s.x ∧ ∃ a, o = some a ∧ w.cell? (a.add (i * 4)) = some (.int .i64 s.k) ∧ w.cell? (a.add (i * 4 + 1)) = some (.int .i64 s.a) ∧ w.cell? (a.add (i * 4 + 2)) = some (.int .i64 s.b) ∧ w.cell? (a.add (i * 4 + 3)) = some (.int .u32 s.x)) := by
  rcases h with ⟨rfl, rfl⟩ | ⟨a, c, rfl, hcap, hl, hc, hw⟩
  · exact ⟨none, 0, rfl, by simp, by simp, fun i x hx => by simp at hx⟩
  · exact ⟨some a, c, rfl, hcap, hl, fun i x hx => ⟨hw x (List.mem_of_getElem? hx), a, rfl, hc i x hx⟩⟩
theorem at_add {w : World} {a : Addr} {i j : Nat} {v : Value} (hj : j ≠ 0) (h : w.cell? (a.add (i + j)) = some v) : w.cell? ⟨(a.add i).block, (a.add i).off + j, none⟩ = some v := by
  rw [← Go.Deep.add_add] at h
  rw [← h]
  congr 1
  unfold Addr.add
  simp [hj]
theorem below_cell {w w' : World} (hb : Below w.heap.size w w') {p : Addr} {v : Value} (h : w.cell? p = some v) : w'.cell? p = some v := by
  rw [← h]; unfold World.cell?; rw [hb.block _ (World.block_lt_of_cell? _ _ h)]
theorem RSet_at {w W : World} {S P g c : Nat} {l : List Int} (h : Both w S P l g c W) (a x : Int) (hx : W32 x) :
    Calls Try.prog 29 #[rwV g c l, .int .i64 a, .int .u32 x] W fun e w' => RF W w' P g l a 1 x e := by
  obtain ⟨F, h1, h2, h3, h4, h5, h6⟩ := h
  exact RSet_any h4 h1.bytes a x hx
theorem RFill_at {w W : World} {S P g c : Nat} {l : List Int} (h : Both w S P l g c W) (a n x : Int) (hx : W32 x) :
    Calls Try.prog 30 #[rwV g c l, .int .i64 a, .int .i64 n, .int .u32 x] W fun e w' => RF W w' P g l a n x e := by
  obtain ⟨F, h1, h2, h3, h4, h5, h6⟩ := h
  exact RFill_any h4 h1.bytes a n x hx
theorem Set_at {w W W1 : World} {S P g c g' c' : Nat} {l : List Int} (h : Both w S P l g c W) (a x : Int) (hx : W32 x) (hr : Rw W1 g' c' (fillR P l a 1 x)) (hg : g' = g ∨ W.heap.size ≤ g') (hb : Below W.heap.size W W1) :
    Calls Try.prog 16 #[.pointer (some ⟨S, 0, none⟩), .int .i64 a, .int .u32 x] W1 fun e W' => e = .returned (.int .i64 (refR P a 1 x)) ∧ Both w S P (fillR P l a 1 x) g' c' W' := by
  obtain ⟨F, h1, h2, h3, h4, h5, h6⟩ := h
  exact (Set_any (h1.below hb) a x hx).mono fun e W' ⟨he, hp⟩ => ⟨he, both_next h1 h2 h3 h5 h6 hr hg hb hp⟩
theorem Fill_at {w W W1 : World} {S P g c g' c' : Nat} {l : List Int} (h : Both w S P l g c W) (a n x : Int) (hx : W32 x) (hr : Rw W1 g' c' (fillR P l a n x)) (hg : g' = g ∨ W.heap.size ≤ g') (hb : Below W.heap.size W W1) :
    Calls Try.prog 17 #[.pointer (some ⟨S, 0, none⟩), .int .i64 a, .int .i64 n, .int .u32 x] W1 fun e W' => e = .returned (.int .i64 (refR P a n x)) ∧ Both w S P (fillR P l a n x) g' c' W' := by
  obtain ⟨F, h1, h2, h3, h4, h5, h6⟩ := h
  exact (Fill_any (h1.below hb) a n x hx).mono fun e W' ⟨he, hp⟩ => ⟨he, both_next h1 h2 h3 h5 h6 hr hg hb hp⟩
theorem num_eq (a : Int) (w : World) : Calls Try.prog 15 #[.int .i64 a] w fun e w' => e = .returned (.int .i64 a) ∧ w = w' := num_any a w
theorem box4 {w : World} {B : Nat} {a b c d : Value} {t : TypeId} (h : w.heap[B]? = some (.cells #[a, b, c, d] t (0, 0))) :
    w.cell? ⟨B, 0, none⟩ = some a ∧ w.cell? ⟨B, 1, none⟩ = some b ∧ w.cell? ⟨B, 2, none⟩ = some c ∧ w.cell? ⟨B, 3, none⟩ = some d := by
  simp [World.cell?, h]
/-- The calls behind k of them. -/
def upto (P : Nat) (xs : List Step4) (k : Nat) : List Int := plays P (xs.take k)
theorem upto_zero (P : Nat) (xs : List Step4) : upto P xs 0 = List.replicate (64 * P) 0 := by simp [upto, plays]
theorem upto_all (P : Nat) (xs : List Step4) {k : Nat} (h : xs.length ≤ k) : upto P xs k = plays P xs := by simp [upto, List.take_of_length_le h]
theorem upto_succ (P : Nat) {xs : List Step4} {k : Nat} {s : Step4} (h : xs[k]? = some s) : upto P xs (k + 1) = step1 P (upto P xs k) s := by
  simp [upto, plays, List.take_add_one, h]
theorem both_start {w W1 W2 : World} {P S g c : Nat} {F : Nat → Prop} (hs : Sh W1 S P (List.replicate (64 * P) 0) F) (hF : ∀ k, F k → w.heap.size ≤ k) (hb1 : Below w.heap.size w W1)
    (hr : Rw W2 g c (List.replicate (64 * P) 0)) (hg : W1.heap.size ≤ g) (hb2 : Below W1.heap.size W1 W2) : Both w S P (List.replicate (64 * P) 0) g c W2 :=
  ⟨F, hs.below hb2, hF, fun hf => by have := hs.lt _ hf; omega, hr, by have := hb1.size; omega, hb1.trans (hb2.mono hb1.size)⟩
set_option maxRecDepth 100000 in
theorem played_any (P : Nat) (h0 : 1 ≤ P) (h1 : P ≤ 32) (w : World) (v : Value) (xs : List Step4) (hin : StepsIn w v xs) :
    Calls Try.prog 26 #[.int .i64 (P : Int), v] w fun e w' => ∃ S g c, e = .returned (.tuple #[.pointer (some ⟨S, 0, none⟩), rwV g c (plays P xs), .bool true]) ∧ Both w S P (plays P xs) g c w' := by
  obtain ⟨o, cap, rfl, hcap, hlen, hat⟩ := hin.form
  have HAT := Lib.hid hat
  have hml : xs.length ≤ 9223372036854775807 := by unfold maxLen at hlen; omega
  clear hin hat
  go_enter Try.func26, Try.ntmps26
  go_wp2_with fail
  refine (New_any P h0 h1 _).mono ?_; rintro e W1 ⟨F, rfl, hs, hF, hb1⟩
  go_wp2_with fail
  refine (RNew_any P h0 h1 _).mono ?_; rintro e W2 ⟨g, c, rfl, hr, hg, hb2⟩
  have HB := Lib.hid (both_start hs hF hb1 hr hg hb2)
  rw [← upto_zero P xs] at HB ⊢
  clear hs hF hb1 hr hg hb2
  generalize w.heap.size + 1 = S at *
  go_wp2_with fail
  go_loopw [9, 10] (fun lv i wr => ∃ k : Nat, k ≤ xs.length ∧ i = .int .i64 k ∧ ∃ g c, lv = rwV g c (upto P xs k) ∧ Hid (Both w S P (upto P xs k) g c wr)) (fun _ i _ => xs.length - (intOf i).toNat)
  case atStart => exact ⟨0, by omega, rfl, g, c, rfl, HB.out⟩
  case round =>
    obtain ⟨k, hk, rfl, g, c, rfl, HI⟩ := hrel
    by_cases hlt : k < xs.length
    · obtain ⟨s, hs⟩ : ∃ s, xs[k]? = some s := ⟨_, List.getElem?_eq_getElem hlt⟩
      obtain ⟨hx, a, rfl, ha0, ha1, ha2, ha3⟩ := HAT.out k s hs
      have HU := Lib.hid (upto_succ P hs)
      have hw : Below w.heap.size w wr := by obtain ⟨_, _, _, _, _, _, h⟩ := HI.out; exact h
      have a0 := below_cell hw ha0
      have a1 := at_add (by decide) (below_cell hw ha1)
      have a2 := at_add (by decide) (below_cell hw ha2)
      have a3 := at_add (by decide) (below_cell hw ha3)
      have HX := Lib.hid hx
      generalize upto P xs k = l at *
      generalize hl' : upto P xs (k + 1) = l' at *
      clear ha0 ha1 ha2 ha3 hw hs hx
      by_cases hk0 : s.k = 0
      · have hst : l' = fillR P l s.a 1 s.x := by rw [HU.out, step1, if_pos hk0]
        rw [hk0] at a0
        have hal : Below wr.heap.size wr (wr.alloc (.cells #[.int .i64 0, .int .i64 s.a, .int .i64 s.b, .int .u32 s.x] 47)) := (Below.refl _ _).alloc (Nat.le_refl _) _
        have HB1 := Lib.hid (HI.out.below hal)
        have HN := Lib.hid (heap_alloc_new wr (.cells #[.int .i64 0, .int .i64 s.a, .int .i64 s.b, .int .u32 s.x] 47))
        clear hal
        go_wp2_with fail
        refine (RSet_at HB1.out s.a s.x HX.out).mono ?_; rintro e W3 ⟨g', c', rfl, hr, hg, hb⟩
        have HS := Lib.hid (Set_at HB1.out s.a s.x HX.out hr hg hb)
        obtain ⟨_, m1, m2, m3⟩ := box4 ((hb.block wr.heap.size (by simp)).trans HN.out)
        clear hr hg hb a0 a1 a2 a3 m2
        rw [← hst] at HS ⊢
        go_wp2_with fail
        refine HS.out.mono ?_; rintro e W4 ⟨rfl, hB⟩
        have HB4 := Lib.hid hB
        clear hB
        go_wp2_with (go_at_call 15; refine (num_any _ _).mono ?_; rintro e w' ⟨rfl, rfl⟩)
        go_roundw
        case rel => exact ⟨k + 1, by omega, by go_num, g', c', by rw [hl', hst], by rw [hl']; exact HB4.out⟩
        case measure => simp [intOf]; omega
      · have hst : l' = fillR P l s.a s.b s.x := by rw [HU.out, step1, if_neg hk0]
        have hne : (s.k == 0) = false := by simpa using hk0
        have hal : Below wr.heap.size wr (wr.alloc (.cells #[.int .i64 s.k, .int .i64 s.a, .int .i64 s.b, .int .u32 s.x] 47)) := (Below.refl _ _).alloc (Nat.le_refl _) _
        have HB1 := Lib.hid (HI.out.below hal)
        have HN := Lib.hid (heap_alloc_new wr (.cells #[.int .i64 s.k, .int .i64 s.a, .int .i64 s.b, .int .u32 s.x] 47))
        clear hal
        go_wp2_with fail
        refine (RFill_at HB1.out s.a s.b s.x HX.out).mono ?_; rintro e W3 ⟨g', c', rfl, hr, hg, hb⟩
        have HS := Lib.hid (Fill_at HB1.out s.a s.b s.x HX.out hr hg hb)
        obtain ⟨_, m1, m2, m3⟩ := box4 ((hb.block wr.heap.size (by simp)).trans HN.out)
        clear hr hg hb a0 a1 a2 a3
        rw [← hst] at HS ⊢
        go_wp2_with fail
        refine HS.out.mono ?_; rintro e W4 ⟨rfl, hB⟩
        have HB4 := Lib.hid hB
        clear hB
        go_wp2_with (go_at_call 15; refine (num_any _ _).mono ?_; rintro e w' ⟨rfl, rfl⟩)
        go_roundw
        case rel => exact ⟨k + 1, by omega, by go_num, g', c', by rw [hl', hst], by rw [hl']; exact HB4.out⟩
        case measure => simp [intOf]; omega
    · obtain rfl : k = xs.length := by omega
      go_wp2_with (go_at_call 15; refine (num_any _ _).mono ?_; rintro e w' ⟨rfl, rfl⟩)
      refine bodyPost_ret (v := .tuple #[.pointer (some ⟨S, 0, none⟩), rwV g c (upto P xs xs.length), .bool true]) (by simp [results, Try.results26, go_sem]) rfl ?_
      exact ⟨S, g, c, by rw [upto_all P xs (Nat.le_refl _)], by have := HI.out; rwa [upto_all P xs (Nat.le_refl _)] at this⟩
end Go.Proofs.Ytepmndadbikijaa

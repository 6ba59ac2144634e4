/-
  Layer 4: Text of package isa: a walk.
-/
import Derived.Test.YtcbbinmecnameaaDoorTell
import Derived.Maps.AppendAt
import Derived.Deep.QuietTactic
import Derived.BigQuiet
set_option linter.unusedVariables false
namespace Go.Proofs.YtcbbinmecnameaaDoor
open Go.RowKit Go.Maps
set_option maxHeartbeats 1000000

theorem Text_no (O A B M : Int) (w : World) (h : Env w) (hm : decide (May ⟨O, A, B, M⟩) = false) :
    Calls Tryd.prog 13 #[.agg #[.int .i64 O, .int .i64 A, .int .i64 B, .int .i64 M]] w fun e w' => e = .returned (.tuple #[.string ⟨#[]⟩, .int .i64 2]) ∧ Below w.heap.size w w' := by
  have b0 := (Below.refl w.heap.size w).alloc (Nat.le_refl _) (.cells #[.int .i64 O, .int .i64 A, .int .i64 B, .int .i64 M] 26)
  have HC := Lib.hid (mayBe_any ⟨O, A, B, M⟩ _ (h.below b0))
  rw [hm] at HC
  clear hm
  have HB0 := Lib.hid b0
  clear b0
  go_enter Tryd.func13, Tryd.ntmps13
  go_wp2_with fail
  refine HC.out.mono ?_
  rintro e w2 ⟨rfl, b2⟩
  have BF := Lib.hid (HB0.out.trans (b2.mono (by simp)))
  clear b2
  go_wp2
  go_ret2
  exact ⟨rfl, BF.out⟩

def toldV (l : List (List UInt8)) : List Value := l.map fun x => .string (bytes x)
theorem infoS : (Tryd.prog.info? 9).map (fun i => (i.zero, i.size, i.bytes)) = some (some (.string ⟨#[]⟩), 1, 16) := by kernel_rfl

theorem row_keep {w W : World} {base base' : Nat} {e : TypeId} {v : Value} {n : Nat} {xs : List Value} (h : w.ownsRow base e 1 v n xs) (hb : Below w.heap.size w W) (hbb : base' ≤ base) : W.ownsRow base' e 1 v n xs := by
  obtain ⟨h1, h2⟩ := h
  refine ⟨h1, ?_⟩
  rcases h2 with h2 | ⟨g, cap, cur, a, b, c, d⟩
  · exact .inl h2
  · exact .inr ⟨g, cap, cur, a, by omega, by rw [hb.block g (Array.getElem?_eq_some_iff.1 c).1]; exact c, d⟩

theorem joinTailLen : ∀ (r : List (List UInt8)), (∀ x ∈ r, x.length ≤ 7) → (Lib.joinTail [44, 32] r).length ≤ 9 * r.length
  | [], _ => by simp [Lib.joinTail]
  | x :: r, h => by
    have h1 := joinTailLen r (fun z hz => h z (List.mem_cons_of_mem _ hz))
    have h2 := h x (List.mem_cons_self ..)
    have e : Lib.joinTail [44, 32] (x :: r) = 44 :: 32 :: x ++ Lib.joinTail [44, 32] r := by simp [Lib.joinTail]
    rw [e]; simp; omega
theorem joinLen (xs : List (List UInt8)) (h : ∀ x ∈ xs, x.length ≤ 7) : (Lib.join xs [44, 32]).length ≤ 9 * xs.length := by
  cases xs with
  | nil => simp [Lib.join_nil]
  | cons x r =>
    have h1 := joinTailLen r (fun z hz => h z (List.mem_cons_of_mem _ hz))
    have h2 := h x (List.mem_cons_self ..)
    rw [Lib.join_cons]; simp; omega
theorem told_mem {i : Ins} : ∀ {n : Nat} {x : List UInt8}, x ∈ told i n → ∃ j, x = partT i j
  | 0, x, h => by simp [told] at h
  | n + 1, x, h => by
    unfold told at h
    split at h
    · rcases List.mem_append.1 h with h | h
      · exact told_mem h
      · exact ⟨n, List.mem_singleton.1 h⟩
    · exact told_mem h

set_option maxRecDepth 10000 in
theorem Text_yes (k : Nat) (A B M : Int) (h0 : 0 < k) (hk : k < 29) (w : World) (h : Env w) (hm : May ⟨k, A, B, M⟩) :
    Calls Tryd.prog 13 #[.agg #[.int .i64 (k : Int), .int .i64 A, .int .i64 B, .int .i64 M]] w fun e w' => e = .returned (.tuple #[.string (bytes (txt ⟨k, A, B, M⟩)), .int .i64 0]) ∧ Below w.heap.size w w' := by
  have b0 := (Below.refl w.heap.size w).alloc (Nat.le_refl _) (.cells #[.int .i64 (k : Int), .int .i64 A, .int .i64 B, .int .i64 M] 26)
  have HC := Lib.hid (mayBe_any ⟨k, A, B, M⟩ _ (h.below b0))
  rw [decide_eq_true hm] at HC
  have HM := Lib.hid hm
  have hb := hm.bounds
  clear hm
  have HB0 := Lib.hid b0
  clear b0
  generalize htx : bytes (txt ⟨k, A, B, M⟩) = TX
  have HTX := Lib.hid htx
  clear htx
  go_enter Tryd.func13, Tryd.ntmps13
  go_wp2_with fail
  refine HC.out.mono ?_
  rintro e w2 ⟨rfl, b2⟩
  have BX := (Box.new w ⟨k, A, B, M⟩ 26).below b2
  have BF := Lib.hid (HB0.out.trans (b2.mono (by simp)))
  obtain ⟨c0, c1, c2, c3, cf⟩ := BX
  clear b2 HC HB0
  go_wp2_with fail
  refine (tellers_any k A B M w2).mono ?_
  rintro e w3 ⟨v, g, c, p0, p1, p2, rfl, ⟨rfl, f0, f1, f2, q0, q1, q2⟩, b3⟩
  have d0 : w3.cell? ⟨w.heap.size, 0, none⟩ = some (.int .i64 (k : Int)) := by rw [b3.cell (World.block_lt_of_cell? _ _ c0)]; exact c0
  have lb := World.block_lt_of_cell? _ _ d0
  simp only at lb
  have HE := Lib.hid ((h.below BF.out).below b3)
  have BG := Lib.hid (BF.out.trans (b3.mono BF.out.size))
  clear b3 BF c0 c1 c2 c3 cf h
  obtain ⟨i0, hi, hz0, hz1, hz2⟩ := info_parts infoS
  go_wp2
  go_loopw [4, 13] (fun v i wr => ∃ (n : Nat) (u : Value), n ≤ 3 ∧ u = v ∧ i = .int .i64 n ∧ Hid (wr.ownsRow w3.heap.size 9 1 v (told ⟨k, A, B, M⟩ n).length (toldV (told ⟨k, A, B, M⟩ n))) ∧ Hid (Below w3.heap.size w3 wr)) (fun _ i _ => 3 - (intOf i).toNat)
  case atStart => exact ⟨0, _, by omega, rfl, rfl, World.ownsRow_nil _ _ _ _, Below.refl _ _⟩
  case round =>
    obtain ⟨n, u, hn, rfl, rfl, hrow, hb⟩ := hrel
    have d1 : wr.cell? ⟨w.heap.size, 0, none⟩ = some (.int .i64 (k : Int)) := by rw [hb.out.cell lb]; exact d0
    have HW := Lib.hid (HE.out.below hb.out)
    by_cases hlt : n < 3
    · obtain rfl | rfl | rfl : n = 0 ∨ n = 1 ∨ n = 2 := by omega
      · have fc : wr.cell? ⟨g, 0, none⟩ = some (.func (.func 28) #[] #[.pointer (some ⟨p0, 0, none⟩)]) := by rw [hb.out.cell (World.block_lt_of_cell? _ _ f0)]; exact f0
        have hq : wr.cell? ⟨p0, 0, none⟩ = some (.int .i64 A) := by rw [hb.out.cell (World.block_lt_of_cell? _ _ q0)]; exact q0
        have HCL := Lib.hid (tell11_any p0 A (by omega) (by omega) wr HW.out hq)
        cases hu : uses k 0 with
        | true =>
          have HT := Lib.hid (told_yes (i := ⟨k, A, B, M⟩) (k := 0) hu)
          have HU := Lib.hid (uses_any k 0 hk (by omega) wr HW.out)
          rw [hu] at HU
          clear hu fc hq
          have hl := told_len ⟨k, A, B, M⟩ 0
          have fc : wr.cell? ⟨g, 0, none⟩ = some (.func (.func 28) #[] #[.pointer (some ⟨p0, 0, none⟩)]) := by rw [hb.out.cell (World.block_lt_of_cell? _ _ f0)]; exact f0
          go_wp2_with fail
          refine HU.out.mono ?_
          rintro e w' ⟨rfl, rfl⟩
          go_wp2_with fail
          refine HCL.out.mono ?_
          rintro e w4 ⟨rfl, b4⟩
          have hrow4 := row_keep hrow.out b4 (Nat.le_refl _)
          have hb4 := hb.out.trans (b4.mono hb.out.size)
          have hs4 := hb4.size
          have HB4 := Lib.hid hb4
          clear b4 hb4
          go_wp2_with (at_builtin; refine wpList_append_own _ rfl _ _ 43 rfl w3.heap.size 9 i0 (.string ⟨#[]⟩) 1 16 Tryd.underlying43 hi hz0 hz1 hz2 rfl (by decide) _ _ _ rfl (hrow4.alloc _) ⟨w4.heap.size, 0, none⟩ 1 1 [.string (bytes (partT ⟨k, A, B, M⟩ 0))] rfl rfl (cell_one_new _ _ _) (by simp [Value.oneCell']) (by unfold maxLen; omega) (by omega) (by simp; omega) ?_; intro v' w5 hown' hgrow hn1)
          go_roundw
          case rel =>
            refine ⟨1, _, by omega, rfl, by go_num, ?_, ?_⟩
            · rw [HT.out]; simpa [toldV, Hid] using hown'
            · exact (HB4.out.alloc hs4 _).grown hgrow (by simp; omega) (fun j e => (World.ownsRow.lt hrow4 j e).1)
          case measure => simp [intOf]
        | false =>
          have HT := Lib.hid (told_no (i := ⟨k, A, B, M⟩) (k := 0) hu)
          have HU := Lib.hid (uses_any k 0 hk (by omega) wr HW.out)
          rw [hu] at HU
          clear hu
          go_wp2_with fail
          refine HU.out.mono ?_
          rintro e w' ⟨rfl, rfl⟩
          go_wp2_with fail
          go_roundw
          case rel => exact ⟨1, _, by omega, rfl, by go_num, by rw [HT.out]; exact hrow.out, hb.out⟩
          case measure => simp [intOf]
      · have fc : wr.cell? ⟨g, 1, none⟩ = some (.func (.func 28) #[] #[.pointer (some ⟨p1, 0, none⟩)]) := by rw [hb.out.cell (World.block_lt_of_cell? _ _ f1)]; exact f1
        have hq : wr.cell? ⟨p1, 0, none⟩ = some (.int .i64 B) := by rw [hb.out.cell (World.block_lt_of_cell? _ _ q1)]; exact q1
        have HCL := Lib.hid (tell11_any p1 B (by omega) (by omega) wr HW.out hq)
        cases hu : uses k 1 with
        | true =>
          have HT := Lib.hid (told_yes (i := ⟨k, A, B, M⟩) (k := 1) hu)
          have HU := Lib.hid (uses_any k 1 hk (by omega) wr HW.out)
          rw [hu] at HU
          clear hu fc hq
          have hl := told_len ⟨k, A, B, M⟩ 1
          have fc : wr.cell? ⟨g, 1, none⟩ = some (.func (.func 28) #[] #[.pointer (some ⟨p1, 0, none⟩)]) := by rw [hb.out.cell (World.block_lt_of_cell? _ _ f1)]; exact f1
          go_wp2_with fail
          refine HU.out.mono ?_
          rintro e w' ⟨rfl, rfl⟩
          go_wp2_with fail
          refine HCL.out.mono ?_
          rintro e w4 ⟨rfl, b4⟩
          have hrow4 := row_keep hrow.out b4 (Nat.le_refl _)
          have hb4 := hb.out.trans (b4.mono hb.out.size)
          have hs4 := hb4.size
          have HB4 := Lib.hid hb4
          clear b4 hb4
          go_wp2_with (at_builtin; refine wpList_append_own _ rfl _ _ 43 rfl w3.heap.size 9 i0 (.string ⟨#[]⟩) 1 16 Tryd.underlying43 hi hz0 hz1 hz2 rfl (by decide) _ _ _ rfl (hrow4.alloc _) ⟨w4.heap.size, 0, none⟩ 1 1 [.string (bytes (partT ⟨k, A, B, M⟩ 1))] rfl rfl (cell_one_new _ _ _) (by simp [Value.oneCell']) (by unfold maxLen; omega) (by omega) (by simp; omega) ?_; intro v' w5 hown' hgrow hn1)
          go_roundw
          case rel =>
            refine ⟨2, _, by omega, rfl, by go_num, ?_, ?_⟩
            · rw [HT.out]; simpa [toldV, Hid] using hown'
            · exact (HB4.out.alloc hs4 _).grown hgrow (by simp; omega) (fun j e => (World.ownsRow.lt hrow4 j e).1)
          case measure => simp [intOf]
        | false =>
          have HT := Lib.hid (told_no (i := ⟨k, A, B, M⟩) (k := 1) hu)
          have HU := Lib.hid (uses_any k 1 hk (by omega) wr HW.out)
          rw [hu] at HU
          clear hu
          go_wp2_with fail
          refine HU.out.mono ?_
          rintro e w' ⟨rfl, rfl⟩
          go_wp2_with fail
          go_roundw
          case rel => exact ⟨2, _, by omega, rfl, by go_num, by rw [HT.out]; exact hrow.out, hb.out⟩
          case measure => simp [intOf]
      · have fc : wr.cell? ⟨g, 2, none⟩ = some (.func (.func 29) #[] #[.pointer (some ⟨p2, 0, none⟩)]) := by rw [hb.out.cell (World.block_lt_of_cell? _ _ f2)]; exact f2
        have hq : wr.cell? ⟨p2, 3, none⟩ = some (.int .i64 M) := by rw [hb.out.cell (World.block_lt_of_cell? _ _ q2)]; exact q2
        have HCL := Lib.hid (tell2_any p2 ⟨k, A, B, M⟩ (by show -32768 ≤ M; omega) (by show M ≤ 32767; omega) wr HW.out hq)
        cases hu : uses k 2 with
        | true =>
          have HT := Lib.hid (told_yes (i := ⟨k, A, B, M⟩) (k := 2) hu)
          have HU := Lib.hid (uses_any k 2 hk (by omega) wr HW.out)
          rw [hu] at HU
          clear hu fc hq
          have hl := told_len ⟨k, A, B, M⟩ 2
          have fc : wr.cell? ⟨g, 2, none⟩ = some (.func (.func 29) #[] #[.pointer (some ⟨p2, 0, none⟩)]) := by rw [hb.out.cell (World.block_lt_of_cell? _ _ f2)]; exact f2
          go_wp2_with fail
          refine HU.out.mono ?_
          rintro e w' ⟨rfl, rfl⟩
          go_wp2_with fail
          refine HCL.out.mono ?_
          rintro e w4 ⟨rfl, b4⟩
          have hrow4 := row_keep hrow.out b4 (Nat.le_refl _)
          have hb4 := hb.out.trans (b4.mono hb.out.size)
          have hs4 := hb4.size
          have HB4 := Lib.hid hb4
          clear b4 hb4
          go_wp2_with (at_builtin; refine wpList_append_own _ rfl _ _ 43 rfl w3.heap.size 9 i0 (.string ⟨#[]⟩) 1 16 Tryd.underlying43 hi hz0 hz1 hz2 rfl (by decide) _ _ _ rfl (hrow4.alloc _) ⟨w4.heap.size, 0, none⟩ 1 1 [.string (bytes (partT ⟨k, A, B, M⟩ 2))] rfl rfl (cell_one_new _ _ _) (by simp [Value.oneCell']) (by unfold maxLen; omega) (by omega) (by simp; omega) ?_; intro v' w5 hown' hgrow hn1)
          go_roundw
          case rel =>
            refine ⟨3, _, by omega, rfl, by go_num, ?_, ?_⟩
            · rw [HT.out]; simpa [toldV, Hid] using hown'
            · exact (HB4.out.alloc hs4 _).grown hgrow (by simp; omega) (fun j e => (World.ownsRow.lt hrow4 j e).1)
          case measure => simp [intOf]
        | false =>
          have HT := Lib.hid (told_no (i := ⟨k, A, B, M⟩) (k := 2) hu)
          have HU := Lib.hid (uses_any k 2 hk (by omega) wr HW.out)
          rw [hu] at HU
          clear hu
          go_wp2_with fail
          refine HU.out.mono ?_
          rintro e w' ⟨rfl, rfl⟩
          go_wp2_with fail
          go_roundw
          case rel => exact ⟨3, _, by omega, rfl, by go_num, by rw [HT.out]; exact hrow.out, hb.out⟩
          case measure => simp [intOf]
    · obtain rfl : n = 3 := by omega
      have hlen := told_len ⟨k, A, B, M⟩ 3
      have hnm := HW.out.name hk
      have HR := Lib.hid (BG.out.trans (hb.out.mono BG.out.size))
      have hw3 := hb.out.size
      by_cases h0t : told ⟨k, A, B, M⟩ 3 = []
      · have HT : Hid (TX = bytes (nm k)) := by rw [← HTX.out, txt, if_pos h0t]; rfl
        rw [h0t] at hrow
        obtain ⟨o, c', rfl⟩ : ∃ o c', u = .slice o 0 c' := by
          rcases hrow.out.2 with ⟨h, _⟩ | ⟨g', cap, cur, h, _⟩
          · exact ⟨_, _, h⟩
          · exact ⟨_, _, h⟩
        go_wp2
        go_ret2
        exact ⟨by rw [HT.out]; rfl, HR.out⟩
      · have HT : Hid (TX = bytes (nm k) ++ ⟨#[32]⟩ ++ bytes (Lib.join (told ⟨k, A, B, M⟩ 3) [44, 32])) := by
          rw [← HTX.out, txt, if_neg h0t]
          show bytes (nm k ++ [32] ++ _) = bytes (nm k) ++ bytes [32] ++ _
          rw [bytes_app, bytes_app]
        have hL0 : 0 < (told ⟨k, A, B, M⟩ 3).length := by
          cases hh : told ⟨k, A, B, M⟩ 3 with
          | nil => exact absurd hh h0t
          | cons _ _ => simp
        have hjl : (Lib.join (told ⟨k, A, B, M⟩ 3) [44, 32]).length ≤ 27 := by
          have := joinLen (told ⟨k, A, B, M⟩ 3) (fun x hx => by obtain ⟨j, rfl⟩ := told_mem hx; exact part_len HM.out j)
          omega
        have hnl : (nm k).length ≤ 5 := nm_len hk
        obtain ⟨g', cap, rfl, hgl⟩ : ∃ g' cap, u = .slice (some ⟨g', 0, none⟩) (told ⟨k, A, B, M⟩ 3).length cap ∧ g' < wr.heap.size := by
          rcases hrow.out.2 with ⟨_, h⟩ | ⟨g', cap, cur, h, _, hg, _⟩
          · omega
          · exact ⟨g', cap, h, (Array.getElem?_eq_some_iff.1 hg).1⟩
        have hcap : (told ⟨k, A, B, M⟩ 3).length ≤ cap := by
          rcases hrow.out.2 with ⟨h, _⟩ | ⟨_, _, _, h, _, _, hc, _⟩
          · cases h
          · cases h; exact hc
        have hJ : ∀ W, Below wr.heap.size wr W → Calls Tryd.prog 23 #[.slice (some ⟨g', 0, none⟩) (told ⟨k, A, B, M⟩ 3).length cap, .string ⟨#[44, 32]⟩] W fun e w' => e = .returned (.string (bytes (Lib.join (told ⟨k, A, B, M⟩ 3) [44, 32]))) ∧ Below W.heap.size W w' := by
          intro W hW
          have hmm : (((told ⟨k, A, B, M⟩ 3).map bytes).map (·.data.toList)) = told ⟨k, A, B, M⟩ 3 := by
            rw [List.map_map]
            have : ((·.data.toList) ∘ bytes) = (id : List UInt8 → List UInt8) := by funext l; simp [bytes]
            rw [this, List.map_id]
          have := Tryd.strings_Join g' 0 cap ((told ⟨k, A, B, M⟩ 3).map bytes) ⟨#[44, 32]⟩ W ?cells (by have := hW.size; omega) (by simp; omega) (by simpa using hcap) (by rw [hmm]; show (Lib.join _ [44, 32]).length ≤ _; omega)
          · rw [hmm, List.length_map] at this
            exact this
          case cells =>
            intro j x hx
            rw [Nat.zero_add]
            have hj : j < (told ⟨k, A, B, M⟩ 3).length := by have := (List.getElem?_eq_some_iff.1 hx).1; simpa using this
            have hc := (row_keep hrow.out hW (Nat.le_refl _)).cells (g := g') rfl j (.string x) (by
              rw [List.getElem?_map] at hx
              simp only [toldV, List.getElem?_map]
              cases hq : (told ⟨k, A, B, M⟩ 3)[j]? with
              | none => rw [hq] at hx; cases hx
              | some y => rw [hq] at hx; cases hx; rfl)
            have e : (⟨g', 0, none⟩ : Addr).add j = ⟨g', j, none⟩ := by unfold Addr.add; split <;> simp_all
            rwa [e] at hc
        have HJ := Lib.hid hJ
        have HL : Hid ((bytes (Lib.join (told ⟨k, A, B, M⟩ 3) [44, 32])).size ≤ 27) := by unfold Hid; rw [bytes_size]; exact hjl
        have HN : Hid ((bytes (nm k)).size ≤ 5) := by unfold Hid; rw [bytes_size]; exact hnl
        have hL2 := HL.out
        have hN2 := HN.out
        generalize bytes (Lib.join (told ⟨k, A, B, M⟩ 3) [44, 32]) = JJ at HJ HT hL2
        generalize bytes (nm k) = NN at HT hnm hN2
        generalize (told ⟨k, A, B, M⟩ 3).length = LL at hL0 HJ
        clear hJ HL HN hjl hnl hcap hrow h0t hlen
        have hN3 : (NN ++ ⟨#[32]⟩ : ByteArray).size ≤ 6 := by rw [ByteArray.size_append]; have : (⟨#[32]⟩ : ByteArray).size = 1 := rfl; omega
        have hk0 : (0 : Int) ≤ (k : Int) := by omega
        have hk1 : (k : Int) < 29 := by omega
        have hd1l : w.heap.size < wr.heap.size := by omega
        have h0l : 0 < wr.heap.size := World.block_lt_of_cell? _ _ hnm
        clear hb f0 f1 f2 q0 q1 q2 hi hz0 hz1 hz2 d0
        have HD := Lib.hid d1
        have HNM := Lib.hid hnm
        go_wp2
        go_region_with (go_at_call 23; refine (HJ.out _ ?bb).mono ?_; (case bb => repeat (first | exact Below.refl _ _ | refine Below.drew ?_)); rintro e w5 ⟨rfl, b5⟩; have g0 := (b5.cell (p := ⟨w.heap.size, 0, none⟩) (by simp; omega)).trans d1; have g1 := (b5.cell (p := ⟨0, k * 2, none⟩) (by simp; omega)).trans hnm; have BB := Lib.hid (HR.out.trans ((Below.refl wr.heap.size wr).drew.trans b5 |>.mono HR.out.size)); clear b5)
        all_goals go_wp2
        all_goals go_ret2
        all_goals refine ⟨by rw [HT.out]; rfl, ?_⟩
        all_goals first | exact BB.out | exact BB.out.drew

/-- What Text hands back. -/
def txtV (i : Ins) : ByteArray := if May i then bytes (txt i) else ⟨#[]⟩
theorem Text_any (i : Ins) (w : World) (h : Env w) :
    Calls Tryd.prog 13 #[iv i] w fun e w' => e = .returned (.tuple #[.string (txtV i), .int .i64 (encE i)]) ∧ Below w.heap.size w w' := by
  unfold txtV encE
  by_cases hm : May i
  · rw [if_pos hm, if_pos hm]
    obtain ⟨O, A, B, M⟩ := i
    obtain ⟨k, rfl, h0, hk⟩ := nat_of_isOp hm.1
    exact Text_yes k A B M h0 hk w h hm
  · rw [if_neg hm, if_neg hm]
    exact Text_no _ _ _ _ w h (decide_eq_false hm)
end Go.Proofs.YtcbbinmecnameaaDoor

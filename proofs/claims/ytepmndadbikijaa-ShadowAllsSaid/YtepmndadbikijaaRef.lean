/-
  Layer 3: what the document's own answers (package pomanderref03) give: walks.
-/
import Derived.Test.YtepmndadbikijaaFill
import Derived.Test.YtepmndadbikijaaCopy
import Derived.Maps.AppendAt
import Derived.Laws.OwnMore
import Derived.OwnWalk
import Derived.Deep.QuietTactic
import Derived.BigQuiet
namespace Go.Proofs.Ytepmndadbikijaa
open Go.RowKit
set_option maxHeartbeats 1000000
set_option linter.unusedSimpArgs false

/-- A list of sets lies in block g. -/
def Rw (w : World) (g c : Nat) (l : List Int) : Prop := w.ownsRow 0 26 1 (.slice (some ⟨g, 0, none⟩) l.length c) l.length (l.map (Value.int .u32))
abbrev rwV (g c : Nat) (l : List Int) : Value := .slice (some ⟨g, 0, none⟩) l.length c
section
variable {w w' : World} {g c : Nat} {l : List Int} {F : Nat → Prop}
theorem Rw.kept (h : Rw w g c l) (t : Turned F w w') (hn : ¬ F g) : Rw w' g c l := t.row h (fun k e => by simp [Value.ownBlock] at e; subst e; exact hn)
theorem Rw.below (h : Rw w g c l) (hb : Below w.heap.size w w') : Rw w' g c l := h.kept (Turned.of_below hb (fun _ => False)) (fun e => e)
theorem Rw.lt (h : Rw w g c l) : g < w.heap.size := (World.ownsRow.lt h g rfl).2
theorem Rw.cells (h : Rw w g c l) {k : Nat} (hk : k < l.length) : w.cell? ⟨g, k, none⟩ = some (.int .u32 (at0 l k)) := by
  have h1 := World.ownsRow.cells h (g := g) rfl k (.int .u32 (at0 l k)) (by simp [at0, hk])
  rw [add_at, Nat.zero_add] at h1
  exact h1
theorem Rw.free (h : Rw w g c l) (k : Nat) : w.frozen? ⟨g, k, none⟩ = false := by
  rcases h.2 with ⟨h0, _⟩ | ⟨g', cap, cur, hv, _, hg, _⟩
  · cases h0
  · simp at hv
    obtain ⟨rfl, _⟩ := hv
    simp [World.frozen?, hg]
theorem Rw.cap (h : Rw w g c l) : l.length ≤ c ∧ c ≤ maxLen := by
  rcases h.2 with ⟨h0, _⟩ | ⟨g', cap, cur, hv, _, hg, h1, h2, _⟩
  · cases h0
  · simp at hv
    obtain ⟨rfl, rfl⟩ := hv
    exact ⟨h1, h2⟩
theorem Rw.set (h : Rw w g c l) (k : Nat) (x : Int) : Rw (w.setCell ⟨g, k, none⟩ (.int .u32 x)) g c (l.set k x) := by
  have h1 := World.ownsRow.stored h k (.int .u32 x)
  unfold Rw
  simp only [List.length_set, List.map_set]
  exact h1.1
end
theorem A.infoU : (Try.prog.info? 26).map (fun i => (i.zero, i.size, i.bytes)) = some (some (.int .u32 0), 1, 4) := by kernel_rfl
theorem made_zero (n : Nat) : (madeCells (Value.int .u32 0).cells (n * 1)).toList = (List.replicate n (0 : Int)).map (Value.int .u32) := by
  rw [Nat.mul_one, show (Value.int .u32 0).cells = #[Value.int .u32 0] from rfl, toList_madeCells_one]; simp
theorem RNew_any (P : Nat) (h0 : 1 ≤ P) (h1 : P ≤ 32) (w : World) : Calls Try.prog 25 #[.int .i64 (P : Int)] w fun e w' => ∃ g c, e = .returned (rwV g c (List.replicate (64 * P) 0)) ∧ Rw w' g c (List.replicate (64 * P) 0) ∧ w.heap.size ≤ g ∧ Below w.heap.size w w' := by
  obtain ⟨i0, hi, hz0, hz1, hz2⟩ := info_parts A.infoU
  go_enter Try.func25, Try.ntmps25
  go_wp2_with (at_make; refine wpList_make_full _ rfl _ _ 42 rfl 0 26 i0 (.int .u32 0) 1 Try.underlying42 hi hz0 hz1 .i64 .i64 _ _ (64 * P) rfl rfl (by omega) (by omega) (by rw [hz2]; omega) (by unfold maxLen; omega) (Nat.zero_le _) ?_; intro w1 hown hgrow)
  go_ret
  refine ⟨w.heap.size, 64 * P, by simp [rwV], ?_, Nat.le_refl _, (Below.refl _ _).grown hgrow (Nat.le_refl _) (fun k e => by cases e)⟩
  unfold Rw
  rw [made_zero] at hown
  simpa using hown
theorem Rinside_any (g c : Nat) (l : List Int) (P : Nat) (hl : l.length = 64 * P) (h32 : P ≤ 32) (a n : Int) (w : World) :
    Calls Try.prog 44 #[rwV g c l, .int .i64 a, .int .i64 n] w fun e w' => e = .returned (.bool (insB P a n)) ∧ w = w' := by
  unfold insB
  by_cases ha : 0 ≤ a
  · by_cases hn : 0 ≤ n
    · by_cases hb : a ≤ 64 * P
      · have hb' : a ≤ (l.length : Int) := by omega
        go_enter Try.func44, Try.ntmps44
        go_wp2
        go_ret
        exact ⟨by simp [ha, hb, hn, hl], rfl⟩
      · have hb' : ¬ a ≤ (l.length : Int) := by omega
        go_enter Try.func44, Try.ntmps44
        go_wp2
        go_ret
        exact ⟨by simp <;> omega, rfl⟩
    · go_enter Try.func44, Try.ntmps44
      go_wp2
      go_ret
      exact ⟨by simp <;> omega, rfl⟩
  · go_enter Try.func44, Try.ntmps44
    go_wp2
    go_ret
    exact ⟨by simp <;> omega, rfl⟩

/-- The list behind a fill of the document. -/
def RF (w w' : World) (P : Nat) (g : Nat) (l : List Int) (a n x : Int) (e : Ending) : Prop :=
  ∃ g' c', e = .returned (.tuple #[rwV g' c' (fillR P l a n x), .int .i64 (refR P a n x)]) ∧ Rw w' g' c' (fillR P l a n x) ∧ (g' = g ∨ w.heap.size ≤ g') ∧ Below w.heap.size w w'
theorem fill_row {w w1 : World} {l : List Int} {v' : Value} (hpos : 0 < l.length) (hown : w1.ownsRow 0 26 1 v' (0 + l.length) ([] ++ l.map (Value.int .u32))) (hgrow : (w.alloc (.cells #[] 26)).grownBy w1 (Value.slice (some ⟨w.heap.size, 0, none⟩) 0 0).ownBlock)
    (hloc : v'.ownBlock = (Value.slice (some ⟨w.heap.size, 0, none⟩) 0 0).ownBlock ∨ v'.ownBlock = some (w.alloc (.cells #[] 26)).heap.size) : ∃ g' c', v' = rwV g' c' l ∧ Rw w1 g' c' l ∧ w.heap.size ≤ g' ∧ Below w.heap.size w w1 := by
  simp only [Nat.zero_add, List.nil_append] at hown
  have hB : Below w.heap.size w w1 := ((Below.refl _ _).alloc (Nat.le_refl _) _).grown hgrow (by simp) (fun k e => by simp [Value.ownBlock] at e; omega)
  rcases hown.2 with ⟨_, h0⟩ | ⟨g', cap, cur, hv, _⟩
  · omega
  · subst hv
    refine ⟨g', cap, rfl, hown, ?_, hB⟩
    simp [Value.ownBlock] at hloc
    omega
set_option maxRecDepth 100000 in
theorem RFill_any {w : World} {g c P : Nat} {l : List Int} (h : Rw w g c l) (hb : Bytes P l) (a n x : Int) (hx : W32 x) :
    Calls Try.prog 30 #[rwV g c l, .int .i64 a, .int .i64 n, .int .u32 x] w fun e w' => RF w w' P g l a n x e := by
  have hl := hb.len
  have h32 := hb.hi
  have HI : Hid (∀ W, Calls Try.prog 44 #[rwV g c l, .int .i64 a, .int .i64 n] W fun e w' => e = .returned (.bool (insB P a n)) ∧ W = w') := fun W => Rinside_any g c l P hl h32 a n W
  by_cases hbig : 65536 ≤ x
  · have hR : refR P a n x = 2 := by simp [refR, hbig]
    have hF : fillR P l a n x = l := by simp [fillR, hR]
    have HH := Lib.hid h
    clear h
    go_enter Try.func30, Try.ntmps30
    go_wp2
    go_ret2
    exact ⟨g, c, by rw [hF, hR]; rfl, by rw [hF]; exact HH.out, .inl rfl, Below.refl _ _⟩
  · by_cases hi : insB P a n = true
    · have hR : refR P a n x = 0 := by simp [refR, hbig, hi]
      obtain ⟨i, k, rfl, rfl, hik⟩ := insB_yes hi
      have hF : fillR P l (i : Int) (k : Int) x = fillL l i x k := by simp [fillR, hR]
      rw [hi] at HI
      obtain ⟨i0, hi0, hz0, hz1, hz2⟩ := info_parts A.infoU
      have hpos : 0 < l.length := by have := hb.lo; omega
      have HH := Lib.hid h
      have hcells := fun (W : World) (hW : Rw W g c l) => fun (j : Nat) (u : Value) (hu : (l.map (Value.int .u32))[j]? = some u) => World.ownsRow.cells hW (g := g) rfl j u hu
      have HF := Lib.hid hF
      have hown0 := World.ownsRow_made (base := 0) (e := 26) (size := 1) w #[] 0 (Nat.zero_le _) (by unfold maxLen; omega) rfl
      have hRA : Rw (w.alloc (.cells #[] 26)) g c l := h.below ((Below.refl _ _).alloc (Nat.le_refl _) _)
      have HR := Lib.hid hR
      clear h hi hF hR
      go_enter Try.func30, Try.ntmps30
      go_wp2_with (first | (go_at_call 44; refine (HI.out _).mono ?_; rintro e w' ⟨rfl, rfl⟩) | (at_builtin; refine wpList_append_own_at _ rfl _ _ 42 rfl 0 26 i0 (.int .u32 0) 1 4 Try.underlying42 hi0 hz0 hz1 hz2 rfl (by decide) _ 0 [] rfl hown0 ⟨g, 0, none⟩ l.length c (l.map (Value.int .u32)) rfl (by simp) (hcells _ hRA) (ints_oneCell .u32 l) (by unfold maxLen; omega) (by omega) (Nat.zero_le _) ?_; intro v' w1 hown hgrow _ hloc; obtain ⟨g', c', rfl, hr1, hr2, hr3⟩ := fill_row hpos hown hgrow hloc; have HR1 := Lib.hid hr1; have HR2 := Lib.hid hr2; have HR3 := Lib.hid hr3; clear hown hgrow hloc hr1 hr2 hr3))
      go_loopw [11] (fun q wr => ∃ j : Nat, j ≤ k ∧ q = .int .i64 ((i + j : Nat) : Int) ∧ Hid (Rw wr g' c' (fillL l i x j)) ∧ Hid (Below w.heap.size w wr)) (fun q _ => i + k - (intOf q).toNat)
      case atStart => exact ⟨0, by omega, rfl, HR1.out, HR3.out⟩
      case round =>
        obtain ⟨j, hj, rfl, hw0, hb0⟩ := hrel
        have hlj := fill_len l i x j
        by_cases hlt : j < k
        · have c1 := hw0.out.cells (k := i + j) (by omega)
          have f1 := hw0.out.free (i + j)
          have hcp := hw0.out.cap
          have q0 : (0 : Int) ≤ ((i + j : Nat) : Int) := by omega
          have q1 : ((i + j : Nat) : Int) < (l.length : Int) := by omega
          go_wp2
          go_roundw
          case rel =>
            refine ⟨j + 1, by omega, by go_num, hw0.out.set (i + j) x, hb0.out.setCell (p := ⟨g', i + j, none⟩) HR2.out _⟩
          case measure => simp [intOf]; omega
        · have q1 : ¬ ((i + j : Nat) : Int) < (i : Int) + (k : Int) := by omega
          go_wp2
          go_ret2
          obtain rfl : j = k := by omega
          exact ⟨g', c', by rw [HF.out, HR.out]; simp [rwV, hlj], by rw [HF.out]; exact hw0.out, .inr HR2.out, hb0.out⟩
    · have hR : refR P a n x = 4 := by simp [refR, hbig, hi]
      have hF : fillR P l a n x = l := by simp [fillR, hR]
      have hi' : insB P a n = false := by simpa using hi
      rw [hi'] at HI
      have HH := Lib.hid h
      clear h
      go_enter Try.func30, Try.ntmps30
      go_wp2_with (go_at_call 44; refine (HI.out _).mono ?_; rintro e w' ⟨rfl, rfl⟩)
      go_ret2
      exact ⟨g, c, by rw [hF, hR]; rfl, by rw [hF]; exact HH.out, .inl rfl, Below.refl _ _⟩

theorem RSet_any {w : World} {g c P : Nat} {l : List Int} (h : Rw w g c l) (hb : Bytes P l) (a x : Int) (hx : W32 x) :
    Calls Try.prog 29 #[rwV g c l, .int .i64 a, .int .u32 x] w fun e w' => RF w w' P g l a 1 x e := by
  have hl := hb.len
  have HF := Lib.hid (RFill_any h hb a 1 x hx)
  by_cases hbig : x < 65536
  · by_cases ha : 0 ≤ a
    · by_cases hab : a < (l.length : Int)
      · clear h
        go_enter Try.func29, Try.ntmps29
        go_wp2_with (go_at_call 30; refine (HF.out).mono ?_; rintro e w' ⟨g', c', rfl, hr, hg, hb'⟩; have HA := Lib.hid hr; have HB := Lib.hid hg; have HC := Lib.hid hb'; clear hr hg hb')
        go_ret2
        exact ⟨g', c', rfl, HA.out, HB.out, HC.out⟩
      · have hR : refR P a 1 x = 4 := by
          have : insB P a 1 = false := by simp [insB]; omega
          simp [refR, this]; omega
        have hF : fillR P l a 1 x = l := by simp [fillR, hR]
        have HH := Lib.hid h
        clear h
        go_enter Try.func29, Try.ntmps29
        go_wp2
        go_ret2
        exact ⟨g, c, by rw [hF, hR]; rfl, by rw [hF]; exact HH.out, .inl rfl, Below.refl _ _⟩
    · have hR : refR P a 1 x = 4 := by
        have : insB P a 1 = false := by simp [insB]; omega
        simp [refR, this]; omega
      have hF : fillR P l a 1 x = l := by simp [fillR, hR]
      have HH := Lib.hid h
      clear h
      go_enter Try.func29, Try.ntmps29
      go_wp2
      go_ret2
      exact ⟨g, c, by rw [hF, hR]; rfl, by rw [hF]; exact HH.out, .inl rfl, Below.refl _ _⟩
  · clear h
    go_enter Try.func29, Try.ntmps29
    go_wp2_with (go_at_call 30; refine (HF.out).mono ?_; rintro e w' ⟨g', c', rfl, hr, hg, hb'⟩; have HA := Lib.hid hr; have HB := Lib.hid hg; have HC := Lib.hid hb'; clear hr hg hb')
    go_ret2
    exact ⟨g', c', rfl, HA.out, HB.out, HC.out⟩
theorem orI_zero {a : Int} (h : 0 ≤ a) : orI 0 a = a := by unfold orI; simp; omega
theorem RGet_any {w : World} {g c P : Nat} {l : List Int} (h : Rw w g c l) (hb : Bytes P l) (a : Int) :
    Calls Try.prog 27 #[rwV g c l, .int .i64 a] w fun e w' => e = .returned (.tuple #[.int .u32 (unionV P l a 1), .int .i64 (unionE P a 1)]) ∧ w = w' := by
  have hl := hb.len
  by_cases ha : 0 ≤ a
  · by_cases hab : a < (l.length : Int)
    · obtain ⟨i, rfl⟩ := Int.eq_ofNat_of_zero_le ha
      have hi : insB P (i : Int) 1 = true := by rw [insB_one]; simp; omega
      have hE : unionE P (i : Int) 1 = 0 := by simp [unionE, hi]
      have hV : unionV P l (i : Int) 1 = at0 l i := by
        simp only [unionV, hi, if_true, Int.toNat_natCast]
        exact orI_zero (hb.at_ i).1
      have c1 := h.cells (k := i) (by omega)
      have hcp := h.cap
      rw [hE, hV]
      clear h hE hV hi
      go_enter Try.func27, Try.ntmps27
      go_wp2
      go_ret2
      exact ⟨rfl, rfl⟩
    · have hi : insB P a 1 = false := by simp [insB]; omega
      have hE : unionE P a 1 = 4 := by simp [unionE, hi]
      have hV : unionV P l a 1 = 0 := by simp [unionV, hi]
      rw [hE, hV]
      clear h hE hV hi
      go_enter Try.func27, Try.ntmps27
      go_wp2
      go_ret2
      exact ⟨rfl, rfl⟩
  · have hi : insB P a 1 = false := by simp [insB]; omega
    have hE : unionE P a 1 = 4 := by simp [unionE, hi]
    have hV : unionV P l a 1 = 0 := by simp [unionV, hi]
    rw [hE, hV]
    clear h hE hV hi
    go_enter Try.func27, Try.ntmps27
    go_wp2
    go_ret2
    exact ⟨rfl, rfl⟩
theorem RPrivate_any {w : World} {g c P : Nat} {l : List Int} (h : Rw w g c l) (hb : Bytes P l) (q : Int) :
    Calls Try.prog 43 #[rwV g c l, .int .i64 q] w fun e w' => e = .returned (.bool (decide (0 ≤ q) && priv l q.toNat)) ∧ w = w' := by
  have hl := hb.len
  have h32 := hb.hi
  by_cases hq : 0 ≤ q
  · obtain ⟨p, rfl⟩ := Int.eq_ofNat_of_zero_le hq
    by_cases hp : p < P
    · have hp' : (p : Int) < (l.length : Int) / 64 := by omega
      have HH := Lib.hid h
      clear h
      go_enter Try.func43, Try.ntmps43
      go_wp2
      go_loop [5] (fun i => ∃ k : Nat, k ≤ 64 ∧ i = .int .i64 ((64 * p + k : Nat) : Int) ∧ Hid (∀ j, j < k → at0 l (64 * p + j) = 0)) (fun i => 64 * p + 64 - (intOf i).toNat)
      case atStart => exact ⟨0, by omega, by simp, fun j hj => by omega⟩
      case round =>
        obtain ⟨k, hk, rfl, hz⟩ := hrel
        by_cases hlt : k < 64
        · have c1 := HH.out.cells (k := 64 * p + k) (by omega)
          have hcp := HH.out.cap
          have q0 : (0 : Int) ≤ ((64 * p + k : Nat) : Int) := by omega
          have q1 : ((64 * p + k : Nat) : Int) < (l.length : Int) := by omega
          have q2 : ((64 * p + k : Nat) : Int) < 64 * (p : Int) + 64 := by omega
          by_cases hv : at0 l (64 * p + k) = 0
          · have HV := Lib.hid hv
            rw [hv] at c1
            clear hv
            go_wp2
            go_round
            case rel =>
              refine ⟨k + 1, by omega, by go_num, fun j hj => ?_⟩
              by_cases e : j = k
              · subst e; exact HV.out
              · exact hz.out j (by omega)
            case measure => simp [intOf]; omega
          · have hv2 : (at0 l (64 * p + k) == 0) = false := by simpa using hv
            have hv3 : (at0 l (64 * p + k) != 0) = true := by simpa using hv
            have HV := Lib.hid hv
            generalize hy : at0 l (64 * p + k) = y at c1 hv2 hv3
            have HY := Lib.hid hy
            clear hv hy
            go_wp2
            go_ret
            have : priv l p = true := is_priv hl hlt (by simpa [nz] using HV.out)
            exact ⟨by simp [this], rfl⟩
        · obtain rfl : k = 64 := by omega
          go_wp2
          go_ret
          have : priv l p = false := by
            cases hpp : priv l p with
            | false => rfl
            | true =>
              obtain ⟨j, hj, hjz⟩ := priv_has hl hpp
              simp [nz, hz.out j hj] at hjz
          exact ⟨by simp [this], rfl⟩
    · have hp' : ¬ (p : Int) < (l.length : Int) / 64 := by omega
      have hpr : priv l p = false := by
        cases hpp : priv l p with
        | false => rfl
        | true => have := priv_lt hl hpp; omega
      clear h
      go_enter Try.func43, Try.ntmps43
      go_wp2
      go_ret
      exact ⟨by simp [hpr], rfl⟩
  · clear h
    go_enter Try.func43, Try.ntmps43
    go_wp2
    go_ret
    exact ⟨by simp; omega, rfl⟩
theorem RPages_any {w : World} {g c P : Nat} {l : List Int} (h : Rw w g c l) (hb : Bytes P l) :
    Calls Try.prog 32 #[rwV g c l] w fun e w' => e = .returned (.int .i64 ((privs l P).length : Int)) ∧ w = w' := by
  have hl := hb.len
  have h32 := hb.hi
  have HR : Hid (∀ p : Nat, Calls Try.prog 43 #[rwV g c l, .int .i64 (p : Int)] w fun e w' => e = .returned (.bool (priv l p)) ∧ w = w') := fun p => by simpa using RPrivate_any h hb (p : Int)
  have hdiv : (l.length : Int) / 64 = (P : Int) := by omega
  clear h
  go_enter Try.func32, Try.ntmps32
  go_wp2
  go_loop [3, 4] (fun n i => ∃ k : Nat, k ≤ P ∧ i = .int .i64 k ∧ n = .int .i64 ((privs l k).length : Int)) (fun _ i => P - (intOf i).toNat)
  case atStart => exact ⟨0, by omega, rfl, rfl⟩
  case round =>
    obtain ⟨k, hk, rfl, rfl⟩ := hrel
    have hpl : (privs l k).length ≤ k := by have := List.length_filter_le (priv l) (List.range k); simpa [privs] using this
    by_cases hlt : k < P
    · have hlt' : (k : Int) < (l.length : Int) / 64 := by omega
      have HP := Lib.hid (HR.out k)
      have HS := Lib.hid (privs_succ l k)
      generalize hv : (privs l k).length = n0 at hpl
      have HV := Lib.hid hv
      clear hv
      cases hq : priv l k
      all_goals
        rw [hq] at HP HS
        go_wp2_with (go_at_call 43; refine (HP.out).mono ?_; rintro e w' ⟨rfl, rfl⟩)
        go_round
        case rel => exact ⟨k + 1, by omega, by go_num, by rw [HS.out]; simp [HV.out]⟩
        case measure => simp [intOf]; omega
    · obtain rfl : k = P := by omega
      go_wp2
      go_ret
      exact ⟨rfl, rfl⟩
end Go.Proofs.Ytepmndadbikijaa

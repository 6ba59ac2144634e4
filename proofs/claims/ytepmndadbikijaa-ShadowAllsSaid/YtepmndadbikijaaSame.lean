/-
  Layer 3: maps.EqualFunc over two shadows' maps, alike, Same: walks.
-/
import Derived.Test.YtepmndadbikijaaAlike
import Derived.Deep.QuietTactic
import Derived.BigQuiet
import Derived.Deep.RegionWith
namespace Go.Proofs.Ytepmndadbikijaa
open Go.RowKit Go.Shelf
set_option maxHeartbeats 1000000
set_option linter.unusedSimpArgs false

theorem privs_eq {P : Nat} {l m : List Int} (h : ∀ p, p < P → priv l p = true → priv m p = true) (hl : (privs l P).length = (privs m P).length) : privs l P = privs m P := by
  have hs : (privs l P).Sublist (privs m P) := by
    have e : privs l P = (privs m P).filter (priv l) := by
      unfold privs
      rw [List.filter_filter]
      refine List.filter_congr fun p hp => ?_
      rw [List.mem_range] at hp
      cases hq : priv l p with
      | true => simp [h p hp hq]
      | false => simp
    rw [e]; exact List.filter_sublist
  exact hs.eq_of_length hl
theorem shadows_eq {P : Nat} {l m : List Int} (h1 : l.length = 64 * P) (h2 : m.length = 64 * P) (hl : (privs l P).length = (privs m P).length) (h : ∀ p, priv l p = true → priv m p = true ∧ pg l p = pg m p) : l = m := by
  have hp := privs_eq (P := P) (fun p _ hq => (h p hq).1) hl
  refine ext_at h1 h2 fun i hi => ?_
  have e : i = 64 * (i / 64) + i % 64 := by omega
  cases hq : priv l (i / 64) with
  | true =>
    have a1 := at_pg h1 (show i / 64 < P by omega) (show i % 64 < 64 by omega)
    have a2 := at_pg h2 (show i / 64 < P by omega) (show i % 64 < 64 by omega)
    rw [(h _ hq).2, a2] at a1
    simp at a1
    rw [e]; exact a1.symm
  | false =>
    have hq2 : priv m (i / 64) = false := by
      cases hm : priv m (i / 64) with
      | false => rfl
      | true =>
        have : i / 64 ∈ privs m P := mem_privs.2 ⟨by omega, hm⟩
        rw [← hp, mem_privs, hq] at this
        cases this.2
    have a1 := not_priv h1 hq (show i % 64 < 64 by omega)
    have a2 := not_priv h2 hq2 (show i % 64 < 64 by omega)
    rw [← e] at a1 a2
    rw [a1, a2]
def ptrV (c : Option Addr) : Value := .pointer c
theorem ptr_shape {v : Value} {y : DataW Unit × List MemPlace} (h : ptrElem v = some y) : ∃ c, v = ptrV c := by
  unfold ptrElem at h
  split at h
  · exact ⟨_, rfl⟩
  · exact ⟨_, rfl⟩
  · cases h
/-- What has come of the range agrees. -/
def EqSo (l m : List Int) (left : Lit → Bool) : Prop := ∀ p : Nat, priv l p = true → left (.int .i64 (p : Int)) = false → priv m p = true ∧ pg l p = pg m p

set_option maxRecDepth 100000 in
theorem EqualFunc_any {w : World} {S1 S2 mb1 mb2 P : Nat} {l m : List Int} {G1 G2 : Nat → Nat} {D1 D2 : DataW Unit} (h1 : ShIs w S1 mb1 P l G1 D1) (h2 : ShIs w S2 mb2 P m G2 D2) :
    Calls Try.prog 49 #[.map (some mb1), .map (some mb2), .func (.func 50) #[] #[]] w fun e w' => e = .returned (.bool (decide (l = m))) ∧ Below w.heap.size w w' := by
  have hl1 := h1.map.len Try.underlying65 3
  have hl2 := h2.map.len Try.underlying65 3
  rw [h1.pd.size] at hl1
  rw [h2.pd.size] at hl2
  have hb1 := h1.bytes
  have hb2 := h2.bytes
  by_cases hn : (privs l P).length = (privs m P).length
  · have hne : (((privs l P).length : Int) == ((privs m P).length : Int)) = true := by simp [hn]
    have hmap := h1.map
    have H1 := Lib.hid h1
    have H2 := Lib.hid h2
    have HN := Lib.hid hn
    rw [hn] at hl1
    clear h1 h2 hn hne
    go_enter Try.func49, Try.ntmps49
    go_wp2_with (first
      | (at_range; refine wpList_range_own _ rfl _ 65 rfl 3 74 numLaw Try.underlying65 _ mb1 _ _ rfl hmap ?_; intro w0 hrg0 hg0 hs0))
    go_frame
    go_loopw [18] (fun _ wr => ∃ (left : Lit → Bool) (cnt : Nat), wr.ranges Try.prog 3 ptrElem mb1 w.heap.size (privs l P).length D1 left cnt ∧ Hid (Below w.heap.size w wr) ∧ Hid (EqSo l m left))
      (fun _ wr => wr.rangeLeft mb1 w.heap.size)
    case atStart =>
      refine ⟨_, _, hrg0, (Below.refl _ _).grown hg0 (Nat.le_refl _) (fun j hj => by cases hj), fun p hp hf => ?_⟩
      rw [H1.out.pd.has] at hf
      simp [hp] at hf
    case round =>
      obtain ⟨left, cnt, hrg, HB, HE⟩ := hrel
      go_wp2_with (first
        | (at_next; refine wpList_next_ranges _ rfl _ rfl 3 numLaw ptrElem (Value.int .i64) ptrV (fun key kl hkey => by obtain ⟨x, rfl, _⟩ := Maps.keyOf_int_inv Try.underlying3 hkey; exact ⟨x, rfl⟩) (fun v y hv => ptr_shape hv) mb1 w.heap.size _ _ _ _ rfl hrg ?_ ?_))
      · intro hc0 hl0
        go_wp2
        go_ret
        have : l = m := shadows_eq hb1.len hb2.len HN.out (fun p hp => HE.out p hp (hl0 _))
        exact ⟨by simp [this], HB.out⟩
      · intro x c kl y yp w1 cnt1 hkey hlx hv hat hrg1 hlt hg1 hs1 hen
        obtain ⟨x', ex, rfl, hwx⟩ := Maps.keyOf_int_inv Try.underlying3 hkey
        cases ex
        have hhas := Maps.has_true_of_atKey hat
        rw [H1.out.pd.has] at hhas
        simp at hhas
        obtain ⟨p, rfl⟩ := Int.eq_ofNat_of_zero_le hhas.1
        have hp1 : priv l p = true := by simpa using hhas.2
        have hy1 : y = .lit (.int .i64 (G1 p : Int)) := by rw [← hat (.lit (.int .i64 0)), H1.out.pd.at_ p hp1]
        subst hy1
        have hc := ptr_inv hv
        unfold ptrV at hc
        cases hc
        have hB1 : Below w.heap.size w w1 := HB.out.grown hg1 HB.out.size (fun j hj => by cases hj; exact Nat.le_refl _)
        have h1w : ShIs w1 S1 mb1 P l G1 D1 := H1.out.kept' fun k hk => hB1.block k (H1.out.lt k hk)
        have h2w : ShIs w1 S2 mb2 P m G2 D2 := H2.out.kept' fun k hk => hB1.block k (H2.out.lt k hk)
        have hP := priv_lt hb1.len hp1
        have HB1 := Lib.hid hB1
        have HP1 := Lib.hid hp1
        have hen' : (Instr.entry (.pointer (some ⟨w.heap.size, 0, none⟩))).run Try.prog w1 = .ok (.tuple #[.int .i64 (p : Int), .pointer (some ⟨G1 p, 0, none⟩)]) w1 := hen
        have HRg := Lib.hid hrg1
        have HRd : Hid (w1.drew.ranges Try.prog 3 ptrElem mb1 w.heap.size (privs l P).length D1 (fun z => left z && !z.sameKey (.int .i64 (p : Int))) cnt1) := hrg1
        have HLt := Lib.hid hlt
        have HRg0 := Lib.hid hrg
        cases hp2 : priv m p with
        | true =>
          have hlk := (h2w.look_yes hp2).1
          have HA := Lib.hid (alike1_any (G1 p) (G2 p) w1 (pg l p) (pg m p) ⟨h1w.page p hp1, pg_len hb1.len hP⟩ ⟨h2w.page p hp2, pg_len hb2.len hP⟩)
          have HP2 := Lib.hid hp2
          clear h1w h2w hB1 hen hat hv hkey hlx hg1 hs1 hhas hp2 hp1 hrg1 hrg hlt
          by_cases he : pg l p = pg m p
          · have HEq := Lib.hid he
            have hdt : decide (pg l p = pg m p) = true := by simpa using he
            rw [hdt] at HA
            clear he hdt
            unfold ptrV
            go_wp2_with (go_at_call 50; refine (HA.out).mono ?_; rintro e w' ⟨rfl, rfl⟩)
            go_roundw
            case rel =>
              refine ⟨_, cnt1, HRd.out, HB1.out.drew, fun q hq hf => ?_⟩
              by_cases e : q = p
              · subst e; exact ⟨HP2.out, HEq.out⟩
              · refine HE.out q hq ?_
                have : (Lit.int .i64 (q : Int)).sameKey (.int .i64 (p : Int)) = false := Maps.sameKey_ne (by simp; omega)
                simpa [this] using hf
            case measure =>
              have := HRg.out.left_eq
              have e2 := HRg0.out.left_eq
              show w1.drew.rangeLeft mb1 w.heap.size < _
              have e3 : w1.drew.rangeLeft mb1 w.heap.size = w1.rangeLeft mb1 w.heap.size := rfl
              rw [e3, this, e2]; exact HLt.out
          · have HEq := Lib.hid he
            have hdt : decide (pg l p = pg m p) = false := by simpa using he
            rw [hdt] at HA
            clear he hdt
            unfold ptrV
            go_wp2_with (go_at_call 50; refine (HA.out).mono ?_; rintro e w' ⟨rfl, rfl⟩)
            go_ret
            have : l ≠ m := fun e => HEq.out (by rw [e])
            exact ⟨by simp [this], HB1.out.drew⟩
        | false =>
          have hlk := (h2w.look_no (k := (p : Int)) hwx (by simp [hp2])).1
          have HP2 := Lib.hid hp2
          clear h1w h2w hB1 hen hat hv hkey hlx hg1 hs1 hhas hp2 hp1 hrg1 hrg hlt
          unfold ptrV
          go_wp2
          go_ret
          have : l ≠ m := fun e => by have := HP1.out; rw [e, HP2.out] at this; cases this
          exact ⟨by simp [this], HB1.out⟩
  · have hne : l ≠ m := fun e => hn (by rw [e])
    have hne2 : (((privs l P).length : Int) == ((privs m P).length : Int)) = false := by simp; omega
    have hd : decide (l = m) = false := by simpa using hne
    clear h1 h2 hn hne
    go_enter Try.func49, Try.ntmps49
    go_wp2
    go_ret
    exact ⟨by rw [hd]; rfl, Below.refl _ _⟩
theorem alike_any {w : World} {S1 S2 mb1 mb2 P : Nat} {l m : List Int} {G1 G2 : Nat → Nat} {D1 D2 : DataW Unit} (h1 : ShIs w S1 mb1 P l G1 D1) (h2 : ShIs w S2 mb2 P m G2 D2) :
    Calls Try.prog 42 #[.map (some mb1), .map (some mb2)] w fun e w' => e = .returned (.bool (decide (l = m))) ∧ Below w.heap.size w w' := by
  have HE := Lib.hid (EqualFunc_any h1 h2)
  clear h1 h2
  generalize decide (l = m) = q at HE ⊢
  go_enter Try.func42, Try.ntmps42
  go_wp2_with (go_at_call 49; refine (HE.out).mono ?_; rintro e w' ⟨rfl, hb⟩)
  go_ret
  exact ⟨rfl, hb⟩

/-! ### Same -/
theorem Same_none (p q : Option Addr) (va vb : Bool) (w : World) (hor : (va || vb) = true) (ha : Calls Try.prog 41 #[.pointer p] w fun e w' => e = .returned (.bool va) ∧ w = w') (hb : Calls Try.prog 41 #[.pointer q] w fun e w' => e = .returned (.bool vb) ∧ w = w') :
    Calls Try.prog 22 #[.pointer p, .pointer q] w fun e w' => e = .returned (.bool (va && vb)) ∧ w = w' := by
  have HA := Lib.hid ha
  have HB := Lib.hid hb
  clear ha hb
  cases va <;> cases vb
  · simp at hor
  · go_enter Try.func22, Try.ntmps22
    go_wp2_with fail
    refine HA.out.mono ?_; rintro e w' ⟨rfl, rfl⟩
    go_wp2_with fail
    refine HB.out.mono ?_; rintro e w' ⟨rfl, rfl⟩
    go_wp2_with fail
    refine HA.out.mono ?_; rintro e w' ⟨rfl, rfl⟩
    go_wp2_with fail
    go_ret
    exact ⟨rfl, rfl⟩
  all_goals
    go_enter Try.func22, Try.ntmps22
    go_wp2_with fail
    refine HA.out.mono ?_; rintro e w' ⟨rfl, rfl⟩
    go_wp2_with fail
    refine HA.out.mono ?_; rintro e w' ⟨rfl, rfl⟩
    go_wp2_with fail
    refine HB.out.mono ?_; rintro e w' ⟨rfl, rfl⟩
    go_wp2_with fail
    go_ret
    exact ⟨rfl, rfl⟩
theorem Same_nils (w : World) : Calls Try.prog 22 #[.pointer none, .pointer none] w fun e w' => e = .returned (.bool true) ∧ w = w' := Same_none none none true true w rfl (none_nil w) (none_nil w)
theorem Same_nil1 {w : World} {S P : Nat} {l : List Int} {F : Nat → Prop} (h : Sh w S P l F) : Calls Try.prog 22 #[.pointer none, .pointer (some ⟨S, 0, none⟩)] w fun e w' => e = .returned (.bool false) ∧ w = w' :=
  Same_none none _ true false w rfl (none_nil w) (none_some S P w h.cell.1 h.cell.2.1)
theorem Same_nil2 {w : World} {S P : Nat} {l : List Int} {F : Nat → Prop} (h : Sh w S P l F) : Calls Try.prog 22 #[.pointer (some ⟨S, 0, none⟩), .pointer none] w fun e w' => e = .returned (.bool false) ∧ w = w' :=
  Same_none _ none false true w rfl (none_some S P w h.cell.1 h.cell.2.1) (none_nil w)
set_option maxRecDepth 100000 in
theorem Same_any {w : World} {S1 S2 P1 P2 : Nat} {l1 l2 : List Int} {F1 F2 : Nat → Prop} (h1 : Sh w S1 P1 l1 F1) (h2 : Sh w S2 P2 l2 F2) :
    Calls Try.prog 22 #[.pointer (some ⟨S1, 0, none⟩), .pointer (some ⟨S2, 0, none⟩)] w fun e w' => e = .returned (.bool (decide (l1 = l2))) ∧ Below w.heap.size w w' := by
  have ha1 := h1.cell
  have ha2 := h2.cell
  have hb1 := h1.bytes
  have hb2 := h2.bytes
  obtain ⟨mb1, G1, D1, rfl, h1⟩ := h1
  obtain ⟨mb2, G2, D2, rfl, h2⟩ := h2
  have n1 := Lib.hid (none_some S1 P1 w ha1.1 ha1.2.1)
  have n2 := Lib.hid (none_some S2 P2 w ha2.1 ha2.2.1)
  obtain ⟨a0, a1, _⟩ := h1.cells
  obtain ⟨c0, c1, _⟩ := h2.cells
  by_cases he : P1 = P2
  · subst he
    have HA : Hid (∀ W, Below w.heap.size w W → Calls Try.prog 42 #[.map (some mb1), .map (some mb2)] W fun e w' => e = .returned (.bool (decide (l1 = l2))) ∧ Below W.heap.size W w') := fun W e =>
      alike_any (h1.kept' (fun k hk => e.block k (h1.lt k hk))) (h2.kept' (fun k hk => e.block k (h2.lt k hk)))
    have hK : ∀ W, Below w.heap.size w W → W.cell? ⟨S1, 32, none⟩ = some (.int .i64 (P1 : Int)) ∧ W.cell? ⟨S1, 33, none⟩ = some (.map (some mb1)) ∧ W.cell? ⟨S2, 32, none⟩ = some (.int .i64 (P1 : Int)) ∧ W.cell? ⟨S2, 33, none⟩ = some (.map (some mb2)) ∧ Below w.heap.size w W := fun W e => by
      have q1 := ShIs.cells (h1.kept' (w' := W) (fun k hk => e.block k (h1.lt k hk)))
      have q2 := ShIs.cells (h2.kept' (w' := W) (fun k hk => e.block k (h2.lt k hk)))
      exact ⟨q1.1, q1.2.1, q2.1, q2.2.1, e⟩
    have HK := Lib.hid hK
    clear h1 h2 ha1 ha2 hb1 hb2 hK
    generalize decide (l1 = l2) = q at HA ⊢
    go_enter Try.func22, Try.ntmps22
    go_wp2_with fail
    refine n1.out.mono ?_; rintro e w' ⟨rfl, rfl⟩
    go_wp2_with fail
    refine n2.out.mono ?_; rintro e w' ⟨rfl, rfl⟩
    go_wp2_with fail
    go_region_held3 (fun W => W.cell? ⟨S1, 32, none⟩ = some (.int .i64 (P1 : Int)) ∧ W.cell? ⟨S1, 33, none⟩ = some (.map (some mb1)) ∧ W.cell? ⟨S2, 32, none⟩ = some (.int .i64 (P1 : Int)) ∧ W.cell? ⟨S2, 33, none⟩ = some (.map (some mb2)) ∧ Below w.heap.size w W)
      (first | exact HK.out _ (Below.refl _ _).drew | (go_split_ands; exact HK.out _ (Below.trans (by assumption) (Below.mono (by assumption) (Below.size (by assumption))))))
      (first | (go_at_call 42; go_split_ands; refine (HA.out _ (by assumption)).mono ?_; rintro e w1 ⟨rfl, hb⟩))
    go_wp2
    go_ret
    exact ⟨by simp, (Below.refl _ _).drew.trans hb⟩
  · have hd : ((P1 : Int) == (P2 : Int)) = false := by simp; omega
    have hne : decide (l1 = l2) = false := by
      simp only [decide_eq_false_iff_not]
      intro e
      have := hb1.len
      rw [e, hb2.len] at this
      omega
    rw [hne]
    clear h1 h2 ha1 ha2 hb1 hb2 hne he
    go_enter Try.func22, Try.ntmps22
    go_wp2_with fail
    refine n1.out.mono ?_; rintro e w' ⟨rfl, rfl⟩
    go_wp2_with fail
    refine n2.out.mono ?_; rintro e w' ⟨rfl, rfl⟩
    go_wp2_with fail
    go_quiet (fail)
    go_wp2
    go_ret
    exact ⟨rfl, below_drewN _ _ _⟩
end Go.Proofs.Ytepmndadbikijaa

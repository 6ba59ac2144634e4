/-
  Layer 2: Labels and Text of the document; Of of package labels.
-/
import Derived.Test.YtafnclkkncokpaaDoorText
import Derived.Test.YtafnclkkncokpaaDoorRef
import Derived.Test.YtafnclkkncokpaaDoorWalkPlay
namespace Go.Proofs.YtafnclkkncokpaaDoor
open Go.RowKit Go.Shelf
set_option maxHeartbeats 1000000

set_option maxRecDepth 20000 in
theorem RLabels_aux (x : Int) (hx : W32 x) (w : World) (N : Nat) (hN : N = 16) (P1 : Nat → Nat) (P2 : Nat → List Value) (h1 : Hid (P1 0 = 0 ∧ P2 0 = [])) (hy : Hid (∀ k, k < 16 → bitI x k = true → P1 (k + 1) = P1 k + 1 ∧ P2 (k + 1) = P2 k ++ [.int .i64 (k : Int)])) (hn : Hid (∀ k, k < 16 → bitI x k = false → P1 (k + 1) = P1 k ∧ P2 (k + 1) = P2 k)) (hle : ∀ k, P1 k ≤ k) :
    Calls Tryd.prog 22 #[.int .u32 x] w fun e w' => ∃ v, e = .returned v ∧ w'.ownsRow w.heap.size 3 1 v (P1 N) (P2 N) ∧ Below w.heap.size w w' := by
  obtain ⟨i0, hi, hz0, hz1, hz2⟩ := info_parts A.infoI
  have HX := Lib.hid hx
  go_enter Tryd.func22, Tryd.ntmps22
  go_wp2
  go_loopw [3, 4] (fun v i wr => ∃ k : Nat, k ≤ 16 ∧ i = .int .i64 k ∧ wr.ownsRow w.heap.size 3 1 v (P1 k) (P2 k) ∧ Below w.heap.size w wr) (fun _ i _ => 16 - (intOf i).toNat)
  case atStart => exact ⟨0, by omega, rfl, by rw [h1.out.1, h1.out.2]; exact World.ownsRow_nil _ _ _ _, Below.refl _ _⟩
  case round =>
    obtain ⟨k, hk, rfl, hrow, hb⟩ := hrel
    by_cases hlt : k < 16
    · have HB := Lib.hid (RBit_any x HX.out k (by omega) wr)
      have hln := hle k
      cases hbit : bitI x k with
      | true =>
        rw [hbit] at HB
        have hl := Lib.hid (hy.out k hlt hbit)
        clear hbit
        go_wp2_with fail
        refine HB.out.mono ?_
        rintro e w1 ⟨rfl, rfl⟩
        go_wp2_with (at_builtin; refine wpList_append_own _ rfl _ _ 51 rfl w.heap.size 3 i0 (.int .i64 0) 1 8 Tryd.underlying51 hi hz0 hz1 hz2 rfl (by decide) _ _ _ rfl (hrow.alloc _) ⟨wr.heap.size, 0, none⟩ 1 1 [.int .i64 (k : Int)] rfl rfl (cell_one_new _ _ _) (by simp [Value.oneCell']) (by unfold maxLen; omega) (by omega) (by have := hb.size; simp; omega) ?_; intro v' w1 hown' hgrow hn1)
        go_roundw
        case rel =>
          refine ⟨k + 1, by omega, by go_num, by rw [hl.out.1, hl.out.2]; exact hown', ?_⟩
          refine (hb.alloc hb.size _).grown hgrow (by have := hb.size; simp; omega) (fun j e => ?_)
          exact (World.ownsRow.lt hrow j e).1
        case measure => simp [intOf]; omega
      | false =>
        rw [hbit] at HB
        have hl := Lib.hid (hn.out k hlt hbit)
        clear hbit
        go_wp2_with fail
        refine HB.out.mono ?_
        rintro e w1 ⟨rfl, rfl⟩
        go_wp2_with fail
        go_roundw
        case rel => exact ⟨k + 1, by omega, by go_num, by rw [hl.out.1, hl.out.2]; exact hrow, hb⟩
        case measure => simp [intOf]; omega
    · go_wp2_with fail
      go_ret
      obtain rfl : k = N := by omega
      exact ⟨_, rfl, hrow, hb⟩
theorem RLabels_any (x : Int) (hx : W32 x) (w : World) :
    Calls Tryd.prog 22 #[.int .u32 x] w fun e w' => ∃ v, e = .returned v ∧ w'.ownsRow w.heap.size 3 1 v (labN x 16).length (labV (labN x 16)) ∧ Below w.heap.size w w' :=
  RLabels_aux x hx w 16 rfl (fun k => (labN x k).length) (fun k => labV (labN x k)) ⟨rfl, rfl⟩ (fun k hk hb => by rw [labN_yes hk hb]; exact ⟨by simp, labV_snoc _ _⟩) (fun k _ hb => by rw [labN_no hb]; exact ⟨rfl, rfl⟩) (labN_len x)

/-- The first k labels, as a text. -/
def accT (xs : List (Fin 16)) (k : Nat) : List UInt8 := Lib.join ((xs.take k).map fun i => Lib.decDigits i.val) [32]
theorem bytes_app (a b : List UInt8) : (⟨a.toArray⟩ : ByteArray) ++ (⟨b.toArray⟩ : ByteArray) = ⟨(a ++ b).toArray⟩ := by
  apply ByteArray.ext
  simp
theorem accT_one (xs : List (Fin 16)) (h : 0 < xs.length) : accT xs 1 = Lib.decDigits (xs[0]'h).val := by
  cases xs with
  | nil => simp at h
  | cons x r => simp [accT, Lib.join_one]
theorem join_snoc (ys : List (List UInt8)) (hne : ys ≠ []) (z : List UInt8) : Lib.join (ys ++ [z]) [32] = Lib.join ys [32] ++ [32] ++ z := by
  cases ys with
  | nil => exact absurd rfl hne
  | cons x r => simp [Lib.join_cons, Lib.joinTail]
theorem accT_succ (xs : List (Fin 16)) (k : Nat) (h : k < xs.length) (h0 : k ≠ 0) : accT xs (k + 1) = accT xs k ++ [32] ++ Lib.decDigits (xs[k]'h).val := by
  unfold accT
  rw [List.take_add_one, List.map_append, List.getElem?_eq_getElem h]
  exact join_snoc _ (by simp; exact ⟨h0, by intro e; subst e; simp at h⟩) _
theorem accT_len (xs : List (Fin 16)) (k : Nat) : (accT xs k).length ≤ 3 * k := by
  have := joinLen ((xs.take k).map fun i => Lib.decDigits i.val) (by
    intro z hz
    obtain ⟨i, _, rfl⟩ := List.mem_map.1 hz
    exact dig_len i)
  rw [List.length_map, List.length_take] at this
  unfold accT
  omega
theorem bsize (l : List UInt8) : (⟨l.toArray⟩ : ByteArray).size = l.length := by simp [ByteArray.size]
theorem accT_end (xs : List (Fin 16)) : (⟨(accT xs xs.length).toArray⟩ : ByteArray) = (if xs = [] then ⟨#[]⟩ else txt xs) := by
  unfold accT txt
  by_cases h : xs = []
  · subst h; rw [if_pos rfl]; simp [Lib.join_nil]
  · rw [if_neg h, if_neg h, List.take_length]
theorem txt_size (xs : List (Fin 16)) (h : xs ≠ []) : txt xs ≠ (⟨#[]⟩ : ByteArray) := by
  unfold txt
  rw [if_neg h]
  cases xs with
  | nil => exact absurd rfl h
  | cons x r =>
    have hd : Lib.decDigits x.val ≠ [] := by
      by_cases h10 : x.val < 10
      · rw [Lib.decDigits_one h10]; simp
      · rw [Lib.decDigits_two h10 (by omega)]; simp
    simp only [List.map_cons, Lib.join_cons]
    intro e
    have := congrArg (fun b : ByteArray => b.data.toList) e
    simp at this
    exact hd this.1

set_option maxRecDepth 20000 in
theorem RText_aux (x : Int) (hx : W32 x) (w : World) (xs : List (Fin 16)) (hlen : xs.length ≤ 16) (n : Nat) (hn : xs.length = n)
    (HL : Calls Tryd.prog 22 #[.int .u32 x] w fun e w' => ∃ v, e = .returned v ∧ w'.ownsRow w.heap.size 3 1 v n (labV xs) ∧ Below w.heap.size w w') :
    Calls Tryd.prog 24 #[.int .u32 x] w fun e w' => e = .returned (.string (txt xs)) ∧ Below w.heap.size w w' := by
  have HL' := Lib.hid HL
  clear HL
  go_enter Tryd.func24, Tryd.ntmps24
  go_wp2_with fail
  refine HL'.out.mono ?_
  rintro e w1 ⟨v, rfl, hrow, hb⟩
  obtain ⟨o, c, rfl, hcell⟩ : ∃ o c, v = .slice o n c ∧ ∀ k (h : k < n), ∃ g, o = some ⟨g, 0, none⟩ ∧ k < c ∧ w1.cell? ⟨g, k, none⟩ = some (.int .i64 ((xs[k]'(by omega)).val : Int)) := by
    rcases hrow.2 with ⟨h, h0⟩ | ⟨g, cap, cur, h, _, hg, hc, _⟩
    · subst h0
      exact ⟨none, 0, h, fun k hk => absurd hk (Nat.not_lt_zero k)⟩
    · subst h
      refine ⟨_, cap, rfl, fun k hk => ⟨g, rfl, by omega, ?_⟩⟩
      have h1 := hrow.cells (g := g) rfl k (.int .i64 ((xs[k]'(by omega)).val : Int)) (by simp [labV, List.getElem?_eq_getElem (show k < xs.length by omega)])
      have e : (⟨g, 0, none⟩ : Addr).add k = ⟨g, k, none⟩ := by unfold Addr.add; split <;> simp_all
      rwa [e] at h1
  have HC := Lib.hid hcell
  have HB := Lib.hid hb
  clear hcell hb hrow
  go_wp2_with fail
  go_loop [3, 5] (fun s i => ∃ k : Nat, k ≤ n ∧ i = .int .i64 k ∧ s = .string ⟨(accT xs k).toArray⟩) (fun _ i => n - (intOf i).toNat)
  case atStart => exact ⟨0, by omega, rfl, by simp [accT, Lib.join_nil]⟩
  case round =>
    obtain ⟨k, hk, rfl, rfl⟩ := hrel
    by_cases hlt : k < n
    · obtain ⟨g, rfl, hkc, hc⟩ := HC.out k hlt
      have hI := Lib.hid (Tryd.strconv_Itoa_small (xs[k]'(by omega)).val (by omega) w1)
      have hD : (⟨(Lib.decDigits (xs[k]'(by omega)).val).toArray⟩ : ByteArray).size ≤ 2 := by rw [bsize]; exact dig_len (xs[k]'(by omega))
      have hA : (⟨(accT xs k).toArray⟩ : ByteArray).size ≤ 48 := by have := accT_len xs k; rw [bsize]; omega
      have hA2 : (⟨(accT xs k).toArray⟩ ++ ⟨#[32]⟩ : ByteArray).size ≤ 49 := by have := accT_len xs k; rw [bytes_app (accT xs k) [32], bsize]; simp; omega
      have hk1 := Lib.hid (fun h : k = 0 => show (⟨(accT xs (k + 1)).toArray⟩ : ByteArray) = ⟨(accT xs k).toArray⟩ ++ ⟨(Lib.decDigits (xs[k]'(by omega)).val).toArray⟩ by subst h; rw [accT_one xs (by omega), bytes_app]; simp [accT, Lib.join_nil])
      have hk2 := Lib.hid (fun h : k ≠ 0 => show (⟨(accT xs (k + 1)).toArray⟩ : ByteArray) = ⟨(accT xs k).toArray⟩ ++ ⟨#[32]⟩ ++ ⟨(Lib.decDigits (xs[k]'(by omega)).val).toArray⟩ by rw [accT_succ xs k (by omega) h, ← bytes_app, ← bytes_app])
      generalize hy : (xs[k]'(by omega)).val = y at hI hc hD hk1 hk2
      generalize hAA : (⟨(accT xs k).toArray⟩ : ByteArray) = A at hA hA2 hk1 hk2 ⊢
      generalize hDD : (⟨(Lib.decDigits y).toArray⟩ : ByteArray) = D at hI hD hk1 hk2 ⊢
      have HDD := Lib.hid hDD
      clear hAA hDD
      by_cases h0 : k = 0
      · subst h0
        go_wp2_with fail
        refine hI.out.mono ?_
        rintro e w2 ⟨rfl, rfl⟩
        go_wp2_with fail
        go_round
        case rel => exact ⟨1, by omega, rfl, by rw [← HDD.out, ← hy]; exact congrArg Value.string (hk1.out (by simp)).symm⟩
        case measure => simp [intOf]; omega
      · go_wp2_with fail
        refine hI.out.mono ?_
        rintro e w2 ⟨rfl, rfl⟩
        go_wp2_with fail
        go_round
        case rel => exact ⟨k + 1, by omega, by go_num, by exact congrArg Value.string (hk2.out (by simpa using h0)).symm⟩
        case measure => simp [intOf]; omega
    · obtain rfl : k = n := by omega
      subst hn
      have he := accT_end xs
      by_cases hxs : xs = []
      · subst hxs
        rw [if_pos rfl] at he
        rw [he]
        go_wp2_with fail
        go_ret
        exact ⟨by simp [txt], HB.out⟩
      · rw [if_neg hxs] at he
        have hne := txt_size xs hxs
        have hE : (accT xs xs.length).isEmpty = false := by
          cases hh : accT xs xs.length with
          | nil => rw [hh] at he; exact absurd he.symm hne
          | cons _ _ => rfl
        have HE := Lib.hid he
        clear he hne
        go_wp2_with fail
        go_ret
        exact ⟨by rw [HE.out]; rfl, HB.out⟩
theorem RText_any (x : Int) (hx : W32 x) (w : World) :
    Calls Tryd.prog 24 #[.int .u32 x] w fun e w' => e = .returned (.string (txt (labN x 16))) ∧ Below w.heap.size w w' :=
  RText_aux x hx w (labN x 16) (labN_len x 16) _ rfl (RLabels_any x hx w)
end Go.Proofs.YtafnclkkncokpaaDoor

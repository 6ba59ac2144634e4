/-
  Layer 8: New, Of, Copy of package disk: walks.
-/
import Derived.Test.YtbinpapgfddafaaMade
import Derived.Laws.Cover3
namespace Go.Proofs.Ytbinpapgfddafaa
open Go.RowKit
set_option maxHeartbeats 1000000
set_option linter.unusedVariables false
set_option linter.unusedSimpArgs false

theorem New_no {w : World} {n : Int} (h : n < 1 ∨ 32 < n) : Calls Try.prog 10 #[.int .i64 n] w fun e w' => e = .returned (.tuple #[.pointer none, .int .i64 2]) ∧ w = w' := by
  have HM := Lib.hid (made_no (w := w) h (.func (.func 27) #[] #[]))
  clear h
  go_enter Try.func10, Try.ntmps10
  go_wp2_with (go_at_call 26; refine (HM.out).mono ?_; rintro e w' ⟨rfl, rfl⟩)
  go_ret2
  exact ⟨rfl, rfl⟩
theorem enter_New1 : ∀ args W, (callFunc 27 args).run Try.prog W = .ok (.enter 27 args) W := fun _ _ => by kernel_rfl
theorem enter_Of1 : ∀ args W, (callFunc 28 args).run Try.prog W = .ok (.enter 28 args) W := fun _ _ => by kernel_rfl
theorem enter_at : ∀ args W, (callFunc 31 args).run Try.prog W = .ok (.enter 31 args) W := fun _ _ => by kernel_rfl
/-- A new disk. -/
def NewDk (w : World) (P : Nat) (b : List Int) (S : Nat) (w' : World) : Prop := ∃ F, Dk w' S P b F ∧ (∀ k, F k → w.heap.size ≤ k) ∧ Below w.heap.size w w'
theorem New_any (w : World) {P : Nat} (h0 : 1 ≤ P) (h1 : P ≤ 32) : Calls Try.prog 10 #[.int .i64 (P : Int)] w fun e w' => ∃ S, e = .returned (.tuple #[.pointer (some ⟨S, 0, none⟩), .int .i64 0]) ∧ NewDk w P (nw P) S w' := by
  have HM := Lib.hid (made_any (w := w) (dsk_nw h0 h1) 27 #[] #[] enter_New1 (fun n hn W _ => by rw [sec_nw hn]; exact New1_any n W))
  clear h0 h1
  go_enter Try.func10, Try.ntmps10
  go_wp2_with fail
  refine HM.out.mono ?_; rintro e w' ⟨rfl, hd, hb⟩
  have HD := Lib.hid hd
  have HB := Lib.hid hb
  clear hd hb
  go_wp2
  go_ret2
  exact ⟨_, rfl, _, HD.out, fun k hk => by rcases hk with e | e <;> omega, HB.out⟩

/-! ### Of -/
theorem NumsIn.addr {k : IntKind} {w : World} {v : Value} {xs : List Int} (h : NumsIn k w v xs) (h0 : 0 < xs.length) : ∃ g o c, v = .slice (some ⟨g, o, none⟩) xs.length c ∧ xs.length ≤ c ∧ w.rangeAt g o (xs.map (Value.int k)) := by
  rcases h with ⟨_, rfl⟩ | ⟨a, c, rfl, h2, h3, h4, h5⟩
  · simp at h0
  · obtain ⟨g, o, s⟩ := a
    have e : s = none := by
      cases s with
      | none => rfl
      | some s =>
        have h6 := h4 0 _ (List.getElem?_eq_getElem h0)
        have e : (⟨g, o, some s⟩ : Addr).add 0 = ⟨g, o, some s⟩ := by unfold Addr.add; split <;> simp_all
        rw [e] at h6
        simp [World.cell?] at h6
        split at h6 <;> cases h6
    subst e
    refine ⟨g, o, c, rfl, h2, fun j v hj => ?_⟩
    rw [List.getElem?_map] at hj
    obtain ⟨x, hx, rfl⟩ := Option.map_eq_some_iff.1 hj
    have := h4 j x hx
    rw [add_lit] at this
    exact this
theorem range_sec {w : World} {g o P : Nat} {b : List Int} (h : w.rangeAt g o (bv b)) (hl : b.length = 64 * P) {n : Nat} (hn : n < P) : w.rangeAt g (o + 64 * n) (bv (sec b n)) := fun j v hj => by
  have hjl : j < (sec b n).length := by have := (List.getElem?_eq_some_iff.1 hj).1; simpa [bv] using this
  rw [sec_len hl hn] at hjl
  rw [bv_at] at hj
  have h1 := h (64 * n + j) v (by
    rw [bv_at]
    have : (sec b n)[j]? = b[64 * n + j]? := by unfold sec; rw [List.getElem?_take, if_pos hjl, List.getElem?_drop]
    rw [← this]; exact hj)
  rw [Nat.add_assoc]; exact h1
set_option maxRecDepth 100000 in
theorem Of1_any {w : World} {B P : Nat} {v : Value} {b : List Int} (hB : Blk w B #[v] 22) (hv : NumsIn .u8 w v b) (hl : b.length = 64 * P) (hP : P ≤ 32) {n : Nat} (hn : n < P) :
    Calls Try.prog 28 #[.int .i64 (n : Int), .pointer (some ⟨B, 0, none⟩)] w fun e w' => e = .returned (.agg (sc (sec b n))) ∧ Below w.heap.size w w' := by
  obtain ⟨g, o, c, rfl, hc, hr⟩ := hv.addr (by omega)
  have hz := zero_sec
  have hsl := sec_len hl hn
  have hBa := hB.alloc (.cells (sc nou) 61)
  have c0 : (w.alloc (.cells (sc nou) 61)).cell? ⟨B, 0, none⟩ = some (.slice (some ⟨g, o, none⟩) b.length c) := by rw [hBa.cell]; rfl
  have hg : g < w.heap.size := by
    have h6 := hr 0 _ (List.getElem?_eq_getElem (by simp; omega))
    exact World.block_lt_of_cell? _ _ h6
  have hra : (w.alloc (.cells (sc nou) 61)).rangeAt g o (bv b) := fun j v hj => by
    have := hr j v hj
    unfold World.cell? at this ⊢
    rw [Below.heap_alloc _ _ _ hg]; exact this
  have HR := Lib.hid (range_sec hra hl hn)
  clear hB hv hr hra hBa
  generalize hbl : b.length = L at *
  subst hl
  have k1 : (n : Int) * 64 = ((64 * n : Nat) : Int) := by omega
  have hat : ∀ w, (Instr.arrayAt 61 (.slice (some ⟨g, o + 64 * n, none⟩) (64 * P - 64 * n) (c - 64 * n))).run Try.prog w = .ok (.pointer (some ⟨g, o + 64 * n, none⟩)) w := fun w => run_arrayAt w 61 _ 64 _ _ _ Try.underlying61 (by omega)
  have hr6 := HR.out
  go_enter Try.func28, Try.ntmps28
  go_wp2_with (first | ((with_reducible apply wp_load_Sm); (exact ⟨HR.out, hsl⟩); (rfl)) | ((with_reducible apply wp_store_Sn (sec b n)); (exact ⟨nou_len, hsl⟩); (rfl); (rfl)))
  exact bodyPost_ret (res_S (fn := Try.f28) rfl _ (bs_new w hsl) rfl) rfl ⟨rfl, (Below.refl _ _).alloc (Nat.le_refl _) _⟩
theorem Of_no {w : World} {v : Value} {b : List Int} (hv : NumsIn .u8 w v b) (h : sizeB b.length = false) : Calls Try.prog 11 #[v] w fun e w' => e = .returned (.tuple #[.pointer none, .int .i64 2]) ∧ Below w.heap.size w w' := by
  obtain ⟨ao, c, rfl, hc, _⟩ := hv.form
  have hm : (b.length : Int).tmod 64 = (b.length : Int) % 64 := Int.tmod_eq_emod_of_nonneg (by omega)
  have hd : (b.length : Int).tdiv 64 = (b.length : Int) / 64 := Int.tdiv_eq_ediv_of_nonneg (by omega)
  have hml : b.length ≤ maxLen := by obtain ⟨_, _, e, _, h, _⟩ := hv.form; exact h
  unfold maxLen at hml
  by_cases h6 : (b.length : Int) % 64 = 0
  · have HM := Lib.hid (fun W => made_no (w := W) (n := (b.length : Int) / 64) (by simp [sizeB, h6] at h; omega) (.func (.func 28) #[] #[.pointer (some ⟨w.heap.size, 0, none⟩)]))
    clear h hv
    go_enter Try.func11, Try.ntmps11
    go_wp2_with (go_at_call 26; refine (HM.out _).mono ?_; rintro e w' ⟨rfl, rfl⟩)
    go_ret2
    exact ⟨rfl, (Below.refl _ _).alloc (Nat.le_refl _) _⟩
  · clear h hv
    go_enter Try.func11, Try.ntmps11
    go_wp2
    go_ret2
    exact ⟨rfl, (Below.refl _ _).alloc (Nat.le_refl _) _⟩
theorem Of_any {w : World} {v : Value} {P : Nat} {b : List Int} (hv : NumsIn .u8 w v b) (hD : Dsk P b) : Calls Try.prog 11 #[v] w fun e w' => ∃ S, e = .returned (.tuple #[.pointer (some ⟨S, 0, none⟩), .int .i64 0]) ∧ NewDk w P b S w' := by
  obtain ⟨ao, c, rfl, hc, _⟩ := hv.form
  have hl := hD.len
  have hhi := hD.hi
  have hm : (b.length : Int).tmod 64 = 0 := by rw [Int.tmod_eq_emod_of_nonneg (by omega)]; omega
  have hd : (b.length : Int).tdiv 64 = (P : Int) := by rw [Int.tdiv_eq_ediv_of_nonneg (by omega)]; omega
  have hB := blk_new w #[.slice ao b.length c] 22
  have hv1 := hv.below ((Below.refl _ w).alloc (Nat.le_refl _) (.cells #[.slice ao b.length c] 22))
  have HM := Lib.hid (made_any (w := w.alloc (.cells #[.slice ao b.length c] 22)) hD 28 #[] #[.pointer (some ⟨w.heap.size, 0, none⟩)] enter_Of1 (fun n hn W hb => Of1_any (hB.below hb) (hv1.below hb) hl hhi hn))
  clear hv hv1 hD hB
  generalize hbl : b.length = L at *
  subst hl
  go_enter Try.func11, Try.ntmps11
  go_wp2_with fail
  refine HM.out.mono ?_; rintro e w' ⟨rfl, hd2, hb⟩
  have HD := Lib.hid hd2
  have HB := Lib.hid hb
  clear hd2 hb
  go_wp2
  go_ret2
  have hd3 := HD.out
  simp only [World.size_alloc] at hd3
  refine ⟨_, rfl, _, hd3, fun k hk => ?_, ((Below.refl _ w).alloc (Nat.le_refl _) _).trans (HB.out.mono (by simp))⟩
  rcases hk with e | e <;> omega

/-! ### Copy -/
theorem Copy_nil (w : World) : Calls Try.prog 18 #[.pointer none] w fun e w' => e = .returned (.pointer none) ∧ w = w' := by
  have hmf : ∀ (fn : Fn) (first cap : Array Value) (w : World), (Instr.makeFunc fn first cap).run Try.prog w = .ok (.func fn first cap) w := fun _ _ _ _ => rfl
  have HM := Lib.hid (made_no (w := w) (n := 0) (.inl (by omega)) (.func (.func 31) #[.pointer none] #[]))
  go_enter Try.func18, Try.ntmps18
  go_wp2_with (first | (go_at_call 24; refine (Sectors_nil _).mono ?_; rintro e w' ⟨rfl, rfl⟩) | (go_at_call 26; refine (HM.out).mono ?_; rintro e w' ⟨rfl, rfl⟩))
  go_ret
  exact ⟨rfl, rfl⟩
theorem Copy_any {w : World} {S P : Nat} {b : List Int} {F : Nat → Prop} (h : Dk w S P b F) : Calls Try.prog 18 #[.pointer (some ⟨S, 0, none⟩)] w fun e w' => ∃ S', e = .returned (.pointer (some ⟨S', 0, none⟩)) ∧ NewDk w P b S' w' := by
  have hmf : ∀ (fn : Fn) (first cap : Array Value) (w : World), (Instr.makeFunc fn first cap).run Try.prog w = .ok (.func fn first cap) w := fun _ _ _ _ => rfl
  have HS := Lib.hid (Sectors_any h)
  have HM := Lib.hid (made_any (w := w) h.dsk 31 #[.pointer (some ⟨S, 0, none⟩)] #[] enter_at (fun n hn W hb => at_any (h.below hb) hn))
  clear h
  go_enter Try.func18, Try.ntmps18
  go_wp2_with fail
  refine HS.out.mono ?_; rintro e w' ⟨rfl, rfl⟩
  go_wp2_with fail
  refine HM.out.mono ?_; rintro e w' ⟨rfl, hd2, hb⟩
  have HD := Lib.hid hd2
  have HB := Lib.hid hb
  clear hd2 hb
  go_wp2
  go_ret
  exact ⟨_, rfl, _, HD.out, fun k hk => by rcases hk with e | e <;> omega, HB.out⟩
end Go.Proofs.Ytbinpapgfddafaa

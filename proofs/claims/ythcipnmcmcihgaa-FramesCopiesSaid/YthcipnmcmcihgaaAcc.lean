/-
  Layer 5: Read, Write, Load: walks.
-/
import Derived.Test.YthcipnmcmcihgaaReach
namespace Go.Proofs.Ythcipnmcmcihgaa
open Go.RowKit
set_option maxHeartbeats 1000000
set_option linter.unusedVariables false

theorem dv_w32 (k : Int) : W32 (dv k) := by unfold dv W32; split <;> (try split) <;> omega
theorem rea_ref (n : Nat) (hn : n % 64 = 0) (a wd : Int) (ha : W32 a) : reaE n a wd (dv wd) = refE n a wd := by
  obtain ⟨a0, a1⟩ := ha
  unfold reaE refE dv
  by_cases h4 : wd = 4
  · subst h4; simp; split <;> (try split) <;> (try split) <;> omega
  · by_cases h1 : wd = 1
    · subst h1; simp; split <;> (try split) <;> omega
    · simp [h4, h1]
theorem dv_zero {wd : Int} (h : dv wd ≠ 0) : wd = 1 ∨ wd = 4 := by
  unfold dv at h
  split at h
  · exact .inr ‹_›
  · split at h
    · exact .inl ‹_›
    · omega
theorem box_new (w : World) (v : Value) (t : TypeId) : (w.alloc (.cells #[v] t)).heap[w.heap.size]? = some (.cells #[v] t (0, 0)) := heap_alloc_new w _

/-- What Read does behind its box and the widths. -/
theorem reach_read {w : World} {S g c : Nat} {l : List Int} (h : FrIs w S g c l) (a wd : Int) (ha : W32 a) (b : Nat) (hbg : w.heap[b]? = some (.cells #[.int .u32 0] 34 (0, 0))) :
    Calls Try.prog 32 #[.pointer (some ⟨S, 0, none⟩), .int .u32 a, .int .i64 wd, .int .u32 (dv wd), .func (.func 34) #[] #[.pointer (some ⟨b, 0, none⟩)]] w fun e w' =>
      e = .returned (.int .i64 (refE l.length a wd)) ∧ w'.cell? ⟨b, 0, none⟩ = some (.int .u32 (rdE l a wd)) ∧ Turned (fun j => j = b) w w' := by
  have e := rea_ref l.length h.pg a wd ha
  have hgb : g ≠ b := by
    rintro rfl
    obtain ⟨tl, hr⟩ := h.row
    rw [hr] at hbg
    have h0 := h.lo
    have h1 := congrArg (fun a : Array Value => a.toList[0]?) (show (bv l ++ tl).toArray = #[.int .u32 0] by simp at hbg)
    cases l with
    | nil => simp at h0
    | cons x r => simp [bv] at h1
  by_cases hz : refE l.length a wd = 0
  · obtain ⟨hw, hm, hl⟩ := refE_zero hz
    obtain ⟨k, rfl⟩ := Int.eq_ofNat_of_zero_le ha.1
    have hpg := h.pg
    rw [hz]
    have hrd : rdE l k wd = rdV l k wd := by unfold rdE; rw [hz]; simp
    rw [hrd]
    rcases hw with rfl | rfl
    · have := reach_yes h (k : Int) 1 (dv 1) ha (dv_w32 1) (by omega) (by omega) _ (by rw [e, hz]) 34 enter_Read1 (.pointer (some ⟨b, 0, none⟩)) rfl _ (cut_pos h k 1 (by omega) (by omega)) _ (Read1_one h.row h.bytes k b (by omega) hbg)
      exact this.mono fun e w' ⟨h1, h2⟩ => ⟨h1, by simpa [rdV] using h2.1, h2.2⟩
    · have := reach_yes h (k : Int) 4 (dv 4) ha (dv_w32 4) (by omega) (by omega) _ (by rw [e, hz]) 34 enter_Read1 (.pointer (some ⟨b, 0, none⟩)) rfl _ (cut_pos h k 4 (by omega) (by omega)) _ (Read1_four h.row h.bytes k b (by omega) hgb hbg)
      exact this.mono fun e w' ⟨h1, h2⟩ => ⟨h1, by simpa [rdV] using h2.1, h2.2⟩
  · have hrd : rdE l a wd = 0 := by unfold rdE; rw [if_neg hz]
    rw [hrd]
    refine (reach_no h a wd (dv wd) ha (dv_w32 wd) (fun hd => by rcases dv_zero hd with rfl | rfl <;> omega) _ (by rw [e]; exact hz)).mono ?_
    rintro e' w' ⟨h1, rfl⟩
    exact ⟨by rw [h1, e], by simp [World.cell?, hbg], Turned.refl _ _⟩
/-- What is behind the box and the widths. -/
structure Mid (w : World) (S g c : Nat) (l : List Int) (b : Nat) (o : Obj) (wd : Int) (mb : Nat) (W : World) : Prop where
  below : Below w.heap.size w W
  fr : FrIs W S g c l
  box : W.heap[b]? = some o
  look : (Instr.lookup 62 (.map (some mb)) (.int .i64 wd) false).run Try.prog W = .ok (.int .u32 (dv wd)) W
theorem dividers_mid {w : World} {S g c : Nat} {l : List Int} (h : FrIs w S g c l) (o : Obj) (wd : Int) (hwd : (Lit.int .i64 wd).wf = true) :
    Calls Try.prog 33 #[] (w.alloc o) fun e w' => ∃ mb, e = .returned (.map (some mb)) ∧ Mid w S g c l w.heap.size o wd mb w' := by
  refine (dividers_any (w.alloc o)).mono ?_
  rintro e w1 ⟨rfl, hown, hb⟩
  have hb1 : Below w.heap.size w w1 := ((Below.refl _ w).alloc (Nat.le_refl _) o).trans (hb.mono (by simp))
  refine ⟨_, rfl, hb1, h.below hb1, ?_, look_dv hown hwd⟩
  rw [hb.block _ (by simp)]
  exact heap_alloc_new w o
/-- The same where there are none. -/
theorem dividers_nil (w : World) (o : Obj) (wd : Int) (hwd : (Lit.int .i64 wd).wf = true) :
    Calls Try.prog 33 #[] (w.alloc o) fun e w' => ∃ mb, e = .returned (.map (some mb)) ∧ Below w.heap.size w w' ∧ w'.heap[w.heap.size]? = some o ∧ (Instr.lookup 62 (.map (some mb)) (.int .i64 wd) false).run Try.prog w' = .ok (.int .u32 (dv wd)) w' := by
  refine (dividers_any (w.alloc o)).mono ?_
  rintro e w1 ⟨rfl, hown, hb⟩
  refine ⟨_, rfl, ((Below.refl _ w).alloc (Nat.le_refl _) o).trans (hb.mono (by simp)), ?_, look_dv hown hwd⟩
  rw [hb.block _ (by simp)]
  exact heap_alloc_new w o
theorem Read_any {w : World} {S : Nat} {l : List Int} {F : Nat → Prop} (h : Fr w S l F) (a wd : Int) (ha : W32 a) (hwd : (Lit.int .i64 wd).wf = true) :
    Calls Try.prog 18 #[.pointer (some ⟨S, 0, none⟩), .int .u32 a, .int .i64 wd] w fun e w' => e = .returned (.tuple #[.int .u32 (rdE l a wd), .int .i64 (refE l.length a wd)]) ∧ Below w.heap.size w w' := by
  obtain ⟨g, c, rfl, h⟩ := h
  have HF := Lib.hid h
  have HW := Lib.hid ha
  have HK := Lib.hid hwd
  clear h ha hwd
  go_enter Try.func18, Try.ntmps18
  go_wp2_with fail
  refine (dividers_mid HF.out _ wd HK.out).mono ?_
  rintro e w1 ⟨mb, rfl, hM⟩
  have HM := Lib.hid hM
  have hl := hM.look
  clear hM
  go_wp2_with fail
  refine (reach_read HM.out.fr a wd HW.out w.heap.size HM.out.box).mono ?_
  rintro e w2 ⟨rfl, hc, ht⟩
  have HB := Lib.hid (HM.out.below.trans (ht.below HM.out.below.size (fun k hk => by subst hk; exact Nat.le_refl _)))
  clear ht hl
  go_wp2
  go_ret2
  exact ⟨rfl, HB.out⟩
theorem Read_nil (a wd : Int) (hwd : (Lit.int .i64 wd).wf = true) (w : World) :
    Calls Try.prog 18 #[.pointer none, .int .u32 a, .int .i64 wd] w fun e w' => e = .returned (.tuple #[.int .u32 0, .int .i64 1]) ∧ Below w.heap.size w w' := by
  have HK := Lib.hid hwd
  clear hwd
  go_enter Try.func18, Try.ntmps18
  go_wp2_with fail
  refine (dividers_nil w _ wd HK.out).mono ?_
  rintro e w1 ⟨mb, rfl, hb, hbox, hl⟩
  have HB := Lib.hid hb
  have hc : w1.cell? ⟨w.heap.size, 0, none⟩ = some (.int .u32 0) := by simp [World.cell?, hbox]
  clear hb hbox
  go_wp2_with fail
  refine (reach_nil a wd (dv wd) _ w1).mono ?_
  rintro e w2 ⟨rfl, rfl⟩
  go_wp2
  go_ret2
  exact ⟨rfl, HB.out⟩

/-! ### Write -/
/-- Writing leaves frames at the same block, turned in their own blocks alone. -/
def Put (w : World) (S : Nat) (l' : List Int) (F : Nat → Prop) (w' : World) : Prop := Fr w' S l' F ∧ Turned F w w'
theorem reach_write {w : World} {S g c : Nat} {l : List Int} (h : FrIs w S g c l) (a wd x : Int) (ha : W32 a) (hx : W32 x) (b : Nat) (hbg : w.heap[b]? = some (.cells #[.int .u32 x] 34 (0, 0))) :
    Calls Try.prog 32 #[.pointer (some ⟨S, 0, none⟩), .int .u32 a, .int .i64 wd, .int .u32 (dv wd), .func (.func 35) #[] #[.pointer (some ⟨b, 0, none⟩)]] w fun e w' =>
      e = .returned (.int .i64 (refE l.length a wd)) ∧ FrIs w' S g c (wrE l a wd x) ∧ Turned (fun j => j = g) w w' := by
  have e := rea_ref l.length h.pg a wd ha
  have hgb : b ≠ g := by
    rintro rfl
    obtain ⟨tl, hr⟩ := h.row
    rw [hr] at hbg
    have h0 := h.lo
    have h1 := congrArg (fun a : Array Value => a.toList[0]?) (show (bv l ++ tl).toArray = #[.int .u32 x] by simp at hbg)
    cases l with
    | nil => simp at h0
    | cons x r => simp [bv] at h1
  have m0 : w.cell? ⟨b, 0, none⟩ = some (.int .u32 x) := by simp [World.cell?, hbg]
  by_cases hz : refE l.length a wd = 0
  · obtain ⟨hw, hm, hl⟩ := refE_zero hz
    obtain ⟨k, rfl⟩ := Int.eq_ofNat_of_zero_le ha.1
    have hpg := h.pg
    rw [hz]
    have hwr : wrE l k wd x = wrV l k wd x := by unfold wrE; rw [hz]; simp
    rw [hwr]
    rcases hw with rfl | rfl
    · have := reach_yes h (k : Int) 1 (dv 1) ha (dv_w32 1) (by omega) (by omega) _ (by rw [e, hz]) 35 enter_Write1 (.pointer (some ⟨b, 0, none⟩)) rfl _ (cut_pos h k 1 (by omega) (by omega)) _ (Write1_one h.row k b x hx (by omega) m0)
      exact this.mono fun e w' ⟨h1, h2, h3⟩ => ⟨h1, h.write h3 (wrV_length _ _ _ _) (wrV_byt h.bytes _ _ _) h2, h3⟩
    · have := reach_yes h (k : Int) 4 (dv 4) ha (dv_w32 4) (by omega) (by omega) _ (by rw [e, hz]) 35 enter_Write1 (.pointer (some ⟨b, 0, none⟩)) rfl _ (cut_pos h k 4 (by omega) (by omega)) _ (Write1_four h.row k b x hx (by omega) hgb m0)
      exact this.mono fun e w' ⟨h1, h2, h3⟩ => ⟨h1, h.write h3 (wrV_length _ _ _ _) (wrV_byt h.bytes _ _ _) h2, h3⟩
  · have hwr : wrE l a wd x = l := by unfold wrE; rw [if_neg hz]
    rw [hwr]
    refine (reach_no h a wd (dv wd) ha (dv_w32 wd) (fun hd => by rcases dv_zero hd with rfl | rfl <;> omega) _ (by rw [e]; exact hz)).mono ?_
    rintro e' w' ⟨h1, rfl⟩
    exact ⟨by rw [h1, e], h, Turned.refl _ _⟩
theorem Write_any {w : World} {S : Nat} {l : List Int} {F : Nat → Prop} (h : Fr w S l F) (a wd x : Int) (ha : W32 a) (hwd : (Lit.int .i64 wd).wf = true) (hx : W32 x) :
    Calls Try.prog 21 #[.pointer (some ⟨S, 0, none⟩), .int .u32 a, .int .i64 wd, .int .u32 x] w fun e w' => e = .returned (.int .i64 (refE l.length a wd)) ∧ Put w S (wrE l a wd x) F w' := by
  obtain ⟨g, c, rfl, h⟩ := h
  have HF := Lib.hid h
  have HW := Lib.hid ha
  have HX := Lib.hid hx
  have HK := Lib.hid hwd
  clear h ha hwd hx
  go_enter Try.func21, Try.ntmps21
  go_wp2_with fail
  refine (dividers_mid HF.out _ wd HK.out).mono ?_
  rintro e w1 ⟨mb, rfl, hM⟩
  have HM := Lib.hid hM
  have hl := hM.look
  clear hM
  go_wp2_with fail
  refine (reach_write HM.out.fr a wd x HW.out HX.out w.heap.size HM.out.box).mono ?_
  rintro e w2 ⟨rfl, hc, ht⟩
  have HC := Lib.hid hc
  have HT : Hid (Turned (frB S g) w w2) := (Turned.of_below HM.out.below (frB S g)).trans ht (fun x hx => .inl (.inr hx))
  clear ht hl hc
  go_wp2
  go_ret
  exact ⟨rfl, ⟨g, c, rfl, HC.out⟩, HT.out⟩
theorem Write_nil (a wd x : Int) (hwd : (Lit.int .i64 wd).wf = true) (w : World) :
    Calls Try.prog 21 #[.pointer none, .int .u32 a, .int .i64 wd, .int .u32 x] w fun e w' => e = .returned (.int .i64 1) ∧ Below w.heap.size w w' := by
  have HK := Lib.hid hwd
  clear hwd
  go_enter Try.func21, Try.ntmps21
  go_wp2_with fail
  refine (dividers_nil w _ wd HK.out).mono ?_
  rintro e w1 ⟨mb, rfl, hb, hbox, hl⟩
  have HB := Lib.hid hb
  clear hb hbox
  go_wp2_with fail
  refine (reach_nil a wd (dv wd) _ w1).mono ?_
  rintro e w2 ⟨rfl, rfl⟩
  go_wp2
  go_ret
  exact ⟨rfl, HB.out⟩

/-! ### Load -/
theorem rea_ld (n : Nat) (a m : Int) (ha : W32 a) : reaE n a m 1 = ldR n a m := by
  obtain ⟨a0, a1⟩ := ha
  unfold reaE ldR; simp
theorem reach_load {w : World} {S g c : Nat} {l : List Int} (h : FrIs w S g c l) (a : Int) (ha : W32 a) (v : Value) (xs : List Int) (hv : NumsIn .u8 w v xs) (b : Nat) (m0 : w.cell? ⟨b, 0, none⟩ = some v) (hlen : xs.length ≤ 4294967296) :
    Calls Try.prog 32 #[.pointer (some ⟨S, 0, none⟩), .int .u32 a, .int .i64 (xs.length : Int), .int .u32 1, .func (.func 36) #[] #[.pointer (some ⟨b, 0, none⟩)]] w fun e w' =>
      e = .returned (.int .i64 (ldR l.length a xs.length)) ∧ FrIs w' S g c (ldE l a xs) ∧ Turned (fun j => j = g) w w' := by
  have e := rea_ld l.length a xs.length ha
  have w1 : W32 1 := ⟨by omega, by omega⟩
  by_cases hz : ldR l.length a xs.length = 0
  · have hfit := ldR_zero hz
    obtain ⟨k, rfl⟩ := Int.eq_ofNat_of_zero_le ha.1
    rw [hz]
    have hld : ldE l k xs = ldV l k xs := by unfold ldE; rw [hz]; simp
    rw [hld]
    by_cases h0 : xs.length = 0
    · obtain rfl : xs = [] := List.eq_nil_of_length_eq_zero h0
      have hn : ldV l k [] = l := by simp [ldV]
      rw [hn]
      have := reach_yes h (k : Int) 0 1 ha w1 (by omega) (by omega) _ (by simpa using e.trans hz) 36 enter_Load1 (.pointer (some ⟨b, 0, none⟩)) rfl _ (cut_zero h k (by simp at hfit; omega)) _ (Load1_none b v hv m0)
      exact this.mono fun e w' ⟨h1, h2⟩ => by subst h2; exact ⟨h1, h, Turned.refl _ _⟩
    · have := reach_yes h (k : Int) (xs.length : Int) 1 ha w1 (by omega) (by omega) _ (by rw [e, hz]) 36 enter_Load1 (.pointer (some ⟨b, 0, none⟩)) rfl _ (cut_pos h k xs.length (by omega) (by omega)) _ (Load1_any h.row k b v xs hv (by omega) m0 (by omega))
      exact this.mono fun e w' ⟨h1, h2, h3⟩ => ⟨h1, h.write h3 (ldV_length (by omega)) (ldV_byt h.bytes hv.byt _) h2, h3⟩
  · have hld : ldE l a xs = l := by unfold ldE; rw [if_neg hz]
    rw [hld]
    refine (reach_no h a xs.length 1 ha w1 (fun hd => by omega) _ (by rw [e]; exact hz)).mono ?_
    rintro e' w' ⟨h1, rfl⟩
    exact ⟨by rw [h1, e], h, Turned.refl _ _⟩
theorem Load_any {w : World} {S : Nat} {l : List Int} {F : Nat → Prop} (h : Fr w S l F) (a : Int) (ha : W32 a) (v : Value) (xs : List Int) (hv : NumsIn .u8 w v xs) (hlen : xs.length ≤ 65536) :
    Calls Try.prog 23 #[.pointer (some ⟨S, 0, none⟩), .int .u32 a, v] w fun e w' => e = .returned (.int .i64 (ldR l.length a xs.length)) ∧ Put w S (ldE l a xs) F w' := by
  obtain ⟨g, c, rfl, h⟩ := h
  have hA := (Below.refl w.heap.size w).alloc (Nat.le_refl _) (.cells #[v] 22)
  have HF := Lib.hid (h.below hA)
  have HV := Lib.hid (hv.below hA)
  have HW := Lib.hid ha
  have HT0 := Lib.hid (Turned.of_below hA (frB S g))
  have HL := Lib.hid hlen
  have HC0 : Hid ((w.alloc (.cells #[v] 22)).cell? ⟨w.heap.size, 0, none⟩ = some v) := by
    have := box_new w v 22
    show World.cell? _ _ = _
    unfold World.cell?
    rw [this]
    rfl
  obtain ⟨o, c', rfl, _, _, _⟩ := hv.form
  clear h ha hv hlen hA
  go_enter Try.func23, Try.ntmps23
  go_wp2_with fail
  refine (reach_load HF.out a HW.out _ xs HV.out w.heap.size HC0.out (by have := HL.out; omega)).mono ?_
  rintro e w2 ⟨rfl, hc, ht⟩
  have HC := Lib.hid hc
  have HT : Hid (Turned (frB S g) w w2) := HT0.out.trans ht (fun x hx => .inl (.inr hx))
  clear ht hc
  go_wp2
  go_ret
  exact ⟨rfl, ⟨g, c, rfl, HC.out⟩, HT.out⟩
theorem Load_nil (a : Int) (w : World) :
    Calls Try.prog 23 #[.pointer none, .int .u32 a, .slice none 0 0] w fun e w' => e = .returned (.int .i64 1) ∧ Below w.heap.size w w' := by
  go_enter Try.func23, Try.ntmps23
  go_wp2_with fail
  refine (reach_nil a _ _ _ _).mono ?_
  rintro e w2 ⟨rfl, rfl⟩
  go_wp2
  go_ret
  exact ⟨rfl, (Below.refl _ _).alloc (Nat.le_refl _) _⟩
end Go.Proofs.Ythcipnmcmcihgaa

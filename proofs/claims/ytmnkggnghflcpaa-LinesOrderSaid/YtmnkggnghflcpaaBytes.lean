/-
  Layer 7: the bytes of lines: Clone, Queue, Told, Tell, Push, Take, alike: walks.
-/
import Derived.Test.YtmnkggnghflcpaaLeaf
import Derived.Laws.MakeOwn
import Derived.Laws.CopyOwn
import Derived.RegionTactic
namespace Go.Proofs.Ytmnkggnghflcpaa
open Go.RowKit
set_option maxHeartbeats 1000000
set_option linter.unusedVariables false

theorem sl_eql_nil (w : World) (a : Option Addr) (n c n' c' : Nat) : (binOp .eql 28 (.slice a n c) (.slice none n' c')).run Try.prog w = .ok (.bool a.isNone) w := Lib.run_eql_slice_nil w _ _ a n c n' c' Try.underlying28
/-- A slice of bytes that a call made. -/
structure Made (w : World) (v : Value) (xs : List Int) (w' : World) : Prop where
  q : Qs w' v xs
  new : ∀ k, blkOf v = some k → w.heap.size ≤ k
  below : Below w.heap.size w w'
theorem NumsIn.alloc {k : IntKind} {w : World} {v : Value} {xs : List Int} (h : NumsIn k w v xs) (o : Obj) : NumsIn k (w.alloc o) v xs := h.below ((Below.refl _ _).alloc (Nat.le_refl _) o)
theorem Turned.above {w w' : World} {F : Nat → Prop} (h : Turned F w w') {B : Nat} (hB : B ≤ w.heap.size) (hF : ∀ k, F k → B ≤ k) : Below B w w' := h.below hB hF
set_option maxRecDepth 100000 in
theorem Clone_any (v : Value) (xs : List Int) (w : World) (h : NumsIn .u8 w v xs) (hm : xs.length ≤ 1000000) :
    Calls Try.prog 47 #[v] w fun e w' => ∃ v', e = .returned v' ∧ Made w v' xs w' := by
  have hq := fun (w : World) (a : Option Addr) (n c n' c' : Nat) => sl_eql_nil w a n c n' c'
  have HI := Lib.hid (h.alloc (.cells #[] 5))
  rcases h with ⟨rfl, rfl⟩ | ⟨a, c, rfl, hcap, hlen, A0, _⟩
  · go_enter Try.func47, Try.ntmps47
    go_wp2
    go_ret
    exact ⟨_, rfl, Qs.nil _, fun k hk => by simp [blkOf] at hk, Below.refl _ _⟩
  · clear A0
    have HC := Lib.hid hcap
    clear hcap
    go_enter Try.func47, Try.ntmps47
    go_wp2_with (at_builtin; refine wp_append_q rfl _ _ rfl rfl rfl (Qs.empty _ (some ⟨w.heap.size, 0, none⟩)) HI.out (by simp; omega) ?_)
    intro v' w1 hq1 ht hn
    have HQ := Lib.hid hq1
    have HN := Lib.hid hn
    have HT := Lib.hid ht
    clear hq1 hn ht
    obtain ⟨ao, c', rfl, hc'⟩ := HQ.out.shape
    go_wp2
    go_ret
    refine ⟨_, rfl, HQ.out, fun k hk => ?_, ?_⟩
    · rcases HN.out k hk with e | e
      · simp [blkOf] at e
      · omega
    · exact ((Below.refl _ _).alloc (Nat.le_refl _) (.cells #[] 5)).trans (HT.out.below (by simp) (fun k e => by simp [blkOf] at e))
theorem Queue_nil (w : World) : Calls Try.prog 32 #[.pointer none] w fun e w' => e = .returned (.slice none 0 0) ∧ w = w' := by
  go_enter Try.func32, Try.ntmps32
  go_wp2_with (go_at_call 45; refine (none_nil _).mono ?_; rintro e w' ⟨rfl, rfl⟩)
  go_ret
  exact ⟨rfl, rfl⟩
theorem Queue_any {w : World} {S : Nat} {l : Ls} {F : Nat → Prop} (h : At w S l F) (hm : l.wt.length ≤ 1000000) : Calls Try.prog 32 #[.pointer (some ⟨S, 0, none⟩)] w fun e w' => ∃ v', e = .returned v' ∧ Made w v' l.wt w' := by
  obtain ⟨wv, tv, rfl, h⟩ := h
  obtain ⟨c0, _, _, _, _, _, _, c7, _⟩ := h.cells
  have HN := Lib.hid (none_at c0)
  have HC := Lib.hid (Clone_any wv l.wt w h.q.nums hm)
  clear h c0
  go_enter Try.func32, Try.ntmps32
  go_wp2_with (first | (go_at_call 45; refine HN.out.mono ?_; rintro e w' ⟨rfl, rfl⟩) | (go_at_call 47; refine HC.out.mono ?_; rintro e w1 ⟨v', rfl, hM⟩; have HM := Lib.hid hM; clear hM))
  go_ret
  exact ⟨_, rfl, HM.out⟩
theorem Told_nil (w : World) : Calls Try.prog 33 #[.pointer none] w fun e w' => e = .returned (.slice none 0 0) ∧ w = w' := by
  go_enter Try.func33, Try.ntmps33
  go_wp2_with (go_at_call 45; refine (none_nil _).mono ?_; rintro e w' ⟨rfl, rfl⟩)
  go_ret
  exact ⟨rfl, rfl⟩
theorem Told_any {w : World} {S : Nat} {l : Ls} {F : Nat → Prop} (h : At w S l F) (hm : l.td.length ≤ 1000000) : Calls Try.prog 33 #[.pointer (some ⟨S, 0, none⟩)] w fun e w' => ∃ v', e = .returned v' ∧ Made w v' l.td w' := by
  obtain ⟨wv, tv, rfl, h⟩ := h
  obtain ⟨c0, _, _, _, _, _, _, _, _, c9⟩ := h.cells
  have HN := Lib.hid (none_at c0)
  have HC := Lib.hid (Clone_any tv l.td w h.t.nums hm)
  clear h c0
  go_enter Try.func33, Try.ntmps33
  go_wp2_with (first | (go_at_call 45; refine HN.out.mono ?_; rintro e w' ⟨rfl, rfl⟩) | (go_at_call 47; refine HC.out.mono ?_; rintro e w1 ⟨v', rfl, hM⟩; have HM := Lib.hid hM; clear hM))
  go_ret
  exact ⟨_, rfl, HM.out⟩

/-! ### what is pushed, told, taken -/
theorem AtIs.keepT {w w' : World} {S : Nat} {l : Ls} {wv tv : Value} (h : AtIs w S l wv tv) (ht : Turned (fun k => blkOf wv = some k) w w') : Blk w' S (pcL l wv tv) 71 ∧ Qs w' tv l.td :=
  ⟨h.blk.turned ht (fun e => h.q.ne h.blk (by decide) e rfl), h.t.turned ht (fun k hk e => h.ne k e hk)⟩
theorem Tell_nil (y : Int) (w : World) : Calls Try.prog 34 #[.pointer none, .int .u8 y] w fun e w' => e = .returned (.int .i64 0) ∧ w = w' := by
  go_enter Try.func34, Try.ntmps34
  go_wp2_with (go_at_call 45; refine (none_nil _).mono ?_; rintro e w' ⟨rfl, rfl⟩)
  go_ret
  exact ⟨rfl, rfl⟩
theorem Tell_any {w : World} {S : Nat} {l : Ls} {F : Nat → Prop} (h : At w S l F) (y : Int) (hy : 0 ≤ y ∧ y < 256) (hm : l.td.length ≤ 900000) :
    Calls Try.prog 34 #[.pointer (some ⟨S, 0, none⟩), .int .u8 y] w fun e w' => e = .returned (.int .i64 (l.td.length : Int)) ∧ Chg w S { l with td := l.td ++ [y] } F w' := by
  obtain ⟨wv, tv, rfl, h⟩ := h
  obtain ⟨c0, _, _, _, _, _, _, _, _, c9⟩ := h.cells
  have hbt : Byt [y] := by intro x hx; simp at hx; subst hx; exact hy
  have HL := Lib.hid (Qs.lit w hbt (by simp [maxLen]))
  have h1 : AtIs (w.alloc (.cells #[.int .u8 y] 5)) S l wv tv := h.keep fun k hk => Below.heap_alloc _ _ _ (h.lt k hk)
  have HN := Lib.hid (none_at c0)
  have HQ := Lib.hid h1.t
  have HA := Lib.hid h1
  have HW := Lib.hid h
  clear h h1 c0
  go_enter Try.func34, Try.ntmps34
  go_wp2_with (first | (go_at_call 45; refine HN.out.mono ?_; rintro e w' ⟨rfl, rfl⟩) | (at_builtin; refine wp_append_q rfl _ _ rfl rfl rfl HQ.out HL.out.nums (by simp; omega) ?_))
  intro v' w1 hq1 ht hn
  have hb1 : Blk w1 S (pcL l wv tv) 71 := HA.out.blk.turned ht (fun e => HA.out.t.ne HA.out.blk (by decide) e rfl)
  have hq2 : Qs w1 wv l.wt := HA.out.q.turned ht (fun k hk e => HA.out.ne k hk e)
  have hf := hb1.frozen 9
  have d9 : w1.cell? ⟨S, 9, none⟩ = some tv := by rw [hb1.cell]; rfl
  have hS : S < w.heap.size := HW.out.blk.lt
  have hAt : AtIs (w1.setCell ⟨S, 9, none⟩ v') S { l with td := l.td ++ [y] } wv v' := by
    refine ⟨hb1.setCell 9 v', hq2.setCell hb1 9 v', hq1.setCell hb1 9 v', fun k hk e => ?_⟩
    rcases hn k e with e' | e'
    · exact HA.out.ne k hk e'
    · have := HW.out.q.lt hk; omega
  have hT : Turned (atF S wv tv) w (w1.setCell ⟨S, 9, none⟩ v') := ((((Turned.refl _ w).alloc _).trans ht (fun x hx => .inl (.inr (.inr hx))))).setCell (.inl (.inl rfl)) v'
  have HC : Hid (Chg w S { l with td := l.td ++ [y] } (atF S wv tv) (w1.setCell ⟨S, 9, none⟩ v')) := by
    refine ⟨_, ⟨wv, v', rfl, hAt⟩, ?_, hT⟩
    rintro k (e | e | e)
    · exact .inl (.inl e)
    · exact .inl (.inr (.inl e))
    · rcases hn k e with e' | e'
      · exact .inl (.inr (.inr e'))
      · right; omega
  obtain ⟨ao, c', rfl, hc'⟩ := hq1.shape
  simp only [List.length_append, List.length_cons, List.length_nil] at hc'
  clear hq1 ht hn hb1 hq2 hAt hT HQ HL HA HW HN hbt hy
  go_wp2
  go_ret
  have hC := HC.out
  simp only [List.length_append, List.length_cons, List.length_nil, Nat.zero_add] at hC
  exact ⟨by simp, hC⟩
theorem Push_nil (v : Value) (xs : List Int) (w : World) (h : NumsIn .u8 w v xs) : Calls Try.prog 25 #[.pointer none, v] w fun e w' => e = .returned (.tuple #[.int .i64 0, .int .i64 1]) ∧ w = w' := by
  obtain ⟨o, c, rfl, _⟩ := h.form
  go_enter Try.func25, Try.ntmps25
  go_wp2_with (go_at_call 45; refine (none_nil _).mono ?_; rintro e w' ⟨rfl, rfl⟩)
  go_ret2
  exact ⟨rfl, rfl⟩
theorem Push_any {w : World} {S : Nat} {l : Ls} {F : Nat → Prop} (h : At w S l F) (hok : l.Ok) (v : Value) (xs : List Int) (hx : NumsIn .u8 w v xs) (hm : l.ps.length ≤ 900000) :
    Calls Try.prog 25 #[.pointer (some ⟨S, 0, none⟩), v] w fun e w' => e = .returned (.tuple #[.int .i64 (l.pushN xs), .int .i64 (l.pushE xs)]) ∧ Chg w S (l.pushed xs) F w' := by
  have HS := Lib.hid h.same
  obtain ⟨wv, tv, rfl, h⟩ := h
  obtain ⟨c0, _, _, _, _, _, _, c7, c8, c9⟩ := h.cells
  obtain ⟨o, c, rfl, _, hml, _⟩ := hx.form
  unfold maxLen at hml
  have HN := Lib.hid (none_at c0)
  have hwt := hok.wt
  have HA := Lib.hid h
  have HX := Lib.hid hx
  by_cases hle : l.wt.length + xs.length ≤ 256
  · have E1 : Hid (l.pushed xs = { l with ps := l.ps ++ xs }) := if_pos hle
    have E2 : Hid (l.pushN xs = l.ps.length) := if_pos hle
    have E3 : Hid (l.pushE xs = 0) := if_pos hle
    have HWT := Lib.hid (Ls.wt_push hok xs)
    obtain ⟨aw, cw, rfl, hcw⟩ := h.q.shape
    have hgt : ¬ ((256 : Int) - (l.wt.length : Int) < (xs.length : Int)) := by omega
    clear h c0 hok hx
    go_enter Try.func25, Try.ntmps25
    go_wp2_with (first | (go_at_call 45; refine HN.out.mono ?_; rintro e w' ⟨rfl, rfl⟩) | (at_builtin; refine wp_append_q rfl _ _ rfl rfl rfl HA.out.q HX.out (by omega) ?_))
    intro v' w1 hq1 ht hn
    obtain ⟨hb1, ht1⟩ := HA.out.keepT ht
    have hf7 := hb1.frozen 7
    have d7 : w1.cell? ⟨S, 7, none⟩ = some (.slice aw l.wt.length cw) := by rw [hb1.cell]; rfl
    have hf8 := hb1.frozen 8
    have d8 : w1.cell? ⟨S, 8, none⟩ = some (.int .i64 (l.ps.length : Int)) := by rw [hb1.cell]; rfl
    have hAt : AtIs ((w1.setCell ⟨S, 7, none⟩ v').setCell ⟨S, 8, none⟩ (.int .i64 ((l.ps.length : Int) + (xs.length : Int)))) S { l with ps := l.ps ++ xs } v' tv := by
      have hb2 := hb1.setCell 7 v'
      refine ⟨?_, ?_, (ht1.setCell hb1 7 v').setCell hb2 8 _, fun k hk e => ?_⟩
      · have := hb2.setCell 8 (.int .i64 ((l.ps.length : Int) + (xs.length : Int)))
        refine Eq.trans this ?_
        simp [pcL]
      · rw [HWT.out]; exact (hq1.setCell hb1 7 v').setCell hb2 8 _
      · rcases hn k hk with e' | e'
        · exact HA.out.ne k e' e
        · have := HA.out.t.lt e; omega
    have hT : Turned (atF S (.slice aw l.wt.length cw) tv) w ((w1.setCell ⟨S, 7, none⟩ v').setCell ⟨S, 8, none⟩ (.int .i64 ((l.ps.length : Int) + (xs.length : Int)))) := ((ht.mono (fun k hk => .inr (.inl hk))).setCell (.inl (.inl rfl)) v').setCell (.inl (.inl rfl)) _
    have HC : Hid (Chg w S { l with ps := l.ps ++ xs } (atF S (.slice aw l.wt.length cw) tv) ((w1.setCell ⟨S, 7, none⟩ v').setCell ⟨S, 8, none⟩ (.int .i64 ((l.ps.length : Int) + (xs.length : Int))))) := by
      refine ⟨_, ⟨v', tv, rfl, hAt⟩, ?_, hT⟩
      rintro k (e | e | e)
      · exact .inl (.inl e)
      · rcases hn k e with e' | e'
        · exact .inl (.inr (.inl e'))
        · exact .inr e'
      · exact .inl (.inr (.inr e))
    obtain ⟨ao, c', rfl, hc'⟩ := hq1.shape
    clear hq1 ht hn hb1 ht1 hAt hT HA HX HN HWT
    go_wp2
    go_ret2
    have hC := HC.out
    simp only [List.length_append] at hC
    exact ⟨by rw [E2.out, E3.out]; rfl, by rw [E1.out]; exact hC⟩
  · have E1 : Hid (l.pushed xs = l) := if_neg hle
    have E2 : Hid (l.pushN xs = 0) := if_neg hle
    have E3 : Hid (l.pushE xs = 3) := if_neg hle
    obtain ⟨aw, cw, rfl, hcw⟩ := h.q.shape
    have hgt : (256 : Int) - (l.wt.length : Int) < (xs.length : Int) := by omega
    clear h c0 hok hx
    go_enter Try.func25, Try.ntmps25
    go_wp2_with (go_at_call 45; refine HN.out.mono ?_; rintro e w' ⟨rfl, rfl⟩)
    go_ret2
    exact ⟨by rw [E2.out, E3.out]; rfl, by rw [E1.out]; exact HS.out⟩
theorem Chg.drew {w w' : World} {S : Nat} {l : Ls} {F : Nat → Prop} (h : Chg w S l F w') : Chg w S l F w'.drew := by
  obtain ⟨F', h1, h2, h3⟩ := h
  exact ⟨F', h1.keep fun _ _ => rfl, h2, h3.drew⟩
theorem Take_nil (w : World) : Calls Try.prog 24 #[.pointer none] w fun e w' => e = .returned (.tuple #[.int .u8 0, .int .i64 0, .bool false]) ∧ w = w' := by
  go_enter Try.func24, Try.ntmps24
  go_wp2_with (go_at_call 31; refine (Waits_nil _).mono ?_; rintro e w' ⟨rfl, rfl⟩)
  go_ret3
  exact ⟨rfl, rfl⟩
theorem Take_any {w : World} {S : Nat} {l : Ls} {F : Nat → Prop} (h : At w S l F) (hok : l.Ok) (hm : l.ps.length ≤ 900000) :
    Calls Try.prog 24 #[.pointer (some ⟨S, 0, none⟩)] w fun e w' => e = .returned (.tuple #[.int .u8 l.takeB, .int .i64 l.takeN, .bool l.takeY]) ∧ Chg w S l.took F w' := by
  have HS := Lib.hid h.same
  have HWt := Lib.hid (Waits_any h)
  obtain ⟨wv, tv, rfl, h⟩ := h
  obtain ⟨c0, _, _, _, _, _, _, c7, c8, c9⟩ := h.cells
  have hwl := hok.wt_len
  have hw2 := hok.wt
  by_cases hlt : l.tk < l.ps.length
  · have E1 : Hid (l.took = { l with tk := l.tk + 1 }) := if_pos hlt
    have E2 : Hid (l.takeB = at0 l.ps l.tk) := if_pos hlt
    have E3 : Hid (l.takeN = l.tk) := if_pos hlt
    have E4 : Hid (l.takeY = true) := decide_eq_true hlt
    have e5 := Ls.wt_take hlt
    have hq := h.q
    rw [e5] at hq
    obtain ⟨g, o, c, rfl, hcl, hcm, hcell, hq2⟩ := hq.tail
    have h7 := h.blk.frozen 7
    have el : l.wt.length = ({ l with tk := l.tk + 1 } : Ls).wt.length + 1 := by rw [e5]; rfl
    rw [el] at HWt hwl hw2
    have HT : Hid (Chg w S { l with tk := l.tk + 1 } (atF S (.slice (some ⟨g, o, none⟩) (({ l with tk := l.tk + 1 } : Ls).wt.length + 1) (c + 1)) tv) (w.setCell ⟨S, 7, none⟩ (.slice (if c = 0 then some ⟨g, o, none⟩ else some ⟨g, o + 1, none⟩) ({ l with tk := l.tk + 1 } : Ls).wt.length c))) := by
      refine ⟨_, ⟨_, tv, rfl, ⟨h.blk.setCell 7 _, hq2.setCell h.blk 7 _, h.t.setCell h.blk 7 _, fun k hk => ?_⟩⟩, ?_, (Turned.refl _ w).setCell (.inl (.inl rfl)) _⟩
      · have : blkOf (.slice (some ⟨g, o, none⟩) (({ l with tk := l.tk + 1 } : Ls).wt.length + 1) (c + 1)) = some k := by
          by_cases e : c = 0
          · simp [blkOf, e] at hk
          · simp [blkOf, e] at hk ⊢; exact hk
        exact h.ne k this
      · rintro k (e | e | e)
        · exact .inl (.inl e)
        · left; right; left
          by_cases e' : c = 0
          · simp [blkOf, e'] at e
          · simp [blkOf, e'] at e ⊢; exact e
        · exact .inl (.inr (.inr e))
    clear h c0 hok hq hq2 e5 el HS
    generalize ({ l with tk := l.tk + 1 } : Ls).wt.length = m at *
    have fin : ∀ x : Int, x = l.tk → (Ending.returned (.tuple #[.int .u8 (at0 l.ps l.tk), .int .i64 x, .bool true]) : Ending) = .returned (.tuple #[.int .u8 l.takeB, .int .i64 l.takeN, .bool l.takeY]) := by
      intro x hx
      rw [E2.out, E3.out, E4.out, hx]
    have FIN := Lib.hid fin
    clear fin
    rcases Nat.eq_zero_or_pos c with hc | hc
    · subst hc
      have hT := HT.out
      rw [if_pos rfl] at hT
      have HT2 := Lib.hid hT
      clear hT HT
      obtain rfl : m = 0 := by omega
      go_enter Try.func24, Try.ntmps24
      go_wp2_with (go_at_call 31; refine HWt.out.mono ?_; rintro e w' ⟨rfl, rfl⟩)
      go_region
      go_wp2
      go_ret3
      exact ⟨FIN.out _ (by omega), by rw [E1.out]; exact HT2.out.drew⟩
    · have hc' : ¬ c = 0 := by omega
      have hT := HT.out
      rw [if_neg hc'] at hT
      have HT2 := Lib.hid hT
      clear hT HT
      go_enter Try.func24, Try.ntmps24
      go_wp2_with (go_at_call 31; refine HWt.out.mono ?_; rintro e w' ⟨rfl, rfl⟩)
      go_region
      go_wp2
      go_ret3
      exact ⟨FIN.out _ (by omega), by rw [E1.out]; exact HT2.out.drew⟩
  · have E1 : Hid (l.took = l) := if_neg hlt
    have E2 : Hid (l.takeB = 0) := if_neg hlt
    have E3 : Hid (l.takeN = 0) := if_neg hlt
    have E4 : Hid (l.takeY = false) := decide_eq_false hlt
    have e0 : l.wt.length = 0 := by omega
    rw [e0] at HWt
    clear h c0 hok hwl hw2
    go_enter Try.func24, Try.ntmps24
    go_wp2_with (go_at_call 31; refine HWt.out.mono ?_; rintro e w' ⟨rfl, rfl⟩)
    go_ret3
    exact ⟨by rw [E2.out, E3.out, E4.out]; rfl, by rw [E1.out]; exact HS.out⟩
end Go.Proofs.Ytmnkggnghflcpaa

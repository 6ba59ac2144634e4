/-
  Layer 8: the small functions of package disk: none, Sectors, refusal, at, put, New's and Of's sectors, Read, Write; num and Size: walks.
-/
import Derived.Test.YtbinpapgfddafaaRows
import Derived.Test.YtbinpapgfddafaaCell
import Derived.WalkKit
import Derived.WalkSpells
import Derived.WalkLawsBesides
import Derived.Lib.Hide
import Derived.Laws.StructEq
import Derived.Maps.OwnIn
import Derived.Maps.AppendAt
import Derived.BigQuiet
namespace Go.Proofs.Ytbinpapgfddafaa
open Go.RowKit
set_option maxHeartbeats 400000
set_option linter.unusedVariables false
set_option linter.unusedSimpArgs false

theorem num_any (x : Int) (w : World) : Calls Try.prog 12 #[.int .i64 x] w fun e w' => e = .returned (.int .i64 x) ∧ w = w' := by
  go_enter Try.func12, Try.ntmps12
  go_wp2
  go_ret
  exact ⟨rfl, rfl⟩
theorem none_nil (w : World) : Calls Try.prog 32 #[.pointer none] w fun e w' => e = .returned (.bool true) ∧ w = w' := by
  go_enter Try.func32, Try.ntmps32
  go_wp2
  go_ret
  exact ⟨rfl, rfl⟩
theorem none_at {w : World} {S P : Nat} (hc : w.cell? ⟨S, 0, none⟩ = some (.int .i64 (P : Int))) (h1 : 1 ≤ P) : Calls Try.prog 32 #[.pointer (some ⟨S, 0, none⟩)] w fun e w' => e = .returned (.bool false) ∧ w = w' := by
  go_enter Try.func32, Try.ntmps32
  go_wp2
  go_ret
  exact ⟨by simp; omega, rfl⟩
theorem none_any {w : World} {S P : Nat} {b : List Int} {F : Nat → Prop} (h : Dk w S P b F) : Calls Try.prog 32 #[.pointer (some ⟨S, 0, none⟩)] w fun e w' => e = .returned (.bool false) ∧ w = w' := none_at h.cell h.dsk.lo
theorem Sectors_nil (w : World) : Calls Try.prog 24 #[.pointer none] w fun e w' => e = .returned (.int .i64 0) ∧ w = w' := by
  go_enter Try.func24, Try.ntmps24
  go_wp2_with (go_at_call 32; refine (none_nil _).mono ?_; rintro e w' ⟨rfl, rfl⟩)
  go_ret
  exact ⟨rfl, rfl⟩
theorem Sectors_any {w : World} {S P : Nat} {b : List Int} {F : Nat → Prop} (h : Dk w S P b F) : Calls Try.prog 24 #[.pointer (some ⟨S, 0, none⟩)] w fun e w' => e = .returned (.int .i64 (P : Int)) ∧ w = w' := by
  have hc := h.cell
  have HN := Lib.hid (none_any h)
  clear h
  go_enter Try.func24, Try.ntmps24
  go_wp2_with (go_at_call 32; refine (HN.out).mono ?_; rintro e w' ⟨rfl, rfl⟩)
  go_ret
  exact ⟨rfl, rfl⟩
theorem refusal_nil (n : Int) (w : World) : Calls Try.prog 30 #[.pointer none, .int .i64 n] w fun e w' => e = .returned (.int .i64 1) ∧ w = w' := by
  go_enter Try.func30, Try.ntmps30
  go_wp2_with (go_at_call 32; refine (none_nil _).mono ?_; rintro e w' ⟨rfl, rfl⟩)
  go_ret
  exact ⟨rfl, rfl⟩
/-- Why a sector can't be reached. -/
def refP (P : Nat) (n : Int) : Int := if 0 ≤ n ∧ n < (P : Int) then 0 else 4
theorem refP_wr {P : Nat} {b : List Int} (h : Dsk P b) (n : Int) : refP P n = wrR b n := by
  unfold refP wrR
  rw [h.div]
  by_cases h0 : 0 ≤ n ∧ n < (P : Int)
  · rw [if_pos h0, if_pos (by omega)]
  · rw [if_neg h0, if_neg (by omega)]
theorem refusal_any {w : World} {S P : Nat} {b : List Int} {F : Nat → Prop} (h : Dk w S P b F) (n : Int) : Calls Try.prog 30 #[.pointer (some ⟨S, 0, none⟩), .int .i64 n] w fun e w' => e = .returned (.int .i64 (refP P n)) ∧ w = w' := by
  have hc := h.cell
  have HN := Lib.hid (none_any h)
  unfold refP
  clear h
  by_cases h0 : n < 0
  · go_enter Try.func30, Try.ntmps30
    go_wp2_with (go_at_call 32; refine (HN.out).mono ?_; rintro e w' ⟨rfl, rfl⟩)
    go_ret
    exact ⟨rfl, rfl⟩
  · by_cases h1 : (P : Int) ≤ n
    · go_enter Try.func30, Try.ntmps30
      go_wp2_with (go_at_call 32; refine (HN.out).mono ?_; rintro e w' ⟨rfl, rfl⟩)
      go_ret
      exact ⟨rfl, rfl⟩
    · go_enter Try.func30, Try.ntmps30
      go_wp2_with (go_at_call 32; refine (HN.out).mono ?_; rintro e w' ⟨rfl, rfl⟩)
      go_ret
      exact ⟨rfl, rfl⟩
/-- Has so many bytes a disk? -/
def sizeB (n : Int) : Bool := decide (64 ≤ n) && decide (n ≤ 2048) && (n % 64 == 0)
theorem RSize_any (n : Nat) (w : World) : Calls Try.prog 13 #[.int .i64 (n : Int)] w fun e w' => e = .returned (.bool (sizeB n)) ∧ w = w' := by
  have hm : ((n : Int)).tmod 64 = (n : Int) % 64 := Int.tmod_eq_emod_of_nonneg (by omega)
  by_cases h1 : (64 : Int) ≤ n
  · by_cases h2 : (n : Int) ≤ 2048
    · have HE := Lib.hid (show sizeB n = ((n : Int) % 64 == 0) by simp [sizeB, h1, h2])
      go_enter Try.func13, Try.ntmps13
      go_wp2
      go_ret
      refine ⟨?_, rfl⟩
      rw [HE.out]
      rfl
    · have HE := Lib.hid (show sizeB n = false by simp [sizeB, h2])
      go_enter Try.func13, Try.ntmps13
      go_wp2
      go_ret
      refine ⟨?_, rfl⟩
      rw [HE.out]
      rfl
  · have HE := Lib.hid (show sizeB n = false by simp [sizeB, h1])
    go_enter Try.func13, Try.ntmps13
    go_wp2
    go_ret
    refine ⟨?_, rfl⟩
    rw [HE.out]
    rfl

/-! ### a sector's bytes -/
theorem New1_any (n : Int) (w : World) : Calls Try.prog 27 #[.int .i64 n] w fun e w' => e = .returned (.agg (sc nou)) ∧ Below w.heap.size w w' := by
  have hz := zero_sec
  go_enter Try.func27, Try.ntmps27
  go_wp2_with (first | ((with_reducible apply wp_store_Sn nou); (exact ⟨nou_len, nou_len⟩); (rfl); (rfl)))
  exact bodyPost_ret (res_S (fn := Try.f27) rfl _ (bs_new w nou_len) rfl) rfl ⟨rfl, (Below.refl _ _).alloc (Nat.le_refl _) _⟩
theorem DkIs.look {w : World} {S mb P : Nat} {b : List Int} {D : DataW Value} (h : DkIs w S mb P b D) {p : Nat} (hp : p < P) :
    (Instr.lookup 67 (.map (some mb)) (.int .i64 (p : Int)) false).run Try.prog w = .ok (.agg (sc (sec b p))) w := by
  have h32 := h.dsk.hi
  obtain ⟨v, ps, hr, hv⟩ := h.map.lookup numLaw Try.underlying67 (zero_sec w) (hv_at _) (key_int (x := (p : Int)) (wf_i64 (by omega) (by omega)))
  rw [hr]
  cases hu : usd b p with
  | true =>
    rw [h.sd.at_ p (mem_uses.2 ⟨hp, hu⟩)] at hv
    rw [hv_inv hv]
  | false =>
    have hh : Maps.has D (.int .i64 (p : Int)) = false := by rw [h.sd.has, decide_eq_false_iff_not]; rintro ⟨_, h2⟩; rw [mem_uses] at h2; simp [hu] at h2
    rw [Maps.atKey_of_not_has hh] at hv
    rw [hv_inv hv]
    have : sec b p = nou := by simpa [usd] using hu
    rw [this]

theorem at_any {w : World} {S P : Nat} {b : List Int} {F : Nat → Prop} (h : Dk w S P b F) {p : Nat} (hp : p < P) : Calls Try.prog 31 #[.pointer (some ⟨S, 0, none⟩), .int .i64 (p : Int)] w fun e w' => e = .returned (.agg (sc (sec b p))) ∧ Below w.heap.size w w' := by
  obtain ⟨mb, D, rfl, h⟩ := h
  have h1 : DkIs (w.alloc (.cells (sc nou) 61)) S mb P b D := h.keep fun k hk => Below.heap_alloc _ _ _ (h.lt k hk)
  obtain ⟨c0, c1⟩ := h1.cells
  have hl := h1.look hp
  have hsl := sec_len h.dsk.len hp
  have hz := zero_sec
  clear h h1
  go_enter Try.func31, Try.ntmps31
  go_wp2_with (first | ((with_reducible apply wp_store_Sn (sec b p)); (exact ⟨nou_len, hsl⟩); (rfl); (rfl)))
  exact bodyPost_ret (res_S (fn := Try.f31) rfl _ (bs_new w hsl) rfl) rfl ⟨rfl, (Below.refl _ _).alloc (Nat.le_refl _) _⟩

/-! ### a sector is put -/
theorem mem_wr {P : Nat} {b x : List Int} (h : b.length = 64 * P) (hx : x.length = 64) {n : Nat} (hn : n < P) (p : Nat) : p ∈ uses (wr b n x) P ↔ if p = n then x ≠ nou else p ∈ uses b P := by
  rw [mem_uses, mem_uses]
  by_cases e : p = n
  · subst e; simp [usd, sec_wr_same h hx hn, hn]
  · rw [if_neg e]
    by_cases hp : p < P
    · simp [usd, sec_wr_other h hx hn hp e]
    · simp [hp]
theorem map_tight {w : World} {P : Program} {k : TypeId} {R : Value → Option (DataW Value × List MemPlace)} {b n : Nat} {D : DataW Value} (h : w.ownsMap P k R b n D) {m : Nat} (hm : Maps.size D ≤ m) : w.ownsMap P k R b m D := by
  obtain ⟨es, clock, hb, F, hs, rfl⟩ := h
  refine ⟨es, clock, hb, F, ?_, rfl⟩
  simpa [Maps.size, length_sorted] using hm
section
variable {w w' : World} {S mb P : Nat} {b x : List Int} {D : DataW Value} {n : Nat}
theorem sd_del (h : SecD P b D) (hb : b.length = 64 * P) (hn : n < P) : SecD P (wr b n nou) (D.del (.int .i64 (n : Int))) := by
  refine ⟨fun k => ?_, fun p hp z => ?_⟩
  · by_cases e : k = (n : Int)
    · subst e; rw [Maps.has_del_same]
      symm
      rw [decide_eq_false_iff_not]
      rintro ⟨_, h2⟩
      rw [mem_wr hb nou_len hn] at h2
      simp at h2
    · rw [Maps.has_del_other (by simpa using e), h.has, decide_eq_decide]
      refine and_congr_right fun h0 => ?_
      rw [mem_wr hb nou_len hn, if_neg (by omega)]
  · have hne : p ≠ n := by rintro rfl; rw [mem_wr hb nou_len hn] at hp; simp at hp
    have hp' := hp
    rw [mem_wr hb nou_len hn, if_neg hne] at hp
    rw [Maps.atKey_del_other (by simp; omega), h.at_ p hp, sec_wr_other hb nou_len hn (mem_uses.1 hp).1 hne]
theorem sd_put (h : SecD P b D) (hD : Maps.IsMap D) (hb : b.length = 64 * P) (hn : n < P) (hx : x.length = 64) (hne : x ≠ nou) : SecD P (wr b n x) (D.put (.int .i64 (n : Int)) (.held (sv x))) := by
  refine ⟨fun k => ?_, fun p hp z => ?_⟩
  · by_cases e : k = (n : Int)
    · subst e; rw [Maps.has_put_same hD (isKey _)]
      symm
      rw [decide_eq_true_eq]
      refine ⟨by omega, ?_⟩
      rw [mem_wr hb hx hn, if_pos (by omega)]
      exact hne
    · rw [Maps.has_put_other (by simpa using e), h.has, decide_eq_decide]
      refine and_congr_right fun h0 => ?_
      rw [mem_wr hb hx hn, if_neg (by omega)]
  · by_cases e : p = n
    · subst e; rw [Maps.atKey_put_same hD (isKey _), sec_wr_same hb hx hn]
    · rw [mem_wr hb hx hn, if_neg e] at hp
      rw [Maps.atKey_put_other (by simp; omega), h.at_ p hp, sec_wr_other hb hx hn (mem_uses.1 hp).1 e]
/-- Behind what turned the map alone. -/
theorem DkIs.put (h : DkIs w S mb P b D) {b' : List Int} {D' : DataW Value} {m : Nat} (hb' : Dsk P b') (ht : Turned (fun k => k = mb) w w') (hm : w'.ownsMap Try.prog 3 hv mb m D') (hs : SecD P b' D') : DkIs w' S mb P b' D' := by
  refine ⟨hb', h.blk.turned ht h.ne, map_tight hm ?_, hs⟩
  rw [(hs.size hm).1]
  exact Nat.le_trans (uses_le _ _) hb'.hi
end
/-- A disk of these bytes behind a call that turned its own blocks alone. -/
def PutPost (w : World) (S P : Nat) (b : List Int) (F : Nat → Prop) (w' : World) : Prop := Dk w' S P b F ∧ Turned F w w'
theorem put_del {w : World} {S P : Nat} {b : List Int} {F : Nat → Prop} (h : Dk w S P b F) {n : Nat} (hn : n < P) : Calls Try.prog 37 #[.pointer (some ⟨S, 0, none⟩), .int .i64 (n : Int), .agg (sc nou)] w fun e w' => (∃ v, e = .returned v) ∧ PutPost w S P (wr b n nou) F w' := by
  obtain ⟨mb, D, rfl, h⟩ := h
  have h32 := h.dsk.hi
  have h1 : DkIs (w.alloc (.cells (sc nou) 61)) S mb P b D := h.keep fun k hk => Below.heap_alloc _ _ _ (h.lt k hk)
  obtain ⟨c0, c1⟩ := h1.cells
  have key := key_int (x := (n : Int)) (wf_i64 (by omega) (by omega))
  have hown := h1.map
  have hz := zero_sec
  have hq := fun W => eql_sec nou nou nou_len nou_len W
  simp only [decide_true] at hq
  have hgd := guard_sec .eql
  have HB := Lib.hid (bs_new w nou_len)
  have HH := Lib.hid h1
  have HD := Lib.hid (h.dsk.wr nou_len byt_nou hn)
  have HS := Lib.hid (sd_del h.sd h.dsk.len hn)
  clear h h1
  go_enter Try.func37, Try.ntmps37
  go_wp2_with (first | ((with_reducible apply wp_load_S); (exact HB.out); (rfl)) | (at_delete; refine wpList_delete_own _ rfl _ _ 67 3 rfl 61 numLaw Try.underlying67 _ mb _ _ rfl hown _ _ rfl key ?_; intro w3 hown3 hturn3))
  refine bodyPost_ret (results_none rfl _ _ _) rfl ?_
  have ht3 : Turned (fun j => j = mb) (w.alloc (.cells (sc nou) 61)) w3 := Turned.of_grown hturn3.grown (fun j e => by cases e; rfl)
  exact ⟨⟨_, rfl⟩, ⟨mb, _, rfl, HH.out.put HD.out ht3 hown3 HS.out⟩, ((Turned.refl _ w).alloc _).trans ht3 (fun k e => .inl (.inr e))⟩
end Go.Proofs.Ytbinpapgfddafaa

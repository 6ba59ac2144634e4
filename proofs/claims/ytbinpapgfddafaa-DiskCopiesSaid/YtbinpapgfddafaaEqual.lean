/-
  Layer 8: maps.Equal over the maps of two disks: walk.
-/
import Derived.Test.YtbinpapgfddafaaLeaf
import Derived.Deep.LoopGhost
import Derived.Laws.IdiomRangeMap
namespace Go.Proofs.Ytbinpapgfddafaa
open Go.RowKit
set_option maxHeartbeats 4000000
set_option linter.unusedVariables false
set_option linter.unusedSimpArgs false

theorem DkIs.look_ok {w : World} {S mb P : Nat} {b : List Int} {D : DataW Value} (h : DkIs w S mb P b D) {p : Nat} (hp : p < P) :
    (Instr.lookup 67 (.map (some mb)) (.int .i64 (p : Int)) true).run Try.prog w = .ok (.tuple #[.agg (sc (sec b p)), .bool (usd b p)]) w := by
  have h32 := h.dsk.hi
  obtain ⟨v, ps, hr, hv⟩ := h.map.look_ok numLaw Try.underlying67 (zero_sec w) (hv_at _) (key_int (x := (p : Int)) (wf_i64 (by omega) (by omega)))
  rw [hr]
  have hh : Maps.has D (.int .i64 (p : Int)) = usd b p := by
    rw [h.sd.has, Bool.eq_iff_iff, decide_eq_true_eq, mem_uses]
    simp [hp]
  rw [hh]
  cases hu : usd b p with
  | true =>
    rw [h.sd.at_ p (mem_uses.2 ⟨hp, hu⟩)] at hv
    rw [hv_inv hv]
  | false =>
    rw [hu] at hh
    rw [Maps.atKey_of_not_has hh] at hv
    rw [hv_inv hv]
    have : sec b p = nou := by simpa [usd] using hu
    rw [this]
theorem filter_le (f g : Nat → Bool) : ∀ l : List Nat, (∀ x ∈ l, f x = true → g x = true) → (l.filter f).length ≤ (l.filter g).length
  | [], _ => by simp
  | a :: r, h => by
    have ih := filter_le f g r (fun x hx => h x (by simp [hx]))
    have ha := h a (by simp)
    cases hf : f a <;> cases hg : g a <;> simp [hf, hg] at ha ⊢ <;> omega
theorem filter_same (f g : Nat → Bool) : ∀ l : List Nat, (∀ x ∈ l, f x = true → g x = true) → (l.filter f).length = (l.filter g).length → ∀ x ∈ l, g x = true → f x = true
  | [], _, _, x, hx, _ => by cases hx
  | a :: r, h, hl, x, hx, hg => by
    have h' := fun x hx => h x (List.mem_cons_of_mem a hx)
    have hle := filter_le f g r h'
    have ha := h a (by simp)
    cases hfa : f a <;> cases hga : g a <;> simp [hfa, hga] at ha hl
    · rcases List.mem_cons.1 hx with rfl | hx
      · rw [hga] at hg; cases hg
      · exact filter_same f g r h' hl x hx hg
    · omega
    · rcases List.mem_cons.1 hx with rfl | hx
      · exact hfa
      · exact filter_same f g r h' hl x hx hg
/-- What has come of the first one's is in the second one. -/
def Gd (b c : List Int) (P : Nat) (left : Lit → Bool) : Prop := ∀ p, p ∈ uses b P → left (.int .i64 (p : Int)) = false → sec b p = sec c p ∧ usd c p = true
theorem gd_end {b c : List Int} {P : Nat} (hb : b.length = 64 * P) (hc : c.length = 64 * P) {left : Lit → Bool} (h : Gd b c P left) (hl : ∀ k, left k = false) (hs : (uses b P).length = (uses c P).length) : b = c := by
  have hback : ∀ p, p ∈ uses c P → p ∈ uses b P := fun p hp => by
    obtain ⟨h1, h2⟩ := mem_uses.1 hp
    exact mem_uses.2 ⟨h1, filter_same (usd b) (usd c) (List.range P) (fun x hx hu => (h x (mem_uses.2 ⟨List.mem_range.1 hx, hu⟩) (hl _)).2) hs p (List.mem_range.2 h1) h2⟩
  refine ext_sec hb hc fun p hp => ?_
  by_cases hu : p ∈ uses b P
  · exact (h p hu (hl _)).1
  · have hv : p ∉ uses c P := fun e => hu (hback p e)
    rw [mem_uses] at hu hv
    simp [hp, usd] at hu hv
    rw [hu, hv]

theorem gd_start (b c : List Int) (P : Nat) {D : DataW Value} (h : SecD P b D) : Gd b c P (Maps.has D) := fun p hp hl => by
  rw [h.has, decide_eq_false_iff_not] at hl
  exact absurd ⟨by omega, by simpa using hp⟩ hl
theorem gd_step {b c : List Int} {P : Nat} {left : Lit → Bool} (h : Gd b c P left) {p : Nat} (hs : sec b p = sec c p) (hu : usd c p = true) : Gd b c P (fun z => left z && !z.sameKey (.int .i64 (p : Int))) := fun q hq hl => by
  by_cases e : q = p
  · subst e; exact ⟨hs, hu⟩
  · refine h q hq ?_
    simp [Lit.sameKey] at hl
    by_cases e2 : left (.int .i64 (q : Int)) = true
    · exact absurd (hl e2) (by omega)
    · simpa using e2
/-- What a round knows. -/
structure EqI (w : World) (S mb P : Nat) (b : List Int) (D : DataW Value) (S' mb' : Nat) (c : List Int) (D' : DataW Value) (left : Lit → Bool) (cnt : Nat) (W : World) : Prop where
  r : W.ranges Try.prog 3 hv mb w.heap.size 32 D left cnt
  d : DkIs W S' mb' P c D'
  g : Gd b c P left
  b : Below w.heap.size w W
theorem EqI.alloc {w W : World} {S mb P : Nat} {b : List Int} {D : DataW Value} {S' mb' : Nat} {c : List Int} {D' : DataW Value} {left : Lit → Bool} {cnt : Nat} (h : EqI w S mb P b D S' mb' c D' left cnt W) (o : Obj) : EqI w S mb P b D S' mb' c D' left cnt (W.alloc o) :=
  ⟨h.r.alloc o, h.d.keep fun k hk => Below.heap_alloc _ _ _ (h.d.lt k hk), h.g, h.b.alloc h.b.size o⟩
set_option maxRecDepth 100000 in
theorem Equal_any {w : World} {S mb P : Nat} {b : List Int} {D : DataW Value} {S' mb' : Nat} {c : List Int} {D' : DataW Value} (h : DkIs w S mb P b D) (h' : DkIs w S' mb' P c D') :
    Calls Try.prog 36 #[.map (some mb), .map (some mb')] w fun e w' => e = .returned (.bool (decide (b = c))) ∧ Below w.heap.size w w' := by
  have l1 := fun ty => h.map.len Try.underlying67 ty
  have l2 := fun ty => h'.map.len Try.underlying67 ty
  have s1 := (h.sd.size h.map).1
  have s2 := (h'.sd.size h'.map).1
  rw [s1] at l1
  rw [s2] at l2
  have hz := zero_sec
  by_cases hsz : (uses b P).length = (uses c P).length
  · have hown := h.map
    have HH := Lib.hid h
    have HH' := Lib.hid h'
    have HSZ := Lib.hid hsz
    rw [hsz] at l1
    clear h h' s1 s2 hsz
    go_enter Try.func36, Try.ntmps36
    go_wp2_with (at_range; refine wpList_range_own _ rfl _ 67 rfl 3 61 numLaw Try.underlying67 hv mb 32 _ rfl hown ?_; intro w0 hrg0 hg0 hs0)
    have H0 : Hid (EqI w S mb P b D S' mb' c D' (Maps.has D) (Maps.size D) w0) := ⟨hrg0, HH'.out.keep fun k hk => hg0.block _ (HH'.out.lt k hk) (by simp), gd_start b c P HH.out.sd, ⟨hg0.os, hg0.tape, hg0.output, hg0.size, fun k hk => hg0.block k hk (by simp)⟩⟩
    clear hrg0 hg0 hs0 hown l1 l2
    go_frame
    go_loopw [16] (fun _ wr => ∃ (left : Lit → Bool) (cnt : Nat), Hid (EqI w S mb P b D S' mb' c D' left cnt wr)) (fun _ wr => wr.rangeLeft mb w.heap.size)
    case atStart => exact ⟨_, _, H0.out⟩
    case round =>
      obtain ⟨left, cnt, HR⟩ := hrel
      have hrg := HR.out.r
      go_wp2_with (at_next; refine wpList_next_ranges _ rfl _ rfl 3 numLaw hv (Value.int .i64) id (fun key kl hkey => by obtain ⟨x, rfl, _⟩ := Maps.keyOf_int_inv Try.underlying3 hkey; exact ⟨x, rfl⟩) (fun v _ _ => ⟨v, rfl⟩) mb w.heap.size 32 _ _ _ rfl hrg ?_ ?_)
      · intro _ hl0
        have HL := Lib.hid hl0
        clear hrg hl0
        go_wp2
        go_ret
        have h := HH.out
        have h' := HH'.out
        exact ⟨by rw [gd_end h.dsk.len h'.dsk.len HR.out.g HL.out HSZ.out]; simp, HR.out.b⟩
      · intro x cv kl yd yp w1 cnt1 hkey hlx hv1 hat hrg1 hlt hg1 hs1 hen
        obtain ⟨x', e1, rfl, hwx⟩ := Maps.keyOf_int_inv Try.underlying3 hkey
        cases e1
        have hh := Maps.has_true_of_atKey hat
        rw [HH.out.sd.has, decide_eq_true_eq] at hh
        obtain ⟨hx0, hxm⟩ := hh
        obtain ⟨p, rfl⟩ : ∃ p : Nat, x = p := ⟨x.toNat, by omega⟩
        rw [Int.toNat_natCast] at hxm
        have hp := (mem_uses.1 hxm).1
        have hus := (mem_uses.1 hxm).2
        have hy := hat .nil
        rw [HH.out.sd.at_ p hxm] at hy
        subst hy
        obtain rfl := hv_inv hv1
        have hlen1 := sec_len HH.out.dsk.len hp
        have hlen2 := sec_len HH'.out.dsk.len hp
        have hbz := HR.out.b.size
        have hd1 : DkIs w1 S' mb' P c D' := HR.out.d.keep fun k hk => hg1.block k (HR.out.d.lt k hk) (fun e => by have := HH'.out.lt k hk; cases e; omega)
        have hb1 : Below w.heap.size w w1 := HR.out.b.grown hg1 hbz (fun k e => by cases e; omega)
        have hd2 : DkIs (w1.alloc (.cells (sc (sec b p)) 61)) S' mb' P c D' := hd1.keep fun k hk => Below.heap_alloc _ _ _ (hd1.lt k hk)
        have look := hd2.look_ok hp
        have HB1 := Lib.hid ((bs_new w1 hlen1).alloc (.cells (sc (sec c p)) 61))
        have HB2 := Lib.hid (bs_new (w1.alloc (.cells (sc (sec b p)) 61)) hlen2)
        rw [World.size_alloc] at HB2
        have hb3 : Below w.heap.size w ((w1.alloc (.cells (sc (sec b p)) 61)).alloc (.cells (sc (sec c p)) 61)) := (hb1.alloc hb1.size _).alloc (by simp; have := hb1.size; omega) _
        have HB3 := Lib.hid hb3
        have HD1 := Lib.hid hd1
        have HRG := Lib.hid hrg1
        have HLT := Lib.hid hlt
        have hq := fun W => neq_sec (sec b p) (sec c p) hlen1 hlen2 W
        have hgd := guard_sec .neq
        have HUS := Lib.hid hus
        clear hkey hlx hv1 hat hrg1 hlt hg1 hs1 hd1 hd2 hb1 hb3 hxm hus hwx hbz hrg
        cases hu : usd c p with
        | false =>
          rw [hu] at look
          have hne : b ≠ c := fun e => by have := HUS.out; rw [e, hu] at this; cases this
          clear hu hq
          go_wp2_with (first | ((with_reducible apply wp_store_Sn (sec b p)); (exact ⟨nou_len, hlen1⟩); (rfl); (rfl)) | ((with_reducible apply wp_store_Sn1 (sec c p) (w1.heap.size + 1)); (exact ⟨nou_len, hlen2, by simp⟩); (rfl); (rfl)))
          go_ret
          exact ⟨by simp [hne], HB3.out⟩
        | true =>
          rw [hu] at look
          by_cases he : sec b p = sec c p
          · replace hq : ∀ W, (binOp .neq 61 (.agg (sc (sec b p))) (.agg (sc (sec c p)))).run Try.prog W = .ok (.bool false) W := fun W => by rw [neq_sec _ _ hlen1 hlen2, decide_eq_true he]; rfl
            have HE := Lib.hid he
            have HU := Lib.hid hu
            clear hu he
            go_wp2_with (first | ((with_reducible apply wp_store_Sn (sec b p)); (exact ⟨nou_len, hlen1⟩); (rfl); (rfl)) | ((with_reducible apply wp_store_Sn1 (sec c p) (w1.heap.size + 1)); (exact ⟨nou_len, hlen2, by simp⟩); (rfl); (rfl)) | ((with_reducible apply wp_load_Sg); (kernel_rfl); (exact HB1.out); (rfl)) | ((with_reducible apply wp_load_Sg); (kernel_rfl); (exact HB2.out); (rfl)))
            go_roundw
            case rel =>
              refine ⟨_, cnt1, (HRG.out.alloc _).alloc _, ?_, gd_step HR.out.g HE.out HU.out, HB3.out⟩
              exact (HD1.out.keep fun k hk => Below.heap_alloc _ _ _ (HD1.out.lt k hk)).keep fun k hk => Below.heap_alloc _ _ _ (by have := HD1.out.lt k hk; simp; omega)
            case measure =>
              rw [((HRG.out.alloc _).alloc _).left_eq, HR.out.r.left_eq]; exact HLT.out
          · simp only [he, decide_false, Bool.not_false] at hq
            have hne : b ≠ c := fun e => he (by rw [e])
            clear hu he
            go_wp2_with (first | ((with_reducible apply wp_store_Sn (sec b p)); (exact ⟨nou_len, hlen1⟩); (rfl); (rfl)) | ((with_reducible apply wp_store_Sn1 (sec c p) (w1.heap.size + 1)); (exact ⟨nou_len, hlen2, by simp⟩); (rfl); (rfl)) | ((with_reducible apply wp_load_Sg); (kernel_rfl); (exact HB1.out); (rfl)) | ((with_reducible apply wp_load_Sg); (kernel_rfl); (exact HB2.out); (rfl)))
            go_ret
            exact ⟨by simp [hne], HB3.out⟩
  · have hne : b ≠ c := fun e => hsz (by rw [e])
    have hd : ((uses b P).length : Int) ≠ ((uses c P).length : Int) := by omega
    clear h h' s1 s2 hsz
    go_enter Try.func36, Try.ntmps36
    go_wp2
    go_ret
    exact ⟨by simp [hne], Below.refl _ _⟩
end Go.Proofs.Ytbinpapgfddafaa

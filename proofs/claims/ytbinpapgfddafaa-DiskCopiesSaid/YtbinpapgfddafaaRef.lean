/-
  Layer 8: the document's answers: Read, Write, Used: walks.
-/
import Derived.Test.YtbinpapgfddafaaLeaf
import Derived.Test.YtbinpapgfddafaaNew
import Derived.Laws.AppendOwn
import Derived.Maps.AppendAt
import Derived.Deep.Slices
namespace Go.Proofs.Ytbinpapgfddafaa
open Go.RowKit
set_option maxHeartbeats 1000000
set_option linter.unusedVariables false
set_option linter.unusedSimpArgs false

/-! ### Read -/
/-- The first k bytes of x, noughts behind them. -/
def rp (x : List Int) (k : Nat) : List Int := x.take k ++ List.replicate (64 - k) 0
theorem rp_len {x : List Int} (h : x.length = 64) {k : Nat} (hk : k ≤ 64) : (rp x k).length = 64 := by simp [rp]; omega
theorem rp_zero (x : List Int) : rp x 0 = nou := by simp [rp, nou]
theorem rp_all {x : List Int} (h : x.length = 64) : rp x 64 = x := by simp [rp, List.take_of_length_le, h]
theorem at0_rep (n i : Nat) : at0 (List.replicate n 0) i = 0 := by unfold at0; rw [List.getElem?_replicate]; split <;> rfl
theorem rp_set {x : List Int} (h : x.length = 64) {k : Nat} (hk : k < 64) : (rp x k).set k (at0 x k) = rp x (k + 1) := by
  refine list_ext0 (by rw [List.length_set, rp_len h (by omega), rp_len h (by omega)]) fun i hi => ?_
  rw [List.length_set, rp_len h (by omega)] at hi
  rw [at0_set _ _ _ _ (by rw [rp_len h (by omega)]; omega)]
  unfold rp
  rw [at0_append, at0_append, at0_take, at0_take, at0_rep, at0_rep]
  simp only [List.length_take, h]
  rw [show min k 64 = k by omega, show min (k + 1) 64 = k + 1 by omega]
  by_cases e : i = k
  · subst e; simp
  · rw [if_neg e]
    by_cases h1 : i < k
    · simp [h1, show i < k + 1 by omega]
    · simp [h1, show ¬ i < k + 1 by omega]
theorem sc_set (x : List Int) (k : Nat) (y : Int) : (sc x).setIfInBounds k (.int .u8 y) = sc (x.set k y) := by
  unfold sc bv
  rw [List.setIfInBounds_toArray, List.map_set]
theorem Ba.setAt {w : World} {B : Nat} {x : List Int} (h : Ba w B x) (k : Nat) (y : Int) : Ba (w.setCell ⟨B, k, none⟩ (.int .u8 y)) B (x.set k y) := ⟨by have := h.blk.setCell k (.int .u8 y); rw [sc_set] at this; exact this, by simp [h.len]⟩
/-- In a round of Read. -/
structure RdI (w : World) (x : List Int) (k : Nat) (W : World) : Prop where
  o : Ba W w.heap.size nou
  b : Ba W (w.heap.size + 1) (rp x k)
  below : Below w.heap.size w W
theorem rd_start (w : World) (x : List Int) : RdI w x 0 ((w.alloc (.cells (sc nou) 37)).alloc (.cells (sc nou) 37)) := by
  have h2 := ba_new (w.alloc (.cells (sc nou) 37)) nou_len
  rw [World.size_alloc] at h2
  exact ⟨(ba_new w nou_len).alloc _, by rw [rp_zero]; exact h2, ((Below.refl _ _).alloc (Nat.le_refl _) _).alloc (by simp) _⟩
theorem RdI.step {w W : World} {x : List Int} {k : Nat} (h : RdI w x k W) (hx : x.length = 64) (hk : k < 64) : RdI w x (k + 1) (W.setCell ⟨w.heap.size + 1, k, none⟩ (.int .u8 (at0 x k))) :=
  ⟨h.o.keep (Below.heap_setCell _ _ _ _ (by simp)), by have := h.b.setAt k (at0 x k); rw [rp_set hx hk] at this; exact this, h.below.setCell (by simp) _⟩
theorem tdiv64 {n : Nat} : (n : Int).tdiv 64 = ((n / 64 : Nat) : Int) := by rw [Int.tdiv_eq_ediv_of_nonneg (by omega)]; omega
set_option maxRecDepth 100000 in
theorem RRead_any {w : World} {v : Value} {b : List Int} (hv : NumsIn .u8 w v b) (hl : b.length ≤ 1000000) (n : Int) : Calls Try.prog 17 #[v, .int .i64 n] w fun e w' => e = .returned (.tuple #[.agg (sc (rdE b n)), .int .i64 (wrR b n)]) ∧ Below w.heap.size w w' := by
  have hz := zero_arr
  have ht := @tdiv64 b.length
  by_cases h0 : 0 ≤ n ∧ n.toNat < b.length / 64
  · obtain ⟨p, rfl⟩ : ∃ p : Nat, n = (p : Int) := ⟨n.toNat, by omega⟩
    rw [Int.toNat_natCast] at h0
    have hp := h0.2
    have he : rdE b (p : Int) = sec b p := by unfold rdE; rw [if_pos (by simp; omega)]; simp
    have hr : wrR b (p : Int) = 0 := by unfold wrR; rw [if_pos (by simp; omega)]
    rw [he, hr]
    obtain ⟨g, o, c, rfl, hc, hra⟩ := hv.addr (by omega)
    have hg : g < w.heap.size := by
      have h6 := hra 0 _ (List.getElem?_eq_getElem (by simp; omega))
      exact World.block_lt_of_cell? _ _ h6
    have hsl : (sec b p).length = 64 := by unfold sec; rw [List.length_take, List.length_drop]; omega
    have HS := Lib.hid (rd_start w (sec b p))
    have HC := Lib.hid (show ∀ W, Below w.heap.size w W → ∀ k, k < 64 → W.cell? ⟨g, o + (64 * p + k), none⟩ = some (.int .u8 (at0 (sec b p) k)) from fun W hb k hk => by
      have h1 := hra (64 * p + k) (.int .u8 (at0 b (64 * p + k))) (by rw [List.getElem?_map, at0_lt (by omega)]; rfl)
      rw [at0_sec hk]
      unfold World.cell? at h1 ⊢
      rw [hb.block _ hg]; exact h1)
    generalize sec b p = x at *
    have hi : (p : Int) < ((b.length / 64 : Nat) : Int) := by omega
    have hpl : 64 * p + 64 ≤ b.length := by omega
    have hqb : b.length / 64 ≤ 1000000 := by omega
    clear hv hra h0 he hr
    generalize b.length = L at *
    generalize L / 64 = q at *
    go_enter Try.func17, Try.ntmps17
    go_wp2
    go_loopw [7] (fun i wr => ∃ k : Nat, k ≤ 64 ∧ i = .int .i64 (k : Int) ∧ Hid (RdI w x k wr)) (fun i _ => 65 - natI i)
    case atStart => exact ⟨0, by omega, rfl, HS.out⟩
    case round =>
      obtain ⟨k, hk, rfl, HK⟩ := hrel
      by_cases hlt : k < 64
      · have hcell := HC.out wr HK.out.below k hlt
        have hst := HK.out.step hsl hlt
        have hfz := HK.out.b.blk.frozen k
        have hcb : wr.cell? ⟨w.heap.size + 1, k, none⟩ = some (.int .u8 (at0 (rp x k) k)) := by
          rw [HK.out.b.blk.cell, sc_at (by rw [rp_len hsl (by omega)]; exact hlt)]
        have HST := Lib.hid hst
        have k2 : 64 * p + k < L := by omega
        generalize at0 (rp x k) k = y0 at hcb
        generalize at0 x k = y at *
        clear hst
        go_wp2
        refine ⟨⟨k + 1, by omega, by go_num, HST.out⟩, ?_⟩
        simp [natI]; omega
      · obtain rfl : k = 64 := by omega
        have hkb := HK.out.b
        rw [rp_all hsl] at hkb
        have HKB := Lib.hid hkb
        clear hkb
        go_wp2_with (first | ((with_reducible apply wp_load_A); (exact HKB.out); (rfl)) | ((with_reducible apply wp_store_A x); (exact ⟨HK.out.o, hsl⟩); (rfl); (rfl)))
        refine bodyPost_ret (res_A_tmp (fn := Try.f17) rfl _ (HK.out.o.set hsl) rfl) rfl ⟨rfl, ?_⟩
        exact below_setRow HK.out.below (Nat.le_refl _) _
  · have he : rdE b n = nou := by unfold rdE; rw [if_neg h0]
    have hr : wrR b n = 4 := by unfold wrR; rw [if_neg h0]
    rw [he, hr]
    obtain ⟨o, c, rfl, hc, _⟩ := hv.form
    have HS := Lib.hid (rd_start w nou)
    have hqb : b.length / 64 ≤ 1000000 := by omega
    have hcs : n < 0 ∨ (0 ≤ n ∧ ((b.length / 64 : Nat) : Int) ≤ n) := by omega
    clear hv he hr h0
    generalize b.length = L at *
    generalize L / 64 = q at *
    rcases hcs with hn | ⟨hn, hn2⟩
    all_goals
      go_enter Try.func17, Try.ntmps17
      go_wp2_with (first | ((with_reducible apply wp_load_A); (exact HS.out.b); (rfl)) | ((with_reducible apply wp_store_A nou); (exact ⟨HS.out.o, nou_len⟩); (rfl); (rfl)))
      refine bodyPost_ret (res_A_tmp (fn := Try.f17) rfl _ (HS.out.o.set nou_len) rfl) rfl ⟨rfl, ?_⟩
      exact below_setRow HS.out.below (Nat.le_refl _) _

/-! ### Write -/
/-- The first k bytes of x stand in sector n. -/
def wk (b : List Int) (n : Nat) (x : List Int) (k : Nat) : List Int := b.take (64 * n) ++ (x.take k ++ b.drop (64 * n + k))
theorem wk_zero (b : List Int) (n : Nat) (x : List Int) : wk b n x 0 = b := by simp [wk, List.take_append_drop]
theorem wk_all {x : List Int} (h : x.length = 64) (b : List Int) (n : Nat) : wk b n x 64 = wr b n x := by simp [wk, wr, List.take_of_length_le, h]
theorem wk_len {b x : List Int} {n : Nat} (h : 64 * n + 64 ≤ b.length) (hx : x.length = 64) {k : Nat} (hk : k ≤ 64) : (wk b n x k).length = b.length := by simp [wk]; omega
theorem at0_wk {b x : List Int} {n : Nat} (h : 64 * n + 64 ≤ b.length) (hx : x.length = 64) {k : Nat} (hk : k ≤ 64) (i : Nat) : at0 (wk b n x k) i = if 64 * n ≤ i ∧ i < 64 * n + k then at0 x (i - 64 * n) else at0 b i := by
  unfold wk
  have hl : (List.take (64 * n) b).length = 64 * n := by simp; omega
  have hl2 : (List.take k x).length = k := by simp; omega
  rw [at0_append, at0_append, at0_take, at0_take, at0_drop, hl, hl2]
  by_cases h1 : i < 64 * n
  · rw [if_pos h1, if_pos h1, if_neg (by omega)]
  · rw [if_neg h1]
    by_cases h2 : i - 64 * n < k
    · rw [if_pos h2, if_pos h2, if_pos (by omega)]
    · rw [if_neg h2, if_neg (by omega)]
      congr 1; omega
theorem wk_set {b x : List Int} {n : Nat} (h : 64 * n + 64 ≤ b.length) (hx : x.length = 64) {k : Nat} (hk : k < 64) : (wk b n x k).set (64 * n + k) (at0 x k) = wk b n x (k + 1) := by
  refine list_ext0 (by rw [List.length_set, wk_len h hx (by omega), wk_len h hx (by omega)]) fun i hi => ?_
  rw [at0_set _ _ _ _ (by rw [wk_len h hx (by omega)]; omega), at0_wk h hx (by omega), at0_wk h hx (by omega)]
  by_cases e : i = 64 * n + k
  · subst e; rw [if_pos rfl, if_pos (by omega)]; congr 1; omega
  · rw [if_neg e]
    by_cases h1 : 64 * n ≤ i ∧ i < 64 * n + k
    · rw [if_pos h1, if_pos (by omega)]
    · rw [if_neg h1, if_neg (by omega)]
/-- A byte of a slice that may be grown is written. -/
theorem Qs.setAt {w : World} {g o c : Nat} {xs : List Int} (h : Qs w (.slice (some ⟨g, o, none⟩) xs.length c) xs) {i : Nat} (hi : i < xs.length) {y : Int} (hy : 0 ≤ y ∧ y < 256) : Qs (w.setCell ⟨g, o + i, none⟩ (.int .u8 y)) (.slice (some ⟨g, o, none⟩) (xs.set i y).length c) (xs.set i y) := by
  obtain ⟨h0, ao, c', e, h2, h3, h4⟩ := h
  simp at e
  obtain ⟨rfl, rfl⟩ := e
  refine ⟨h0.set i hy, _, _, rfl, by simpa using h2, h3, fun hc => ?_⟩
  obtain ⟨g', o', cur, e1, e2, e3, e4⟩ := h4 hc
  simp at e1
  obtain ⟨rfl, rfl⟩ := e1
  refine ⟨g, o, _, rfl, e2.setCell (o + i) (.int .u8 y), by simpa using e3, ?_⟩
  have : (cur.setIfInBounds (o + i) (.int .u8 y)).toList = cur.toList.set (o + i) (.int .u8 y) := by simp
  rw [this, List.drop_set, if_neg (by omega), Nat.add_sub_cancel_left, List.length_set, List.take_set, e4]
  simp [bv, List.map_set]
theorem Qs.cellAt {w : World} {g o c : Nat} {xs : List Int} (h : Qs w (.slice (some ⟨g, o, none⟩) xs.length c) xs) {i : Nat} (hi : i < xs.length) : w.cell? ⟨g, o + i, none⟩ = some (.int .u8 (at0 xs i)) ∧ w.frozen? ⟨g, o + i, none⟩ = false := by
  obtain ⟨h0, ao, c', e, h2, h3, h4⟩ := h
  simp at e
  obtain ⟨rfl, rfl⟩ := e
  obtain ⟨g', o', cur, e1, e2, e3, e4⟩ := h4 (by omega)
  simp at e1
  obtain ⟨rfl, rfl⟩ := e1
  refine ⟨?_, e2.frozen _⟩
  rw [e2.cell]
  have h5 : (bv xs)[i]? = some (.int .u8 (at0 xs i)) := by rw [bv_at, at0_lt hi]; rfl
  rw [← e4, List.getElem?_take, if_pos hi, List.getElem?_drop] at h5
  simpa using h5
theorem Qs.shape' {w : World} {v : Value} {xs : List Int} (h : Qs w v xs) (h0 : 0 < xs.length) : ∃ g o c, v = .slice (some ⟨g, o, none⟩) xs.length c ∧ xs.length ≤ c ∧ blkOf v = some g := by
  obtain ⟨_, ao, c, rfl, h2, h3, h4⟩ := h
  obtain ⟨g, o, cur, rfl, _⟩ := h4 (by omega)
  exact ⟨g, o, c, rfl, h2, by simp [blkOf]; omega⟩
/-- In a round of Write. -/
structure WrI (w : World) (b : List Int) (n : Nat) (x : List Int) (g o L c k : Nat) (W : World) : Prop where
  q : Qs W (.slice (some ⟨g, o, none⟩) L c) (wk b n x k)
  box : Ba W w.heap.size x
  lo : w.heap.size < g
  len : (wk b n x k).length = L
  below : Below w.heap.size w W
theorem WrI.step {w W : World} {b : List Int} {n : Nat} {x : List Int} {g o L c k : Nat} (h : WrI w b n x g o L c k W) (hb : 64 * n + 64 ≤ b.length) (hx : x.length = 64) (hbx : Byt x) (hk : k < 64) : WrI w b n x g o L c (k + 1) (W.setCell ⟨g, o + (64 * n + k), none⟩ (.int .u8 (at0 x k))) := by
  have hlo := h.lo
  have hq : Qs W (.slice (some ⟨g, o, none⟩) (wk b n x k).length c) (wk b n x k) := by rw [h.len]; exact h.q
  have h1 := hq.setAt (i := 64 * n + k) (by rw [wk_len hb hx (show k ≤ 64 by omega)]; omega) (hbx.at0 k)
  rw [wk_set hb hx hk] at h1
  have hl : (wk b n x (k + 1)).length = L := by rw [← h.len, wk_len hb hx (by omega), wk_len hb hx (by omega)]
  rw [hl] at h1
  exact ⟨h1, h.box.keep (Below.heap_setCell _ _ _ _ (by simp; omega)), h.lo, hl, h.below.setCell (by simp; omega) _⟩
/-- What Write tells: a slice of these bytes, that one or a new one. -/
def WrP (w : World) (v : Value) (b : List Int) (v' : Value) (w' : World) : Prop := NumsIn .u8 w' v' b ∧ (∀ k, rdBlk v' = some k → rdBlk v = some k ∨ w.heap.size ≤ k) ∧ Below w.heap.size w w'
set_option maxRecDepth 100000 in
theorem RWrite_any {w : World} {v : Value} {b : List Int} (hv : NumsIn .u8 w v b) (hl : b.length ≤ 100000) (n : Int) {x : List Int} (hx : x.length = 64) (hbx : Byt x) : Calls Try.prog 21 #[v, .int .i64 n, .agg (sc x)] w fun e w' => ∃ v', e = .returned (.tuple #[v', .int .i64 (wrR b n)]) ∧ WrP w v (wrE b n x) v' w' := by
  have ht := @tdiv64 b.length
  have hbel := (Below.refl w.heap.size w).alloc (Nat.le_refl _) (.cells (sc x) 37)
  by_cases h0 : 0 ≤ n ∧ n.toNat < b.length / 64
  · obtain ⟨p, rfl⟩ : ∃ p : Nat, n = (p : Int) := ⟨n.toNat, by omega⟩
    rw [Int.toNat_natCast] at h0
    have hp := h0.2
    have he : wrE b (p : Int) x = wr b p x := by unfold wrE; rw [if_pos (by simp; omega)]; simp
    have hr : wrR b (p : Int) = 0 := by unfold wrR; rw [if_pos (by simp; omega)]
    rw [he, hr]
    obtain ⟨ao, c, rfl, hc, _⟩ := hv.form
    have hpl : 64 * p + 64 ≤ b.length := by omega
    have hqb : b.length / 64 ≤ 1000000 := by omega
    have hbel2 : Below w.heap.size w ((w.alloc (.cells (sc x) 37)).alloc (.cells #[] 5)) := hbel.alloc (by simp) _
    have HN := Lib.hid (hv.below hbel2)
    have HB := Lib.hid ((ba_new w hx).alloc (.cells #[] 5))
    have HQ := Lib.hid (fun (W : World) (v1 : Value) (hq : Qs W v1 ([] ++ b)) => (show ∃ g o c1, v1 = .slice (some ⟨g, o, none⟩) b.length c1 ∧ b.length ≤ c1 ∧ blkOf v1 = some g from hq.shape' (by simp; omega)))
    have HI := Lib.hid (fun (W : World) (g o c1 : Nat) (hq : Qs W (.slice (some ⟨g, o, none⟩) b.length c1) ([] ++ b)) (ht : Turned (fun k => blkOf (.slice (some ⟨w.heap.size + 1, 0, none⟩) 0 0) = some k) ((w.alloc (.cells (sc x) 37)).alloc (.cells #[] 5)) W) (hlo : w.heap.size < g) =>
      (show WrI w b p x g o b.length c1 0 W from ⟨by rw [wk_zero]; exact hq, ((ba_new w hx).alloc (.cells #[] 5)).turned ht (by simp [blkOf]), hlo, by rw [wk_zero], hbel2.trans (ht.below (by simp; omega) (fun k hk => by simp [blkOf] at hk))⟩))
    have HS := Lib.hid (fun (W : World) (g o c1 k : Nat) (h : WrI w b p x g o b.length c1 k W) (hk : k < 64) => h.step hpl hx hbx hk)
    have HC := Lib.hid (fun (W : World) (g o c1 k : Nat) (h : WrI w b p x g o b.length c1 k W) (hk : k < 64) =>
      (show W.cell? ⟨g, o + (64 * p + k), none⟩ = some (.int .u8 (at0 (wk b p x k) (64 * p + k))) ∧ W.frozen? ⟨g, o + (64 * p + k), none⟩ = false from by
        have hq : Qs W (.slice (some ⟨g, o, none⟩) (wk b p x k).length c1) (wk b p x k) := by rw [h.len]; exact h.q
        exact hq.cellAt (by rw [h.len]; omega)))
    clear hv h0 he hr hbel hbel2
    have hbl := Lib.hid (show b.length ≤ 100000 ∧ 64 * p + 64 ≤ b.length from ⟨hl, hpl⟩)
    have hm : ([] : List Int).length + b.length ≤ 1000000 := by simp; omega
    have hcv : (p : Int) < ((b.length / 64 : Nat) : Int) := by omega
    go_enter Try.func21, Try.ntmps21
    go_wp2_with (at_builtin; refine wp_append_q rfl _ _ rfl rfl rfl (Qs.empty _ (some ⟨w.heap.size + 1, 0, none⟩)) HN.out hm ?_)
    intro v1 w1 hq1 ht1 hf1
    obtain ⟨g, o, c1, rfl, hc1, hb1⟩ := HQ.out _ _ hq1
    have HW0 := Lib.hid (HI.out _ _ _ _ hq1 ht1 (by have := hf1 g hb1; simp [blkOf] at this; omega))
    clear hq1 ht1 hf1 hb1
    go_wp2
    go_loopw [9] (fun q wr => ∃ k : Nat, k ≤ 64 ∧ q = .int .i64 (k : Int) ∧ Hid (WrI w b p x g o b.length c1 k wr)) (fun q _ => 65 - natI q)
    case atStart => exact ⟨0, by omega, rfl, HW0.out⟩
    case round =>
      obtain ⟨k, hk, rfl, HK⟩ := hrel
      by_cases hlt : k < 64
      · obtain ⟨hcell, hfz⟩ := HC.out _ _ _ _ _ HK.out hlt
        have HST := Lib.hid (HS.out _ _ _ _ _ HK.out hlt)
        have hcb : wr.cell? ⟨w.heap.size, k, none⟩ = some (.int .u8 (at0 x k)) := by
          rw [HK.out.box.blk.cell, sc_at (by omega)]
        have k2 : 64 * p + k < b.length := by omega
        generalize at0 (wk b p x k) (64 * p + k) = y0 at hcell
        generalize at0 x k = y at *
        clear hpl hm hcv ht
        go_wp2
        refine ⟨⟨k + 1, by omega, by go_num, HST.out⟩, ?_⟩
        simp [natI]; omega
      · obtain rfl : k = 64 := by omega
        have HK9 := Lib.hid HK.out
        go_wp2
        go_ret2
        have hq := HK9.out.q
        have hlo := HK9.out.lo
        rw [wk_all hx] at hq
        refine ⟨_, rfl, hq.nums, fun k hk => .inr ?_, HK9.out.below⟩
        simp [rdBlk] at hk
        omega
  · have he : wrE b n x = b := by unfold wrE; rw [if_neg h0]
    have hr : wrR b n = 4 := by unfold wrR; rw [if_neg h0]
    rw [he, hr]
    obtain ⟨o, c, rfl, hc, _⟩ := hv.form
    have HN := Lib.hid (hv.below hbel)
    have HBL := Lib.hid hbel
    have hqb : b.length / 64 ≤ 1000000 := by omega
    have hcs : n < 0 ∨ (0 ≤ n ∧ ((b.length / 64 : Nat) : Int) ≤ n) := by omega
    clear hv he hr h0 hbel
    rcases hcs with hn | ⟨hn, hn2⟩
    all_goals
      go_enter Try.func21, Try.ntmps21
      go_wp2
      go_ret2
      exact ⟨_, rfl, HN.out, fun k hk => .inl hk, HBL.out⟩
end Go.Proofs.Ytbinpapgfddafaa

/-
  Layer 3: put of package shadow: walks.
-/
import Derived.Test.YtepmndadbikijaaPut
namespace Go.Proofs.Ytepmndadbikijaa
open Go.RowKit
set_option maxHeartbeats 1000000

def PutPost (w : World) (S P : Nat) (l : List Int) (F : Nat → Prop) (w' : World) : Prop := ∃ F', Sh w' S P l F' ∧ Turned F w w' ∧ ∀ j, F' j → F j ∨ w.heap.size ≤ j
def zPage : Array Value := Array.replicate 64 (.int .u32 0)
theorem zero_page (w : World) : (zeroValue 70).run Try.prog w = .ok (.agg zPage) w := by kernel_rfl
theorem zPage_pg {P : Nat} {l : List Int} (h : l.length = 64 * P) {p : Nat} (hp : p < P) (hq : priv l p = false) : zPage = ((pg l p).map (Value.int .u32)).toArray := by
  refine Array.ext_getElem? fun j => ?_
  unfold zPage
  by_cases hj : j < 64
  · have := at_pg h hp hj; simp [Array.getElem?_replicate, hj, this, not_priv h hq hj]
  · rw [Array.getElem?_eq_none (by simp; omega), Array.getElem?_eq_none (by simp [pg_len h hp]; omega)]

theorem put_same {w : World} {S P : Nat} {l : List Int} {F : Nat → Prop} (h : Sh w S P l F) {p k : Nat} (hp : p < P) (hk : k < 64) (x : Int) (hx : x = at0 l (64 * p + k)) :
    Calls Try.prog 40 #[.pointer (some ⟨S, 0, none⟩), .int .i64 (p : Int), .int .i64 (k : Int), .int .u32 x] w fun e w' => (∃ v, e = .returned v) ∧ w = w' := by
  obtain ⟨mb, G, D, rfl, h⟩ := h
  have HP := Lib.hid (page_any h hp)
  have cP := h.cellAt (p := p) hk
  rw [← hx] at cP
  have k0 : (0 : Int) ≤ k := by omega
  have k1 : (k : Int) < 64 := by omega
  generalize pageAt S l G p = A at HP cP
  clear h hx hk
  go_enter Try.func40, Try.ntmps40
  go_wp2_with (go_at_call 36; refine (HP.out).mono ?_; rintro e w' ⟨rfl, rfl⟩)
  refine bodyPost_ret (results_none rfl _ _ _) rfl ?_
  exact ⟨⟨_, rfl⟩, rfl⟩

theorem put_private {w : World} {S P : Nat} {l : List Int} {F : Nat → Prop} (h : Sh w S P l F) {p k : Nat} (hp : p < P) (hk : k < 64) (x : Int) (hx : S16 x) (hne : x ≠ at0 l (64 * p + k)) (hq : priv l p = true) :
    Calls Try.prog 40 #[.pointer (some ⟨S, 0, none⟩), .int .i64 (p : Int), .int .i64 (k : Int), .int .u32 x] w fun e w' => (∃ v, e = .returned v) ∧ PutPost w S P (l.set (64 * p + k) x) F w' := by
  obtain ⟨mb, G, D, rfl, h⟩ := h
  have hlen := h.bytes.len
  have h32 := h.bytes.hi
  have HH := Lib.hid h
  obtain ⟨cM0, cM, fM⟩ := h.cells
  have HP := Lib.hid (page_any h hp)
  have hpa : pageAt S l G p = ⟨G p, 0, none⟩ := by simp [pageAt, hq]
  have cP := h.cellAt (p := p) hk
  have hcnt := cnt_set_same hlen hp hk x
  rw [hpa, add_at, Nat.zero_add] at cP
  rw [hpa] at HP
  obtain ⟨look1, look2⟩ := h.look_yes hq
  obtain ⟨d1, d2⟩ := h.ne2 hq
  have d3 := h.ne1
  -- the world behind the store, and behind the count
  have fP : w.frozen? ⟨G p, k, none⟩ = false   := (h.cellPage hq hk).2
  have look2' : (Instr.lookup 65 (.map (some mb)) (.int .i64 (p : Int)) false).run Try.prog w = .ok (.pointer (some ⟨G p, 0, none⟩)) w := look2
  obtain ⟨w1, hw1⟩ : ∃ w1, w1 = w.setCell ⟨G p, k, none⟩ (.int .u32 x) := ⟨_, rfl⟩
  have t1 : Turned (fun j => j = G p) w w1 := by rw [hw1]; exact (Turned.refl (fun j => j = G p) w).setCell (p := ⟨G p, k, none⟩) (.inl rfl) _
  have g1 : w1.heap[G p]? = some (.cells ((pg (l.set (64 * p + k) x) p).map (Value.int .u32)).toArray 70 (0, 0)) := by
    rw [hw1, ← cells_set hlen hp hk]; exact set_cells (h.page p hq) _
  have s1 := t1.keep h.blk (fun e => d1 e.symm)
  have m1 := t1.map h.map (fun e => d2 e.symm)
  have cc := (h.cellCnt (p := p) (by omega))
  have cC : w1.cell? ⟨S, p, none⟩ = some (.int .i64 (cnt l p : Int)) ∧ w1.frozen? ⟨S, p, none⟩ = false := by
    simp [World.cell?, World.frozen?, s1, shCells_cnt (cnt l) (P : Int) (some mb) (show p < 32 by omega)]
  have hc1 : 1 ≤ cnt l p := by simp [priv] at hq; omega
  have hca : at0 l (64 * p + k) ≠ 0 ∨ x ≠ 0 := by by_cases e : x = 0; left; rw [← e]; exact fun e' => hne e'.symm; right; exact e
  have HC := Lib.hid (count_any S p (cnt l p) (at0 l (64 * p + k)) x w1 (by omega) (cnt_le l p) hca (fun _ => hc1) cC.1 cC.2)
  have hcv : cnt l p + (if x ≠ 0 then 1 else 0) - (if at0 l (64 * p + k) ≠ 0 then 1 else 0) = cnt (l.set (64 * p + k) x) p := by omega
  rw [hcv] at HC
  have hdone : ∀ w2, Stored w1 w2 S p (.int .i64 (cnt (l.set (64 * p + k) x) p : Int)) → w2.heap[S]? = some (.cells (shCells (cnt (l.set (64 * p + k) x)) P (some mb)) 72 (0, 0)) ∧ Turned (fun j => j = S ∨ j = G p) w w2 ∧
      w2.heap[G p]? = some (.cells ((pg (l.set (64 * p + k) x) p).map (Value.int .u32)).toArray 70 (0, 0)) ∧ w2.ownsMap Try.prog 3 ptrElem mb (privs l P).length D := fun w2 hs =>
    ⟨by have := hs.blk _ _ _ s1; rwa [counts_set hlen hp h32 hk x (some mb) rfl] at this, (t1.mono (fun j e => .inr e)).trans hs.turned (fun j e => .inl (.inl e)), hs.turned.keep g1 d1, hs.turned.map m1 (fun e => d3 e.symm)⟩
  have HD := Lib.hid hdone
  have k0 : (0 : Int) ≤ k := by omega
  have k1 : (k : Int) < 64 := by omega
  have p0 : (0 : Int) ≤ p := by omega
  have p1 : (p : Int) < 32 := by omega
  have hN : (at0 l (64 * p + k) == x) = false := by simpa using fun e => hne e.symm
  have HW := Lib.hid hw1
  have key := key_int (x := (p : Int)) (wf_i64 (by omega) (by omega))
  have HX := Lib.hid hx
  have HQ := Lib.hid hq
  have HLen := Lib.hid hlen
  generalize hxx : at0 l (64 * p + k) = x0 at cP HC hN
  have cnt32 : cnt (l.set (64 * p + k) x) p ≤ 64 := cnt_le _ _
  generalize hcc : cnt (l.set (64 * p + k) x) p = c at HC cnt32
  have HCC := Lib.hid hcc
  clear hcc hxx hdone hca hcv cC cc s1 g1 m1 t1 hc1 h hq hx hlen hne hpa d1 d2 d3 look1 look2 hcnt hw1
  by_cases hz : c = 0
  · subst hz
    go_enter Try.func40, Try.ntmps40
    go_wp2_with (first | (go_at_call 36; refine (HP.out).mono ?_; rintro e w' ⟨rfl, rfl⟩))
    rw [← HW.out]
    refine HC.out.mono ?_
    rintro e w2 ⟨⟨v, rfl⟩, hs⟩
    obtain ⟨q1, q2, q3, q4⟩ := HD.out w2 (by rw [HCC.out]; exact hs)
    have e1 : w2.cell? ⟨S, 33, none⟩ = some (.map (some mb)) := by simp [World.cell?, q1, shCells_map]
    have e2 : w2.cell? ⟨S, p, none⟩ = some (.int .i64 0) := by
      have := shCells_cnt (cnt (l.set (64 * p + k) x)) (P : Int) (some mb) (show p < 32 by omega)
      rw [HCC.out] at this
      simp [World.cell?, q1, this]
    have Q1 := Lib.hid q1
    have Q2 := Lib.hid q2
    have Q3 := Lib.hid q3
    clear hs q1 q2 q3 cP fP cM fM cM0 look2'
    go_wp2_with (at_delete; refine wpList_delete_own _ rfl _ _ 65 3 rfl 74 numLaw Try.underlying65 _ mb _ _ rfl q4 _ _ rfl key ?_; intro w3 hown3 hturn3)
    go_end0
    have h := HH.out
    have ht3 : Turned (fun j => j = mb) w2 w3 := Turned.of_grown hturn3.grown (fun j e => by cases e; rfl)
    have hS3 := ht3.keep Q1.out (fun e => h.ne1 e)
    obtain ⟨F', r1, r2⟩ := put_drop h hp hk HX.out HQ.out (by simp [priv, HCC.out]) ((Q2.out.mono (G := fun j => j = S ∨ j = G p ∨ j = mb) (by rintro j (e | e); exact .inl e; exact .inr (.inl e))).trans ht3 (fun j e => .inl (.inr (.inr e)))) hS3 hown3
    refine ⟨⟨_, rfl⟩, F', r1, (Q2.out.mono (G := shB S mb l G) (by rintro j (e | e); exact .inl e; exact .inr (.inr ⟨p, HQ.out, e⟩))).trans ht3 (fun j e => .inl (.inr (.inl e))), fun j hj => .inl (r2 j hj)⟩
  · have hz' : ((c : Int) == 0) = false := by simpa using hz
    go_enter Try.func40, Try.ntmps40
    go_wp2_with (first | (go_at_call 36; refine (HP.out).mono ?_; rintro e w' ⟨rfl, rfl⟩))
    rw [← HW.out]
    refine HC.out.mono ?_
    rintro e w2 ⟨⟨v, rfl⟩, hs⟩
    obtain ⟨q1, q2, q3, q4⟩ := HD.out w2 (by rw [HCC.out]; exact hs)
    have e2 : w2.cell? ⟨S, p, none⟩ = some (.int .i64 (c : Int)) := by
      have := shCells_cnt (cnt (l.set (64 * p + k) x)) (P : Int) (some mb) (show p < 32 by omega)
      rw [HCC.out] at this
      simp [World.cell?, q1, this]
    have Q1 := Lib.hid q1
    have Q2 := Lib.hid q2
    have Q3 := Lib.hid q3
    clear hs q1 q2 q3 q4 cP fP cM fM cM0 look2'
    go_wp2
    go_end0
    have h := HH.out
    exact ⟨⟨_, rfl⟩, _, put_keep h hp hk HX.out HQ.out (by simp [priv, HCC.out, hz]) Q2.out Q1.out Q3.out, Q2.out.mono (by rintro j (e | e); exact .inl e; exact .inr (.inr ⟨p, HQ.out, e⟩)), fun j hj => .inl hj⟩

/-- Behind the store of a new page into the map. -/
theorem shared_facts {w w1 : World} {S mb P : Nat} {l : List Int} {G : Nat → Nat} {D : DataW Unit} (h : ShIs w S mb P l G D) {p k : Nat} (hp : p < P) (hk : k < 64) {n : Nat} (hq : priv l p = false)
    (hown : w1.ownsMap Try.prog 3 ptrElem mb n (D.put (.int .i64 (p : Int)) (.lit (.int .i64 (w.heap.size : Int))))) (hgrow : (w.alloc (.cells zPage 70)).grownBy w1 (some mb)) :
    w1.heap[w.heap.size]? = some (.cells zPage 70 (0, 0)) ∧ w1.heap[S]? = some (.cells (shCells (cnt l) P (some mb)) 72 (0, 0)) ∧ Turned (fun j => j = mb) w w1 ∧
      (Instr.lookup 65 (.map (some mb)) (.int .i64 (p : Int)) false).run Try.prog w1 = .ok (.pointer (some ⟨w.heap.size, 0, none⟩)) w1 ∧ w1.cell? ⟨S, 33, none⟩ = some (.map (some mb)) ∧
      w1.cell? ⟨w.heap.size, k, none⟩ = some (.int .u32 0) ∧ w1.frozen? ⟨w.heap.size, k, none⟩ = false := by
  have h32 := h.bytes.hi
  have hMl : mb < w.heap.size := h.lt mb (.inr (.inl rfl))
  have hz := zPage_pg h.bytes.len hp hq
  have t1 : Turned (fun j => j = mb) (w.alloc (.cells zPage 70)) w1 := Turned.of_grown hgrow (fun j e => by cases e; rfl)
  have b1 := t1.keep (heap_alloc_new w (.cells zPage 70)) (show ¬ w.heap.size = mb by omega)
  have t2 : Turned (fun j => j = mb) w w1 := ((Turned.refl (fun j => j = mb) w).alloc (.cells zPage 70)).trans t1 (fun j e => .inl e)
  have b2 := t2.keep h.blk h.ne1
  refine ⟨b1, b2, t2, ?_, by simp [World.cell?, b2, shCells_map], ?_, by simp [World.frozen?, b1]⟩
  · obtain ⟨v, ps, hr, hv⟩ := hown.lookup numLaw Try.underlying65 (zeroPtr w1) ptr_nil (key_int (x := (p : Int)) (wf_i64 (by omega) (by omega)))
    rw [Maps.atKey_put_same h.map.isMap (isKey _)] at hv
    rw [hr, ptr_inv hv]
  · have hpk := at_pg h.bytes.len hp hk
    simp only [World.cell?, b1, hz]
    simp [hpk, not_priv h.bytes.len hq hk]
theorem put_shared {w : World} {S P : Nat} {l : List Int} {F : Nat → Prop} (h : Sh w S P l F) {p k : Nat} (hp : p < P) (hk : k < 64) (x : Int) (hx : S16 x) (hne : x ≠ at0 l (64 * p + k)) (hq : priv l p = false) :
    Calls Try.prog 40 #[.pointer (some ⟨S, 0, none⟩), .int .i64 (p : Int), .int .i64 (k : Int), .int .u32 x] w fun e w' => (∃ v, e = .returned v) ∧ PutPost w S P (l.set (64 * p + k) x) F w' := by
  obtain ⟨mb, G, D, rfl, h⟩ := h
  have hlen := h.bytes.len
  have h32 := h.bytes.hi
  have HH := Lib.hid h
  obtain ⟨cM0, cM, fM⟩ := h.cells
  have HP := Lib.hid (page_any h hp)
  have hpa : pageAt S l G p = ⟨S, 34, none⟩ := by simp [pageAt, hq]
  have hx0 := not_priv hlen hq hk
  have cP := h.cellAt (p := p) hk
  have hcnt := cnt_set_same hlen hp hk x
  rw [hpa, add_at, hx0] at cP
  rw [hpa] at HP
  rw [hx0] at hne hcnt
  have hc0 : cnt l p = 0 := by simpa [priv] using hq
  have hc' : cnt (l.set (64 * p + k) x) p = 1 := by simp [hc0, hne] at hcnt; exact hcnt
  have p0 : (0 : Int) ≤ p := by omega
  have p1 : (p : Int) < 32 := by omega
  have key := key_int (x := (p : Int)) (wf_i64 (by omega) (by omega))
  have look1 := (h.look_no (k := (p : Int)) (wf_i64 (by omega) (by omega)) (by simp [hq])).2
  have zp := zero_page
  have d3 := h.ne1
  have hSl := (Array.getElem?_eq_some_iff.1 h.blk).1
  have hMl : mb < w.heap.size := h.lt mb (.inr (.inl rfl))
  have hsz : zPage.size = 64 := by simp [zPage]
  have hnl : (privs l P).length ≤ 32 := by
    have : (privs l P).length ≤ (List.range P).length := List.length_filter_le _ _
    simp at this; omega
  have zeq := zPage_pg hlen hp hq
  have k0 : (0 : Int) ≤ k := by omega
  have k1 : (k : Int) < 64 := by omega
  have hmapA := h.map.alloc (.cells zPage 70)
  have hN : ((0 : Int) == x) = false := by simpa using fun e => hne e.symm
  have xN : (x == 0) = false := by simpa using hne
  have HX := Lib.hid hx
  have HQ := Lib.hid hq
  have HLen := Lib.hid hlen
  have HN := Lib.hid hne
  have HCC := Lib.hid hc'
  have HC0 := Lib.hid hc0
  have HZ := Lib.hid zeq
  have HPA := Lib.hid hpa
  have HSZ := Lib.hid hsz
  clear h hpa hx0 hcnt hc0 hc' hq hx hlen hne zeq hsz
  go_enter Try.func40, Try.ntmps40
  go_wp2_with (first | (go_at_call 36; refine (HP.out).mono ?_; rintro e w' ⟨rfl, rfl⟩) | (at_mapUpdate; refine wpList_mapUpdate_own _ rfl _ _ _ 65 rfl 3 74 numLaw Try.underlying65 _ mb _ _ rfl hmapA (by unfold maxLen; omega) _ _ _ rfl rfl key _ [] (ptr_at _) ?_; intro w1 hown1 hgrow1; obtain ⟨u1, u2, u3, u4, u5, u6, u7⟩ := shared_facts HH.out hp hk HQ.out hown1 hgrow1; have U1 := Lib.hid u1; have U2 := Lib.hid u2; have U3 := Lib.hid u3; have UM := Lib.hid hown1; clear u1 u2 u3 hown1 hgrow1 cM cM0 fM cP look1 zp hmapA))
  have g2 := Lib.hid (set_cells U1.out (.int .u32 x) (k := k))
  rw [HZ.out, cells_set HLen.out hp hk] at g2
  have t2 : Turned (fun j => j = w.heap.size) w1 (w1.setCell ⟨w.heap.size, k, none⟩ (.int .u32 x)) := (Turned.refl (fun j => j = w.heap.size) w1).setCell (p := ⟨w.heap.size, k, none⟩) (.inl rfl) _
  have s2 := t2.keep U2.out (by omega)
  have m2 := t2.map UM.out (by omega)
  have cC : (w1.setCell ⟨w.heap.size, k, none⟩ (.int .u32 x)).cell? ⟨S, p, none⟩ = some (.int .i64 ((0 : Nat) : Int)) ∧ (w1.setCell ⟨w.heap.size, k, none⟩ (.int .u32 x)).frozen? ⟨S, p, none⟩ = false := by
    simp [World.cell?, World.frozen?, s2, shCells_cnt (cnt l) (P : Int) (some mb) (show p < 32 by omega), HC0.out]
  have HC := count_any S p 0 0 x _ (by omega) (by omega) (.inr HN.out) (fun e => absurd rfl e) cC.1 cC.2
  refine HC.mono ?_
  rintro e w3 ⟨⟨v, rfl⟩, hs⟩
  have hS := hs.blk _ _ _ s2
  simp only [HN.out, ne_eq, not_false_eq_true, if_true, not_true_eq_false, if_false, Nat.zero_add, Nat.sub_zero] at hS
  rw [counts_set HLen.out hp h32 hk x (some mb) HCC.out.symm] at hS
  have hG := hs.turned.keep g2.out (by omega)
  have hM := hs.turned.map m2 (fun e => d3 e.symm)
  have hT : Turned (fun j => j = S ∨ j = mb) w w3 := ((U3.out.mono (G := fun j => j = S ∨ j = mb) (fun j e => .inr e)).trans t2 (fun j e => .inr (by omega))).trans hs.turned (fun j e => .inl (.inl e))
  have e2 : w3.cell? ⟨S, p, none⟩ = some (.int .i64 (1 : Int)) := by
    have := shCells_cnt (cnt (l.set (64 * p + k) x)) (P : Int) (some mb) (show p < 32 by omega)
    rw [HCC.out] at this
    simp [World.cell?, hS, this]
  have HS' := Lib.hid hS
  have HG' := Lib.hid hG
  have HM' := Lib.hid hM
  have HT' := Lib.hid hT
  clear hs hS hG hM hT s2 m2 t2 g2 cC HC u4 u5 u6 u7
  go_wp2
  go_end0
  have h := HH.out
  obtain ⟨F', r1, r2⟩ := put_new h hp hk HX.out HQ.out (by simp [priv, HCC.out]) (Nat.le_refl _) HT'.out HS'.out HG'.out HM'.out
  exact ⟨⟨_, rfl⟩, F', r1, HT'.out.mono (by rintro j (e | e); exact .inl e; exact .inr (.inl e)), r2⟩

theorem put_any {w : World} {S P : Nat} {l : List Int} {F : Nat → Prop} (h : Sh w S P l F) {p k : Nat} (hp : p < P) (hk : k < 64) (x : Int) (hx : S16 x) :
    Calls Try.prog 40 #[.pointer (some ⟨S, 0, none⟩), .int .i64 (p : Int), .int .i64 (k : Int), .int .u32 x] w fun e w' => (∃ v, e = .returned v) ∧ PutPost w S P (l.set (64 * p + k) x) F w' := by
  by_cases hne : x = at0 l (64 * p + k)
  · refine (put_same h hp hk x hne).mono ?_
    rintro e w' ⟨hv, rfl⟩
    refine ⟨hv, F, ?_, Turned.refl _ _, fun j hj => .inl hj⟩
    rw [hne, set_same (by have := h.bytes.len; omega)]; exact h
  · cases hq : priv l p with
    | true => exact put_private h hp hk x hx hne hq
    | false => exact put_shared h hp hk x hx hne hq
end Go.Proofs.Ytepmndadbikijaa

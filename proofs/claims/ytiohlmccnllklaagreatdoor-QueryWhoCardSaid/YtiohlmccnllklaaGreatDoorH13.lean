/-
  Layer 12: the methods of what stands for a kind: may a number be, its set: walks. Layer 12: several places of a kind get a set: walks. Layer 12: may a place be, its set: the table of function values is asked, then what it gave: walks. (written by gen_has.py)
-/
import Derived.Test.YtiohlmccnllklaaGreatDoorH12
import Derived.Test.YtiohlmccnllklaaGreatDoorH04
import Derived.Maps.OwnSet
set_option linter.unusedVariables false
set_option linter.unusedSimpArgs false
namespace Go.Proofs.YtiohlmccnllklaaGreatDoor
open Go.RowKit
set_option maxHeartbeats 4000000
set_option maxRecDepth 100000
set_option linter.unusedVariables false
set_option linter.unusedSimpArgs false

/-! ### few -/
theorem fhas_any (ao : Option Addr) (n c : Nat) (x : Int) (w : World) : Calls Tryz.prog 178 #[.slice ao n c, .int .i64 x] w fun e w' => e = .returned (.bool (decide (0 ≤ x) && decide (x < n))) ∧ Below w.heap.size w w' := by
  by_cases hx : 0 ≤ x
  · go_enter Tryz.func178, Tryz.ntmps178
    go_wp2
    go_ret
    exact ⟨by simp [hx], Below.refl _ _⟩
  · go_enter Tryz.func178, Tryz.ntmps178
    go_wp2
    go_ret
    exact ⟨by simp; omega, Below.refl _ _⟩
theorem fget_any (P o n c x : Nat) (hx : x < n) (v : Int) (w : World) (hc : w.cell? ⟨P, o + x, none⟩ = some (.int .u32 v)) : Calls Tryz.prog 177 #[.slice (some ⟨P, o, none⟩) n c, .int .i64 (x : Int)] w fun e w' => e = .returned (.int .u32 v) ∧ Below w.heap.size w w' := by
  have hi : (x : Int) < (n : Int) := by omega
  go_enter Tryz.func177, Tryz.ntmps177
  go_wp2
  go_ret
  exact ⟨rfl, Below.refl _ _⟩
/-! ### counted -/
theorem chas_any (v : Value) (x : Int) (w : World) : Calls Tryz.prog 153 #[v, .int .i64 x] w fun e w' => e = .returned (.bool (decide (0 ≤ x) && decide (x < 2147483648))) ∧ Below w.heap.size w w' := by
  by_cases hx : 0 ≤ x
  · go_enter Tryz.func153, Tryz.ntmps153
    go_wp2
    go_ret
    exact ⟨by simp [hx]; omega, Below.refl _ _⟩
  · go_enter Tryz.func153, Tryz.ntmps153
    go_wp2
    go_ret
    exact ⟨by simp; omega, Below.refl _ _⟩
theorem cget_any {w : World} {b : Nat} {ps : List T.Pr} {k : Int} (h : CntIs w b ps k) (hs : T.Small ps) {x : Int} (hx : I64 x) : Calls Tryz.prog 152 #[.map (some b), .int .i64 x] w fun e w' => e = .returned (.int .u32 (T.get ps (k, x))) ∧ Below w.heap.size w w' := by
  have hl := h.look hs hx 0
  go_enter Tryz.func152, Tryz.ntmps152
  go_wp2
  go_ret
  exact ⟨rfl, Below.refl _ _⟩
/-! ### shadowed -/
theorem get1 {P : Nat} {l : List Int} (h : L3.Bytes P l) {x : Int} (h0 : 0 ≤ x) (h1 : x < 64 * P) : L3.unionV P l x 1 = L3.at0 l x.toNat := by
  unfold L3.unionV
  rw [if_pos (by simp [L3.insB]; omega)]
  have := h.at_ x.toNat
  simp [L3.unionL, L3.orI]
  have := this.1
  omega
theorem shas_any {w : World} {M P : Nat} {l : List Int} {F : Nat → Prop} (h : L3.Sh w M P l F) (x : Int) : Calls Tryz.prog 183 #[.agg #[.pointer (some ⟨M, 0, none⟩)], .int .i64 x] w fun e w' => e = .returned (.bool (decide (0 ≤ x) && decide (x < ((64 * P : Nat) : Int)))) ∧ Below w.heap.size w w' := by
  have HS := Lib.hid (L3.Size_any (h.below (bel1 w (.cells #[.pointer (some ⟨M, 0, none⟩)] 189))))
  have HB := Lib.hid (bel1 w (.cells #[.pointer (some ⟨M, 0, none⟩)] 189))
  clear h
  by_cases hx : 0 ≤ x
  · go_enter Tryz.func183, Tryz.ntmps183
    go_wp2_with (go_at_call 187; refine (HS.out).mono ?_; rintro e w' ⟨rfl, rfl⟩)
    go_ret
    exact ⟨by simp [hx], HB.out⟩
  · go_enter Tryz.func183, Tryz.ntmps183
    go_wp2_with (go_at_call 187; refine (HS.out).mono ?_; rintro e w' ⟨rfl, rfl⟩)
    go_ret
    exact ⟨by simp; omega, HB.out⟩
theorem sget_any {w : World} {M P : Nat} {l : List Int} {F : Nat → Prop} (h : L3.Sh w M P l F) {x : Int} (h0 : 0 ≤ x) (h1 : x < 64 * P) : Calls Tryz.prog 182 #[.agg #[.pointer (some ⟨M, 0, none⟩)], .int .i64 x] w fun e w' => e = .returned (.int .u32 (L3.at0 l x.toNat)) ∧ Below w.heap.size w w' := by
  have HS := Lib.hid (L3.Get_any (h.below (bel1 w (.cells #[.pointer (some ⟨M, 0, none⟩)] 189))) x)
  rw [get1 h.bytes h0 h1] at HS
  have HB := Lib.hid (bel1 w (.cells #[.pointer (some ⟨M, 0, none⟩)] 189))
  clear h
  go_enter Tryz.func182, Tryz.ntmps182
  go_wp2_with (go_at_call 186; refine (HS.out).mono ?_; rintro e w' ⟨rfl, hb⟩)
  go_ret
  exact ⟨rfl, HB.out.trans (hb.mono HB.out.size)⟩
theorem sput_any {w : World} {M P : Nat} {l : List Int} {F : Nat → Prop} (h : L3.Sh w M P l F) (x n s : Int) (hs : W32 s) : Calls Tryz.prog 184 #[.agg #[.pointer (some ⟨M, 0, none⟩)], .int .i64 x, .int .i64 n, .int .u32 s] w fun e w' => (∃ v, e = .returned v) ∧ L3.PutPost w M P (L3.fillR P l x n s) F w' := by
  have HS := Lib.hid (L3.Fill_any (h.below (bel1 w (.cells #[.pointer (some ⟨M, 0, none⟩)] 189))) x n s hs)
  have HB : Hid (L3.Turned F w (w.alloc (.cells #[.pointer (some ⟨M, 0, none⟩)] 189))) := L3.Turned.of_below (bel1 w _) F
  clear h
  go_enter Tryz.func184, Tryz.ntmps184
  go_wp2_with (go_at_call 188; refine (HS.out).mono ?_; rintro e w' ⟨rfl, hp⟩)
  go_end0
  exact ⟨⟨_, rfl⟩, L3.PutPost.step (l := l) HB.out (fun j hj => .inl hj) hp⟩
end Go.Proofs.YtiohlmccnllklaaGreatDoor
namespace Go.Proofs.YtiohlmccnllklaaGreatDoor
open Go.RowKit
set_option maxHeartbeats 4000000
set_option maxRecDepth 100000
set_option linter.unusedVariables false
set_option linter.unusedSimpArgs false

def natI : Value → Nat
  | .int _ x => x.toNat
  | _ => 0
/-- m cells from i0 on have x. -/
def fil (s : Nat → Int) (i0 m : Nat) (x : Int) (i : Nat) : Int := if i0 ≤ i ∧ i < i0 + m then x else s i
theorem fil_0 (s : Nat → Int) (i0 : Nat) (x : Int) : fil s i0 0 x = s := funext fun i => by unfold fil; rw [if_neg (by omega)]
theorem fil_succ (s : Nat → Int) (i0 m : Nat) (x : Int) : (fun j => if j = i0 + m then x else fil s i0 m x j) = fil s i0 (m + 1) x := funext fun i => by
  unfold fil
  by_cases e : i = i0 + m
  · rw [if_pos e, if_pos (by omega)]
  · rw [if_neg e]
    by_cases c : i0 ≤ i ∧ i < i0 + m
    · rw [if_pos c, if_pos (by omega)]
    · rw [if_neg c, if_neg (by omega)]
theorem fput_any {w : World} {P M D : Nat} {s : Nat → Int} {C : Nat → Nat} (h : Blk w P (plCells M D s C) 89) (o n c x m i0 : Nat) (ho : o + x = 2 + i0) (hm : x + m ≤ n) (hi : i0 + m ≤ 144) (hn : n ≤ 8) (v : Int) :
    Calls Tryz.prog 179 #[.slice (some ⟨P, o, none⟩) n c, .int .i64 (x : Int), .int .i64 (m : Int), .int .u32 v] w fun e w' => (∃ u, e = .returned u) ∧ Blk w' P (plCells M D (fil s i0 m v) C) 89 ∧ Turned (fun k => k = P) w w' := by
  have H0 : Hid (Blk w P (plCells M D (fil s i0 0 v) C) 89) := by rw [fil_0]; exact h
  have HO := Lib.hid ho
  clear h ho
  go_enter Tryz.func179, Tryz.ntmps179
  go_wp2
  go_loopw [10] (fun i wr => ∃ k : Nat, k ≤ m ∧ i = .int .i64 (k : Int) ∧ Hid (Blk wr P (plCells M D (fil s i0 k v) C) 89) ∧ Hid (Turned (fun k => k = P) w wr)) (fun i _ => m + 1 - natI i)
  case atStart => exact ⟨0, by omega, rfl, H0.out, Turned.refl _ _⟩
  case round =>
    obtain ⟨k, hk, rfl, HB, HT⟩ := hrel
    by_cases hlt : k < m
    · have l3 : (x : Int) + (k : Int) < 9 := by omega
      have c0 : wr.cell? ⟨P, o + (x + k), none⟩ = some (.int .u32 (fil s i0 k v (i0 + k))) := by
        rw [HB.out.cell, show o + (x + k) = 2 + (i0 + k) by have := HO.out; omega, plCells_sm _ _ _ _ (by omega)]
      have f0 := HB.out.frozen (o + (x + k))
      have l1 : (k : Int) < (m : Int) := by omega
      have l2 : (x : Int) + (k : Int) < (n : Int) := by omega
      go_wp2
      refine ⟨⟨k + 1, by omega, by go_num, ?_, HT.out.setCell (.inl rfl) _⟩, by simp [natI]; omega⟩
      have := HB.out.setCell (o + (x + k)) (.int .u32 v)
      rw [show o + (x + k) = 2 + (i0 + k) by have := HO.out; omega, plCells_set _ _ _ _ (by omega), fil_succ] at this
      rw [show o + (x + k) = 2 + (i0 + k) by have := HO.out; omega]
      exact this
    · obtain rfl : k = m := by omega
      go_wp2
      go_end0
      exact ⟨⟨_, rfl⟩, HB.out, HT.out⟩

theorem turned_map {w w' : World} {b : Nat} (h : w.mapTurned w' b) : Turned (fun k => k = b) w w' := Turned.of_grown h.grown (fun k e => by cases e; rfl)
theorem marks_rng {k x v : Int} {ps : List T.Pr} (hb : ∀ y ∈ ps, y.1.1 = k → 0 ≤ y.1.2 ∧ y.1.2 < 2147483648) : ∀ m : Nat, 0 ≤ x → x + m ≤ 2147483648 → ∀ y ∈ T.marks (k, x) v m ps, y.1.1 = k → 0 ≤ y.1.2 ∧ y.1.2 < 2147483648
  | 0, _, _ => hb
  | m + 1, h0, hm => fun y hy e => by
    rcases T.put_mem hy with rfl | hy
    · exact ⟨by show 0 ≤ x + (m : Int); omega, by show x + (m : Int) < _; omega⟩
    · exact marks_rng hb m h0 (by omega) y hy e
theorem cput_any {w : World} {b : Nat} {ps : List T.Pr} {k : Int} (h : CntIs w b ps k) (hr : T.Ris ps) (hb : ∀ y ∈ ps, y.1.1 = k → 0 ≤ y.1.2 ∧ y.1.2 < 2147483648) (x m : Nat) (hx : x + m ≤ 2147483648) {v : Int} (hv : W32 v) :
    Calls Tryz.prog 154 #[.map (some b), .int .i64 (x : Int), .int .i64 (m : Int), .int .u32 v] w fun e w' => (∃ u, e = .returned u) ∧ CntIs w' b (T.marks (k, (x : Int)) v m ps) k ∧ Turned (fun j => j = b) w w' := by
  have H0 : Hid (CntIs w b (T.marks (k, (x : Int)) v 0 ps) k) := h
  have HR := Lib.hid hr
  have HG := Lib.hid (fun m h => marks_rng (x := (x : Int)) (v := v) hb m (by omega) h)
  clear h hr hb
  go_enter Tryz.func154, Tryz.ntmps154
  go_wp2
  go_loopw [10] (fun i wr => ∃ j : Nat, j ≤ m ∧ i = .int .i64 (j : Int) ∧ Hid (CntIs wr b (T.marks (k, (x : Int)) v j ps) k) ∧ Hid (Turned (fun k => k = b) w wr)) (fun i _ => m + 1 - natI i)
  case atStart => exact ⟨0, by omega, rfl, H0.out, Turned.refl _ _⟩
  case round =>
    obtain ⟨j, hj, rfl, HB, HT⟩ := hrel
    by_cases hlt : j < m
    · have l1 : (j : Int) < (m : Int) := by omega
      have l2 : (x : Int) + (j : Int) < 2147483648 := by omega
      obtain ⟨D, n, hn, hown, hD⟩ := HB.out
      have HD := Lib.hid hD
      have HK := Lib.hid (key_i (x := (x : Int) + (j : Int)) ⟨by omega, by omega⟩)
      have HGet := Lib.hid (fun q => (T.marks_ris HR.out (k, (x : Int)) v j).get_put (k, (x : Int) + (j : Int)) v q)
      have HGood := Lib.hid (fun w' n' D' h1 h2 => cnt_tight (w := w') (b := b) (n := n') (D := D') (k := k) (T.marks_ris HR.out (k, (x : Int)) v (j + 1)) (HG.out (j + 1) (by omega)) h1 h2)
      clear hD
      by_cases hv0 : v = 0
      · subst hv0
        go_wp2_with (at_delete; refine wpList_delete_own _ rfl _ _ 83 3 rfl 23 cntLaw Tryz.underlying83 _ b n D rfl hown _ _ rfl HK.out ?_; intro w1 hown1 hturn1)
        exact ⟨⟨j + 1, by omega, by go_num, HGood.out _ _ _ hown1 (HD.out.del HGet.out), HT.out.trans (turned_map hturn1) (fun x h => .inl h)⟩, by simp [natI]; omega⟩
      · have hv1 : (v == 0) = false := by simpa using hv0
        go_wp2_with (at_mapUpdate; refine wpList_mapUpdate_in _ rfl _ _ _ 83 rfl 3 23 cntLaw Tryz.underlying83 _ b n D rfl hown (by unfold maxLen; omega) _ _ _ rfl rfl HK.out _ [] (cR_mk hv) ?_; intro w1 hown1 hturn1)
        exact ⟨⟨j + 1, by omega, by go_num, HGood.out _ _ _ hown1 (HD.out.put hown.isMap hv0 HGet.out), HT.out.trans (turned_map hturn1) (fun x h => .inl h)⟩, by simp [natI]; omega⟩
    · obtain rfl : j = m := by omega
      go_wp2
      go_end0
      exact ⟨⟨_, rfl⟩, HB.out, HT.out⟩
end Go.Proofs.YtiohlmccnllklaaGreatDoor
namespace Go.Proofs.YtiohlmccnllklaaGreatDoor
open Go.RowKit
set_option maxHeartbeats 4000000
set_option maxRecDepth 100000
set_option linter.unusedVariables false
set_option linter.unusedSimpArgs false

/-- What a region that asks a place knows. -/
structure AskS (B : Nat) (p : T.Pl) (P M D : Nat) (C : Nat → Nat) (fr se : Int) (ps : List T.Pr) (FM FD : Nat → Prop) (W : World) : Prop where
  c0 : W.cell? ⟨B, 0, none⟩ = some (.int .i64 p.1)
  c1 : W.cell? ⟨B, 1, none⟩ = some (.int .i64 p.2)
  pl : PlIs W P M D C fr se ps FM FD
theorem AskS.stb (B : Nat) (p : T.Pl) (P M D : Nat) (C : Nat → Nat) (fr se : Int) (ps : List T.Pr) (FM FD : Nat → Prop) : Free.Stb (AskS B p P M D C fr se ps FM FD) := fun W W' h hb => ⟨cell_below h.c0 hb, cell_below h.c1 hb, h.pl.below hb⟩
theorem ofV_few {P M D : Nat} {C : Nat → Nat} {k : Nat} (hk : T.fewK k = true) : ofV P M D C k = .iface 187 (.slice (some ⟨P, 2 + 8 * k, none⟩) (mst k) 8) := by
  unfold T.fewK at hk; simp only [decide_eq_true_eq] at hk
  unfold ofV T.cntK
  rw [if_neg (by omega), if_neg (by omega), if_neg (by simp only [decide_eq_true_eq]; omega)]
theorem ofV_mem {P M D : Nat} {C : Nat → Nat} {k : Nat} (hk : k = 10) : ofV P M D C k = .iface 189 (.agg #[.pointer (some ⟨M, 0, none⟩)]) := by subst hk; rfl
theorem ofV_dsk {P M D : Nat} {C : Nat → Nat} {k : Nat} (hk : k = 12) : ofV P M D C k = .iface 189 (.agg #[.pointer (some ⟨D, 0, none⟩)]) := by subst hk; rfl
theorem ofV_cnt {P M D : Nat} {C : Nat → Nat} {k : Nat} (hk : T.cntK k = true) : ofV P M D C k = .iface 83 (.map (some (C k))) := by
  have h := hk
  unfold T.cntK at h; simp only [decide_eq_true_eq] at h
  unfold ofV
  rw [if_neg (by omega), if_neg (by omega), if_pos hk]
theorem cls_few {k : Nat} (hk : T.fewK k = true) : 1 ≤ k ∧ k ≤ 17 := by unfold T.fewK at hk; simp only [decide_eq_true_eq] at hk; omega
theorem cls_mem {k : Nat} (hk : k = 10) : 1 ≤ k ∧ k ≤ 17 := by omega
theorem cls_dsk {k : Nat} (hk : k = 12) : 1 ≤ k ∧ k ≤ 17 := by omega
theorem cls_cnt {k : Nat} (hk : T.cntK k = true) : 1 ≤ k ∧ k ≤ 17 := by unfold T.cntK at hk; simp only [decide_eq_true_eq] at hk; omega
theorem cls {k : Nat} (h1 : 1 ≤ k) (h2 : k ≤ 17) : T.fewK k = true ∨ k = 10 ∨ k = 12 ∨ T.cntK k = true := by
  unfold T.fewK T.cntK; simp only [decide_eq_true_eq]; omega
theorem most_few {k : Nat} (hk : T.fewK k = true) (fr se : Int) : T.most fr se (k : Int) = (mst k : Int) ∧ mst k ≤ 8 := by
  unfold T.fewK at hk; simp only [decide_eq_true_eq] at hk
  rcases (show k = 1 ∨ k = 2 ∨ k = 3 ∨ k = 4 ∨ k = 5 ∨ k = 6 ∨ k = 7 ∨ k = 8 ∨ k = 9 ∨ k = 11 ∨ k = 17 by omega) with rfl | rfl | rfl | rfl | rfl | rfl | rfl | rfl | rfl | rfl | rfl <;> exact ⟨by simp [T.most, mst], by simp [mst]⟩
theorem most_cnt {k : Nat} (hk : T.cntK k = true) (fr se : Int) : T.most fr se (k : Int) = 2147483648 := by
  unfold T.cntK at hk; simp only [decide_eq_true_eq] at hk
  unfold T.most
  rw [if_neg (by omega), if_neg (by omega), if_neg (by omega), if_neg (by omega), if_neg (by omega), if_pos (by omega)]
theorem most_mem (fr se : Int) : T.most fr se 10 = 64 * fr := by simp [T.most]
theorem most_dsk (fr se : Int) : T.most fr se 12 = 64 * se := by simp [T.most]
theorem most_out {k : Int} (h : k < 1 ∨ 17 < k) (fr se : Int) : T.most fr se k = 0 := by unfold T.most; rw [if_pos h]
section
variable {w : World} {P M D : Nat} {C : Nat → Nat} {fr se : Int} {ps : List T.Pr} {FM FD : Nat → Prop}
theorem PlIs.few (h : PlIs w P M D C fr se ps FM FD) {k x : Nat} (hk : T.fewK k = true) (hx : x < 8) : w.cell? ⟨P, 2 + 8 * k + x, none⟩ = some (.int .u32 (T.get ps ((k : Int), (x : Int)))) := by
  have := cls_few hk
  rw [h.blk.cell, show 2 + 8 * k + x = 2 + (8 * k + x) by omega, plCells_sm _ _ _ _ (by omega), T.sm_at hk hx]

theorem has_few (h : PlIs w P M D C fr se ps FM FD) (k : Nat) (hk : T.fewK k = true) (n : Int) :
    Calls Tryz.prog 49 #[.pointer (some ⟨P, 0, none⟩), .agg #[.int .i64 (k : Int), .int .i64 n]] w fun e w' => e = .returned (.bool (T.may fr se ((k : Int), n))) ∧ Below w.heap.size w w' := by
  have hb := bel1 w (.cells #[.int .i64 (k : Int), .int .i64 n] 42)
  have hS : AskS w.heap.size ((k : Int), n) P M D C fr se ps FM FD (w.alloc (.cells #[.int .i64 (k : Int), .int .i64 n] 42)).drew := ⟨(blk_new w _ _).cell 0, (blk_new w _ _).cell 1, h.below hb.drew⟩
  obtain ⟨h1, h2⟩ := cls_few hk
  have HO := Lib.hid (fun W (hW : AskS w.heap.size ((k : Int), n) P M D C fr se ps FM FD W) => of_any (ofis hW.pl.blk) k h1 h2)
  have hk0 : (0 : Int) < (k : Int) := by omega
  have hk1 : (k : Int) < 18 := by omega
  rw [ofV_few hk] at HO
  have HK := Lib.hid hk
  clear hk
  have HBd := Lib.hid h.bd
  have HS := Lib.hid hS
  have HB := Lib.hid hb
  clear hS h hb
  go_enter Tryz.func49, Tryz.ntmps49
  go_wp2
  refine Free.any _ (AskS.stb w.heap.size ((k : Int), n) P M D C fr se ps FM FD) HS.out (fun st => ?_)
  refine Free.tk 0 (some 5) ?_
  refine Free.tk 1 (some 6) ?_ (hy := by intro W hW; obtain ⟨c0, c1, _⟩ := hW; go_simp; try with_reducible rfl)
  refine Free.tk 2 (some 7) (v := .bool true) ?_ (hy := by intro W hW; go_simp; try omega)
  refine Free.tk 3 (some 8) ?_
  refine Free.tk 4 (some 9) ?_
  refine Free.tk 5 (some 10) ?_ (hy := by intro W hW; obtain ⟨c0, c1, _⟩ := hW; go_simp; try with_reducible rfl)
  refine Free.tk 6 (some 11) (v := .bool true) ?_ (hy := by intro W hW; go_simp; try omega)
  refine Free.tk 7 (some 12) ?_
  refine Free.tk 8 (some 13) ?_
  refine Free.tk 9 (some 14) ?_
  refine Free.tk 10 (some 15) ?_
  refine Free.tk 11 (some 16) ?_ (hy := by intro W hW; obtain ⟨c0, c1, _⟩ := hW; go_simp; try with_reducible rfl)
  refine Free.cl 12 (some 17) st HO.out ?_
  refine Free.tk 13 (some 18) ?_
  refine Free.tk 14 (some 19) ?_ (hy := by intro W hW; obtain ⟨c0, c1, _⟩ := hW; go_simp; try with_reducible rfl)
  refine Free.cl 15 (some 20) st (fun W hW => fhas_any _ _ _ _ W) ?_ (hy := by intro W; go_simp; rfl)
  refine Free.tk 16 (some 21) ?_
  refine Free.tk 17 (some 4) ?_
  refine Free.done (fun W hb hW => ?_)
  go_wp2
  go_ret
  refine ⟨congrArg (fun b => Ending.returned (Value.bool b)) (by unfold T.may; rw [(most_few HK.out fr se).1]), HB.out.drew.trans (hb.mono (by simp))⟩
theorem has_mem (h : PlIs w P M D C fr se ps FM FD) (k : Nat) (hk : k = 10) (n : Int) :
    Calls Tryz.prog 49 #[.pointer (some ⟨P, 0, none⟩), .agg #[.int .i64 (k : Int), .int .i64 n]] w fun e w' => e = .returned (.bool (T.may fr se ((k : Int), n))) ∧ Below w.heap.size w w' := by
  have hb := bel1 w (.cells #[.int .i64 (k : Int), .int .i64 n] 42)
  have hS : AskS w.heap.size ((k : Int), n) P M D C fr se ps FM FD (w.alloc (.cells #[.int .i64 (k : Int), .int .i64 n] 42)).drew := ⟨(blk_new w _ _).cell 0, (blk_new w _ _).cell 1, h.below hb.drew⟩
  obtain ⟨h1, h2⟩ := cls_mem hk
  have HO := Lib.hid (fun W (hW : AskS w.heap.size ((k : Int), n) P M D C fr se ps FM FD W) => of_any (ofis hW.pl.blk) k h1 h2)
  have hk0 : (0 : Int) < (k : Int) := by omega
  have hk1 : (k : Int) < 18 := by omega
  rw [ofV_mem hk] at HO
  have HK := Lib.hid hk
  clear hk
  have HBd := Lib.hid h.bd
  have HS := Lib.hid hS
  have HB := Lib.hid hb
  clear hS h hb
  go_enter Tryz.func49, Tryz.ntmps49
  go_wp2
  refine Free.any _ (AskS.stb w.heap.size ((k : Int), n) P M D C fr se ps FM FD) HS.out (fun st => ?_)
  refine Free.tk 0 (some 5) ?_
  refine Free.tk 1 (some 6) ?_ (hy := by intro W hW; obtain ⟨c0, c1, _⟩ := hW; go_simp; try with_reducible rfl)
  refine Free.tk 2 (some 7) (v := .bool true) ?_ (hy := by intro W hW; go_simp; try omega)
  refine Free.tk 3 (some 8) ?_
  refine Free.tk 4 (some 9) ?_
  refine Free.tk 5 (some 10) ?_ (hy := by intro W hW; obtain ⟨c0, c1, _⟩ := hW; go_simp; try with_reducible rfl)
  refine Free.tk 6 (some 11) (v := .bool true) ?_ (hy := by intro W hW; go_simp; try omega)
  refine Free.tk 7 (some 12) ?_
  refine Free.tk 8 (some 13) ?_
  refine Free.tk 9 (some 14) ?_
  refine Free.tk 10 (some 15) ?_
  refine Free.tk 11 (some 16) ?_ (hy := by intro W hW; obtain ⟨c0, c1, _⟩ := hW; go_simp; try with_reducible rfl)
  refine Free.cl 12 (some 17) st HO.out ?_
  refine Free.tk 13 (some 18) ?_
  refine Free.tk 14 (some 19) ?_ (hy := by intro W hW; obtain ⟨c0, c1, _⟩ := hW; go_simp; try with_reducible rfl)
  refine Free.cl 15 (some 20) st (fun W hW => shas_any hW.pl.mem n) ?_ (hy := by intro W; go_simp; rfl)
  refine Free.tk 16 (some 21) ?_
  refine Free.tk 17 (some 4) ?_
  refine Free.done (fun W hb hW => ?_)
  go_wp2
  go_ret
  refine ⟨congrArg (fun b => Ending.returned (Value.bool b)) (by obtain rfl := HK.out; unfold T.may; rw [show T.most fr se (((10 : Nat) : Int), n).1 = 64 * fr from most_mem fr se]; exact congrArg (fun b => decide (0 ≤ n) && b) (decide_eq_decide.2 (by have := HBd.out.f; simp only [Int.natCast_mul]; omega))), HB.out.drew.trans (hb.mono (by simp))⟩
theorem has_dsk (h : PlIs w P M D C fr se ps FM FD) (k : Nat) (hk : k = 12) (n : Int) :
    Calls Tryz.prog 49 #[.pointer (some ⟨P, 0, none⟩), .agg #[.int .i64 (k : Int), .int .i64 n]] w fun e w' => e = .returned (.bool (T.may fr se ((k : Int), n))) ∧ Below w.heap.size w w' := by
  have hb := bel1 w (.cells #[.int .i64 (k : Int), .int .i64 n] 42)
  have hS : AskS w.heap.size ((k : Int), n) P M D C fr se ps FM FD (w.alloc (.cells #[.int .i64 (k : Int), .int .i64 n] 42)).drew := ⟨(blk_new w _ _).cell 0, (blk_new w _ _).cell 1, h.below hb.drew⟩
  obtain ⟨h1, h2⟩ := cls_dsk hk
  have HO := Lib.hid (fun W (hW : AskS w.heap.size ((k : Int), n) P M D C fr se ps FM FD W) => of_any (ofis hW.pl.blk) k h1 h2)
  have hk0 : (0 : Int) < (k : Int) := by omega
  have hk1 : (k : Int) < 18 := by omega
  rw [ofV_dsk hk] at HO
  have HK := Lib.hid hk
  clear hk
  have HBd := Lib.hid h.bd
  have HS := Lib.hid hS
  have HB := Lib.hid hb
  clear hS h hb
  go_enter Tryz.func49, Tryz.ntmps49
  go_wp2
  refine Free.any _ (AskS.stb w.heap.size ((k : Int), n) P M D C fr se ps FM FD) HS.out (fun st => ?_)
  refine Free.tk 0 (some 5) ?_
  refine Free.tk 1 (some 6) ?_ (hy := by intro W hW; obtain ⟨c0, c1, _⟩ := hW; go_simp; try with_reducible rfl)
  refine Free.tk 2 (some 7) (v := .bool true) ?_ (hy := by intro W hW; go_simp; try omega)
  refine Free.tk 3 (some 8) ?_
  refine Free.tk 4 (some 9) ?_
  refine Free.tk 5 (some 10) ?_ (hy := by intro W hW; obtain ⟨c0, c1, _⟩ := hW; go_simp; try with_reducible rfl)
  refine Free.tk 6 (some 11) (v := .bool true) ?_ (hy := by intro W hW; go_simp; try omega)
  refine Free.tk 7 (some 12) ?_
  refine Free.tk 8 (some 13) ?_
  refine Free.tk 9 (some 14) ?_
  refine Free.tk 10 (some 15) ?_
  refine Free.tk 11 (some 16) ?_ (hy := by intro W hW; obtain ⟨c0, c1, _⟩ := hW; go_simp; try with_reducible rfl)
  refine Free.cl 12 (some 17) st HO.out ?_
  refine Free.tk 13 (some 18) ?_
  refine Free.tk 14 (some 19) ?_ (hy := by intro W hW; obtain ⟨c0, c1, _⟩ := hW; go_simp; try with_reducible rfl)
  refine Free.cl 15 (some 20) st (fun W hW => shas_any hW.pl.disk n) ?_ (hy := by intro W; go_simp; rfl)
  refine Free.tk 16 (some 21) ?_
  refine Free.tk 17 (some 4) ?_
  refine Free.done (fun W hb hW => ?_)
  go_wp2
  go_ret
  refine ⟨congrArg (fun b => Ending.returned (Value.bool b)) (by obtain rfl := HK.out; unfold T.may; rw [show T.most fr se (((12 : Nat) : Int), n).1 = 64 * se from most_dsk fr se]; exact congrArg (fun b => decide (0 ≤ n) && b) (decide_eq_decide.2 (by have := HBd.out.s; simp only [Int.natCast_mul]; omega))), HB.out.drew.trans (hb.mono (by simp))⟩
theorem has_cnt (h : PlIs w P M D C fr se ps FM FD) (k : Nat) (hk : T.cntK k = true) (n : Int) :
    Calls Tryz.prog 49 #[.pointer (some ⟨P, 0, none⟩), .agg #[.int .i64 (k : Int), .int .i64 n]] w fun e w' => e = .returned (.bool (T.may fr se ((k : Int), n))) ∧ Below w.heap.size w w' := by
  have hb := bel1 w (.cells #[.int .i64 (k : Int), .int .i64 n] 42)
  have hS : AskS w.heap.size ((k : Int), n) P M D C fr se ps FM FD (w.alloc (.cells #[.int .i64 (k : Int), .int .i64 n] 42)).drew := ⟨(blk_new w _ _).cell 0, (blk_new w _ _).cell 1, h.below hb.drew⟩
  obtain ⟨h1, h2⟩ := cls_cnt hk
  have HO := Lib.hid (fun W (hW : AskS w.heap.size ((k : Int), n) P M D C fr se ps FM FD W) => of_any (ofis hW.pl.blk) k h1 h2)
  have hk0 : (0 : Int) < (k : Int) := by omega
  have hk1 : (k : Int) < 18 := by omega
  rw [ofV_cnt hk] at HO
  have HK := Lib.hid hk
  clear hk
  have HBd := Lib.hid h.bd
  have HS := Lib.hid hS
  have HB := Lib.hid hb
  clear hS h hb
  go_enter Tryz.func49, Tryz.ntmps49
  go_wp2
  refine Free.any _ (AskS.stb w.heap.size ((k : Int), n) P M D C fr se ps FM FD) HS.out (fun st => ?_)
  refine Free.tk 0 (some 5) ?_
  refine Free.tk 1 (some 6) ?_ (hy := by intro W hW; obtain ⟨c0, c1, _⟩ := hW; go_simp; try with_reducible rfl)
  refine Free.tk 2 (some 7) (v := .bool true) ?_ (hy := by intro W hW; go_simp; try omega)
  refine Free.tk 3 (some 8) ?_
  refine Free.tk 4 (some 9) ?_
  refine Free.tk 5 (some 10) ?_ (hy := by intro W hW; obtain ⟨c0, c1, _⟩ := hW; go_simp; try with_reducible rfl)
  refine Free.tk 6 (some 11) (v := .bool true) ?_ (hy := by intro W hW; go_simp; try omega)
  refine Free.tk 7 (some 12) ?_
  refine Free.tk 8 (some 13) ?_
  refine Free.tk 9 (some 14) ?_
  refine Free.tk 10 (some 15) ?_
  refine Free.tk 11 (some 16) ?_ (hy := by intro W hW; obtain ⟨c0, c1, _⟩ := hW; go_simp; try with_reducible rfl)
  refine Free.cl 12 (some 17) st HO.out ?_
  refine Free.tk 13 (some 18) ?_
  refine Free.tk 14 (some 19) ?_ (hy := by intro W hW; obtain ⟨c0, c1, _⟩ := hW; go_simp; try with_reducible rfl)
  refine Free.cl 15 (some 20) st (fun W hW => chas_any _ n W) ?_ (hy := by intro W; go_simp; rfl)
  refine Free.tk 16 (some 21) ?_
  refine Free.tk 17 (some 4) ?_
  refine Free.done (fun W hb hW => ?_)
  go_wp2
  go_ret
  refine ⟨congrArg (fun b => Ending.returned (Value.bool b)) (by unfold T.may; rw [most_cnt HK.out fr se]), HB.out.drew.trans (hb.mono (by simp))⟩
/-- .. of no kind. -/
theorem has_out (k n : Int) (hk : k < 1 ∨ 17 < k) (w : World) : Calls Tryz.prog 49 #[.pointer (some ⟨P, 0, none⟩), .agg #[.int .i64 k, .int .i64 n]] w fun e w' => e = .returned (.bool (T.may fr se (k, n))) ∧ Below w.heap.size w w' := by
  have hb := bel1 w (.cells #[.int .i64 k, .int .i64 n] 42)
  have c0 : (w.alloc (.cells #[.int .i64 k, .int .i64 n] 42)).cell? ⟨w.heap.size, 0, none⟩ = some (.int .i64 k) := (blk_new w _ _).cell 0
  have hM : T.may fr se (k, n) = false := by
    unfold T.may; rw [most_out hk]
    by_cases h : 0 ≤ n
    · simp [h]
    · simp [h]
  have HM := Lib.hid hM
  clear hM
  rw [HM.out]
  have HB := Lib.hid hb
  have hs : (w.alloc (.cells #[.int .i64 k, .int .i64 n] 42)).heap.size = w.heap.size + 1 := by simp
  go_enter Tryz.func49, Tryz.ntmps49
  go_wp2
  generalize w.alloc (.cells #[.int .i64 k, .int .i64 n] 42) = w1 at *
  rcases hk with h | h
  · have h0 : ¬ (0 < k) := by omega
    clear h
    go_quiet (fail)
    go_wp2
    go_ret
    exact ⟨rfl, HB.out.trans (below_drewN _ _ _)⟩
  · have h0 : 0 < k := by omega
    have h1 : ¬ (k < 18) := by omega
    clear h
    go_quiet (fail)
    go_wp2
    go_ret
    exact ⟨rfl, HB.out.trans (below_drewN _ _ _)⟩
theorem has_any (h : PlIs w P M D C fr se ps FM FD) (p : T.Pl) : Calls Tryz.prog 49 #[.pointer (some ⟨P, 0, none⟩), .agg (pla p)] w fun e w' => e = .returned (.bool (T.may fr se p)) ∧ Below w.heap.size w w' := by
  obtain ⟨k, n⟩ := p
  by_cases hk : k < 1 ∨ 17 < k
  · exact has_out k n hk w
  · obtain ⟨k, rfl⟩ := Int.eq_ofNat_of_zero_le (show 0 ≤ k by omega)
    rcases cls (k := k) (by omega) (by omega) with hc | hc | hc | hc
    · exact has_few h k hc n
    · exact has_mem h k hc n
    · exact has_dsk h k hc n
    · exact has_cnt h k hc n

theorem get_few (h : PlIs w P M D C fr se ps FM FD) (k : Nat) (hk : T.fewK k = true) (x : Nat) (hx : x < mst k) :
    Calls Tryz.prog 74 #[.pointer (some ⟨P, 0, none⟩), .agg #[.int .i64 (k : Int), .int .i64 (x : Int)]] w fun e w' => e = .returned (.int .u32 (T.get ps ((k : Int), (x : Int)))) ∧ Below w.heap.size w w' := by
  have hb := bel1 w (.cells #[.int .i64 (k : Int), .int .i64 (x : Int)] 42)
  have hS : AskS w.heap.size ((k : Int), (x : Int)) P M D C fr se ps FM FD (w.alloc (.cells #[.int .i64 (k : Int), .int .i64 (x : Int)] 42)).drew := ⟨(blk_new w _ _).cell 0, (blk_new w _ _).cell 1, h.below hb.drew⟩
  obtain ⟨h1, h2⟩ := cls_few hk
  have HO := Lib.hid (fun W (hW : AskS w.heap.size ((k : Int), (x : Int)) P M D C fr se ps FM FD W) => of_any (ofis hW.pl.blk) k h1 h2)
  have hm8 := (most_few hk fr se).2
  rw [ofV_few hk] at HO
  have HK := Lib.hid hk
  clear hk
  have HS := Lib.hid hS
  have HB := Lib.hid hb
  clear hS h hb
  go_enter Tryz.func74, Tryz.ntmps74
  go_wp2
  refine Free.any _ (AskS.stb w.heap.size ((k : Int), (x : Int)) P M D C fr se ps FM FD) HS.out (fun st => ?_)
  refine Free.tk 0 (some 5) ?_
  refine Free.tk 1 (some 6) ?_
  refine Free.tk 2 (some 7) ?_ (hy := by intro W hW; obtain ⟨c0, c1, _⟩ := hW; go_simp; try with_reducible rfl)
  refine Free.cl 3 (some 8) st HO.out ?_
  refine Free.tk 4 (some 9) ?_
  refine Free.tk 5 (some 10) ?_ (hy := by intro W hW; obtain ⟨c0, c1, _⟩ := hW; go_simp; try with_reducible rfl)
  refine Free.cl 6 (some 11) st (fun W hW => fget_any P (2 + 8 * k) (mst k) 8 x hx _ W (hW.pl.few HK.out (by omega))) ?_ (hy := by intro W; go_simp; rfl)
  refine Free.tk 7 (some 4) ?_
  refine Free.done (fun W hb hW => ?_)
  go_wp2
  go_ret
  refine ⟨congrArg (fun b => Ending.returned (Value.int .u32 b)) (rfl), HB.out.drew.trans (hb.mono (by simp))⟩
theorem get_mem (h : PlIs w P M D C fr se ps FM FD) (k : Nat) (hk : k = 10) (x : Nat) (hx : x < 64 * fr.toNat) :
    Calls Tryz.prog 74 #[.pointer (some ⟨P, 0, none⟩), .agg #[.int .i64 (k : Int), .int .i64 (x : Int)]] w fun e w' => e = .returned (.int .u32 (T.get ps ((k : Int), (x : Int)))) ∧ Below w.heap.size w w' := by
  have hb := bel1 w (.cells #[.int .i64 (k : Int), .int .i64 (x : Int)] 42)
  have hS : AskS w.heap.size ((k : Int), (x : Int)) P M D C fr se ps FM FD (w.alloc (.cells #[.int .i64 (k : Int), .int .i64 (x : Int)] 42)).drew := ⟨(blk_new w _ _).cell 0, (blk_new w _ _).cell 1, h.below hb.drew⟩
  obtain ⟨h1, h2⟩ := cls_mem hk
  have HO := Lib.hid (fun W (hW : AskS w.heap.size ((k : Int), (x : Int)) P M D C fr se ps FM FD W) => of_any (ofis hW.pl.blk) k h1 h2)
  skip
  rw [ofV_mem hk] at HO
  have HK := Lib.hid hk
  clear hk
  have HS := Lib.hid hS
  have HB := Lib.hid hb
  clear hS h hb
  go_enter Tryz.func74, Tryz.ntmps74
  go_wp2
  refine Free.any _ (AskS.stb w.heap.size ((k : Int), (x : Int)) P M D C fr se ps FM FD) HS.out (fun st => ?_)
  refine Free.tk 0 (some 5) ?_
  refine Free.tk 1 (some 6) ?_
  refine Free.tk 2 (some 7) ?_ (hy := by intro W hW; obtain ⟨c0, c1, _⟩ := hW; go_simp; try with_reducible rfl)
  refine Free.cl 3 (some 8) st HO.out ?_
  refine Free.tk 4 (some 9) ?_
  refine Free.tk 5 (some 10) ?_ (hy := by intro W hW; obtain ⟨c0, c1, _⟩ := hW; go_simp; try with_reducible rfl)
  refine Free.cl 6 (some 11) st (fun W hW => sget_any hW.pl.mem (x := (x : Int)) (by omega) (by omega)) ?_ (hy := by intro W; go_simp; rfl)
  refine Free.tk 7 (some 4) ?_
  refine Free.done (fun W hb hW => ?_)
  go_wp2
  go_ret
  refine ⟨congrArg (fun b => Ending.returned (Value.int .u32 b)) (by obtain rfl := HK.out; rw [T.row_at hx]; rfl), HB.out.drew.trans (hb.mono (by simp))⟩
theorem get_dsk (h : PlIs w P M D C fr se ps FM FD) (k : Nat) (hk : k = 12) (x : Nat) (hx : x < 64 * se.toNat) :
    Calls Tryz.prog 74 #[.pointer (some ⟨P, 0, none⟩), .agg #[.int .i64 (k : Int), .int .i64 (x : Int)]] w fun e w' => e = .returned (.int .u32 (T.get ps ((k : Int), (x : Int)))) ∧ Below w.heap.size w w' := by
  have hb := bel1 w (.cells #[.int .i64 (k : Int), .int .i64 (x : Int)] 42)
  have hS : AskS w.heap.size ((k : Int), (x : Int)) P M D C fr se ps FM FD (w.alloc (.cells #[.int .i64 (k : Int), .int .i64 (x : Int)] 42)).drew := ⟨(blk_new w _ _).cell 0, (blk_new w _ _).cell 1, h.below hb.drew⟩
  obtain ⟨h1, h2⟩ := cls_dsk hk
  have HO := Lib.hid (fun W (hW : AskS w.heap.size ((k : Int), (x : Int)) P M D C fr se ps FM FD W) => of_any (ofis hW.pl.blk) k h1 h2)
  skip
  rw [ofV_dsk hk] at HO
  have HK := Lib.hid hk
  clear hk
  have HS := Lib.hid hS
  have HB := Lib.hid hb
  clear hS h hb
  go_enter Tryz.func74, Tryz.ntmps74
  go_wp2
  refine Free.any _ (AskS.stb w.heap.size ((k : Int), (x : Int)) P M D C fr se ps FM FD) HS.out (fun st => ?_)
  refine Free.tk 0 (some 5) ?_
  refine Free.tk 1 (some 6) ?_
  refine Free.tk 2 (some 7) ?_ (hy := by intro W hW; obtain ⟨c0, c1, _⟩ := hW; go_simp; try with_reducible rfl)
  refine Free.cl 3 (some 8) st HO.out ?_
  refine Free.tk 4 (some 9) ?_
  refine Free.tk 5 (some 10) ?_ (hy := by intro W hW; obtain ⟨c0, c1, _⟩ := hW; go_simp; try with_reducible rfl)
  refine Free.cl 6 (some 11) st (fun W hW => sget_any hW.pl.disk (x := (x : Int)) (by omega) (by omega)) ?_ (hy := by intro W; go_simp; rfl)
  refine Free.tk 7 (some 4) ?_
  refine Free.done (fun W hb hW => ?_)
  go_wp2
  go_ret
  refine ⟨congrArg (fun b => Ending.returned (Value.int .u32 b)) (by obtain rfl := HK.out; rw [T.row_at hx]; rfl), HB.out.drew.trans (hb.mono (by simp))⟩
theorem get_cnt (h : PlIs w P M D C fr se ps FM FD) (k : Nat) (hk : T.cntK k = true) (x : Nat) (hx : x < 2147483648) :
    Calls Tryz.prog 74 #[.pointer (some ⟨P, 0, none⟩), .agg #[.int .i64 (k : Int), .int .i64 (x : Int)]] w fun e w' => e = .returned (.int .u32 (T.get ps ((k : Int), (x : Int)))) ∧ Below w.heap.size w w' := by
  have hb := bel1 w (.cells #[.int .i64 (k : Int), .int .i64 (x : Int)] 42)
  have hS : AskS w.heap.size ((k : Int), (x : Int)) P M D C fr se ps FM FD (w.alloc (.cells #[.int .i64 (k : Int), .int .i64 (x : Int)] 42)).drew := ⟨(blk_new w _ _).cell 0, (blk_new w _ _).cell 1, h.below hb.drew⟩
  obtain ⟨h1, h2⟩ := cls_cnt hk
  have HO := Lib.hid (fun W (hW : AskS w.heap.size ((k : Int), (x : Int)) P M D C fr se ps FM FD W) => of_any (ofis hW.pl.blk) k h1 h2)
  skip
  rw [ofV_cnt hk] at HO
  have HK := Lib.hid hk
  clear hk
  have HS := Lib.hid hS
  have HB := Lib.hid hb
  clear hS h hb
  go_enter Tryz.func74, Tryz.ntmps74
  go_wp2
  refine Free.any _ (AskS.stb w.heap.size ((k : Int), (x : Int)) P M D C fr se ps FM FD) HS.out (fun st => ?_)
  refine Free.tk 0 (some 5) ?_
  refine Free.tk 1 (some 6) ?_
  refine Free.tk 2 (some 7) ?_ (hy := by intro W hW; obtain ⟨c0, c1, _⟩ := hW; go_simp; try with_reducible rfl)
  refine Free.cl 3 (some 8) st HO.out ?_
  refine Free.tk 4 (some 9) ?_
  refine Free.tk 5 (some 10) ?_ (hy := by intro W hW; obtain ⟨c0, c1, _⟩ := hW; go_simp; try with_reducible rfl)
  refine Free.cl 6 (some 11) st (fun W hW => cget_any (x := (x : Int)) (hW.pl.cnt k HK.out) hW.pl.small ⟨by omega, by omega⟩) ?_ (hy := by intro W; go_simp; rfl)
  refine Free.tk 7 (some 4) ?_
  refine Free.done (fun W hb hW => ?_)
  go_wp2
  go_ret
  refine ⟨congrArg (fun b => Ending.returned (Value.int .u32 b)) (rfl), HB.out.drew.trans (hb.mono (by simp))⟩
theorem get_any (h : PlIs w P M D C fr se ps FM FD) (p : T.Pl) (hp : T.may fr se p = true) : Calls Tryz.prog 74 #[.pointer (some ⟨P, 0, none⟩), .agg (pla p)] w fun e w' => e = .returned (.int .u32 (T.get ps p)) ∧ Below w.heap.size w w' := by
  obtain ⟨k, n⟩ := p
  obtain ⟨h0, h1⟩ := T.may_iff.1 hp
  simp only at h0 h1
  have hk : ¬ (k < 1 ∨ 17 < k) := fun e => by rw [most_out e] at h1; omega
  obtain ⟨k, rfl⟩ := Int.eq_ofNat_of_zero_le (show 0 ≤ k by omega)
  obtain ⟨x, rfl⟩ := Int.eq_ofNat_of_zero_le h0
  rcases cls (k := k) (by omega) (by omega) with hc | hc | hc | hc
  · exact get_few h k hc x (by rw [(most_few hc fr se).1] at h1; omega)
  · exact get_mem h k hc x (by subst hc; have h1 : (x : Int) < T.most fr se 10 := h1; rw [most_mem] at h1; omega)
  · exact get_dsk h k hc x (by subst hc; have h1 : (x : Int) < T.most fr se 12 := h1; rw [most_dsk] at h1; omega)
  · exact get_cnt h k hc x (by rw [most_cnt hc] at h1; omega)
end
end Go.Proofs.YtiohlmccnllklaaGreatDoor

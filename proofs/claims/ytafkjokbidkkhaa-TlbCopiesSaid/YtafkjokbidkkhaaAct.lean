/-
  Layer 6: act of the statements: a call by both: walk.
-/
import Derived.Test.YtafkjokbidkkhaaFill
import Derived.Test.YtafkjokbidkkhaaRegion
import Derived.Test.YtafkjokbidkkhaaRef
namespace Go.Proofs.Ytafkjokbidkkhaa
open Go.RowKit
set_option maxHeartbeats 1000000
set_option linter.unusedVariables false

/-- What a call makes of the table. -/
def actT (t : Tl) (k p f : Int) (wr : Bool) : Tl := if k = 0 then t.fil p f wr else if k = 1 then t.drp p else T0
theorem ok_act {t : Tl} (h : Ok t) (k p f : Int) (wr : Bool) : Ok (actT t k p f wr) := by
  unfold actT; split
  · exact h.fil _ _ _
  · split
    · exact h.drp _
    · exact ok_T0
abbrev acL (z : Nat) (t : Tl) (k p f : Int) (wr th : Bool) : List Bx :=
  [(z + 1 + 1, rc T0, 30), (z + 1, #[.int .i64 k, .int .u32 p, .int .u32 f, .bool wr, .bool th], 40), (z, rc t, 30)]
theorem ac_start (w : World) (t : Tl) (k p f : Int) (wr th : Bool) : Bxs w (acL w.heap.size t k p f wr th) (((w.alloc (.cells (rc t) 30)).alloc (.cells #[.int .i64 k, .int .u32 p, .int .u32 f, .bool wr, .bool th] 40)).alloc (.cells (rc T0) 30)) := by
  have := (((Bxs.nil w).alloc (rc t) 30).alloc #[.int .i64 k, .int .u32 p, .int .u32 f, .bool wr, .bool th] 40).alloc (rc T0) 30
  simp only [World.size_alloc] at this
  exact this
/-- Blocks known whole. -/
def Bks (L : List Bx) (W : World) : Prop := ∀ q ∈ L, Blk W q.1 q.2.1 q.2.2
theorem Bks.after {L : List Bx} {W W' : World} (h : Bks L W) (hb : Below W.heap.size W W') : Bks L W' := fun q hq => (h q hq).below hb
theorem Bks.turned {L : List Bx} {W W' : World} (h : Bks L W) {F : Nat → Prop} (ht : Turned F W W') (hF : ∀ q ∈ L, ¬ F q.1) : Bks L W' := fun q hq => (h q hq).turned ht (hF q hq)
theorem Bks.get {L : List Bx} {W : World} (h : Bks L W) (b : Nat) {cs : Array Value} {ty : TypeId} (hm : (b, cs, ty) ∈ L) : Blk W b cs ty := h _ hm
/-- What stands while act goes on: its boxes, the TLB. -/
structure Ac (w : World) (S : Nat) (t0 : Tl) (k p f : Int) (wr th : Bool) (t : Tl) (W : World) : Prop where
  bx : Bks (acL w.heap.size t0 k p f wr th) W
  at_ : At W S t
  tn : Turned (fun j => j = S) w W
section
variable {w W W' : World} {S : Nat} {t0 t t' : Tl} {k p f : Int} {wr th : Bool}
theorem Ac.start (h : At w S t) (k p f : Int) (wr th : Bool) : Ac w S t k p f wr th t (((w.alloc (.cells (rc t) 30)).alloc (.cells #[.int .i64 k, .int .u32 p, .int .u32 f, .bool wr, .bool th] 40)).alloc (.cells (rc T0) 30)) :=
  ⟨(ac_start w t k p f wr th).at_, ((h.alloc _).alloc _).alloc _, (((Turned.refl _ w).alloc _).alloc _).alloc _⟩
theorem Ac.after (h : Ac w S t0 k p f wr th t W) (hb : Below W.heap.size W W') : Ac w S t0 k p f wr th t W' :=
  ⟨h.bx.after hb, Blk.below h.at_ hb, h.tn.trans (Turned.of_below hb (fun j => j = S)) (fun x hx => .inl hx)⟩
theorem Ac.turned (h : Ac w S t0 k p f wr th t W) (hS : S < w.heap.size) (ha : At W' S t') (ht : Turned (fun j => j = S) W W') : Ac w S t0 k p f wr th t' W' :=
  ⟨h.bx.turned ht (fun q hq e => by
    simp only [List.mem_cons, List.not_mem_nil, or_false] at hq
    rcases hq with rfl | rfl | rfl <;> simp only at e <;> omega), ha, h.tn.trans ht (fun x hx => .inl hx)⟩
theorem Ac.drew (h : Ac w S t0 k p f wr th t W) : Ac w S t0 k p f wr th t W.drew := h.after (Below.refl _ _).drew
theorem Ac.r (h : Ac w S t0 k p f wr th t W) : Rf W w.heap.size t0 := h.bx.get w.heap.size (by simp)
theorem Ac.o (h : Ac w S t0 k p f wr th t W) : Rf W (w.heap.size + 1 + 1) T0 := h.bx.get (w.heap.size + 1 + 1) (by simp)
theorem Ac.a (h : Ac w S t0 k p f wr th t W) : W.cell? ⟨w.heap.size + 1, 0, none⟩ = some (.int .i64 k) ∧ W.cell? ⟨w.heap.size + 1, 1, none⟩ = some (.int .u32 p) ∧ W.cell? ⟨w.heap.size + 1, 2, none⟩ = some (.int .u32 f) ∧ W.cell? ⟨w.heap.size + 1, 3, none⟩ = some (.bool wr) ∧ W.cell? ⟨w.heap.size + 1, 4, none⟩ = some (.bool th) := by
  have k1 := h.bx.get (w.heap.size + 1) (cs := #[.int .i64 k, .int .u32 p, .int .u32 f, .bool wr, .bool th]) (ty := 40) (by simp)
  exact ⟨k1.cell 0, k1.cell 1, k1.cell 2, k1.cell 3, k1.cell 4⟩
end
set_option maxRecDepth 100000 in
theorem act_fill {w : World} {S : Nat} {t : Tl} (h : At w S t) (hok : Ok t) (p f : Int) (wr th : Bool) : Calls Try.prog 13 #[.pointer (some ⟨S, 0, none⟩), .agg (rc t), .agg #[.int .i64 0, .int .u32 p, .int .u32 f, .bool wr, .bool th]] w fun e w' =>
    e = .returned (.tuple #[.agg (rc (t.fil p f wr)), .bool true]) ∧ At w' S (t.fil p f wr) ∧ Turned (fun j => j = S) w w' := by
  have hlt := h.lt
  have H0 := Lib.hid (Ac.start h 0 p f wr th)
  obtain ⟨a0, a1, a2, a3, a4⟩ := H0.out.a
  go_enter Try.func13, Try.ntmps13
  go_wp2_with ((with_reducible apply wp_load_R); (exact H0.out.r); (rfl))
  refine (RFill_any t hok p f wr _).mono ?_
  rintro e w1 ⟨rfl, hb⟩
  have hz1 : w.heap.size ≤ w1.heap.size := by have := hb.size; simp at this; omega
  have H2 := Lib.hid ((H0.out.after hb).after ((Below.refl _ _).alloc (Nat.le_refl _) (.cells (rc (t.fil p f wr)) 30)))
  have R2 := Lib.hid (show Rf (w1.alloc (.cells (rc (t.fil p f wr)) 30)) w1.heap.size (t.fil p f wr) from blk_new _ _ _)
  clear hb H0 a0 a1 a2 a3 a4
  obtain ⟨a0, a1, a2, a3, a4⟩ := H2.out.a
  go_wp2_with ((with_reducible apply wp_store_Rn (t.fil p f wr)); (rfl); (rfl); (rfl))
  refine (Fill_any H2.out.at_ hok th p f wr).mono ?_
  rintro e w3 ⟨rfl, ha, ht⟩
  have H3 := Lib.hid (H2.out.turned hlt ha ht)
  have R3 := Lib.hid (show Rf w3 w1.heap.size (t.fil p f wr) from R2.out.turned ht (by omega))
  clear ha ht a0 a1 a2 a3 a4 H2 R2
  go_wp2_with (first | ((with_reducible apply wp_load_R); (exact R3.out); (rfl)) | ((with_reducible apply wp_store_R _); (exact H3.out.o); (rfl); (rfl)))
  refine bodyPost_ret (res_R_tmp (fn := Try.f13) rfl _ (H3.out.o.set _) rfl) rfl ⟨rfl, H3.out.at_.setOther (by omega) _, H3.out.tn.trans (turned_setRow _ _ _) (fun x hx => .inr (by omega))⟩
set_option maxRecDepth 100000 in
theorem act_flush {w : World} {S : Nat} {t : Tl} (h : At w S t) (k p f : Int) (h0 : k ≠ 0) (h1 : k ≠ 1) (wr th : Bool) : Calls Try.prog 13 #[.pointer (some ⟨S, 0, none⟩), .agg (rc t), .agg #[.int .i64 k, .int .u32 p, .int .u32 f, .bool wr, .bool th]] w fun e w' =>
    e = .returned (.tuple #[.agg (rc T0), .bool true]) ∧ At w' S T0 ∧ Turned (fun j => j = S) w w' := by
  have hlt := h.lt
  have H0 := Lib.hid (Ac.start h k p f wr th)
  obtain ⟨a0, a1, a2, a3, a4⟩ := H0.out.a
  clear h
  go_enter Try.func13, Try.ntmps13
  go_wp2_with fail
  refine (Flush_any H0.out.at_).mono ?_
  rintro e w3 ⟨rfl, ha, ht⟩
  have H3 := Lib.hid (H0.out.turned hlt ha ht)
  clear ha ht a0 a1 a2 a3 a4 H0
  go_wp2_with ((with_reducible apply wp_store_R T0); (exact H3.out.o); (rfl); (rfl))
  refine bodyPost_ret (res_R_tmp (fn := Try.f13) rfl _ (H3.out.o.set _) rfl) rfl ⟨rfl, H3.out.at_.setOther (by omega) _, H3.out.tn.trans (turned_setRow _ _ _) (fun x hx => .inr (by omega))⟩
set_option maxRecDepth 100000 in
theorem act_drop {w : World} {S : Nat} {t : Tl} (h : At w S t) (p f : Int) (wr th : Bool) : Calls Try.prog 13 #[.pointer (some ⟨S, 0, none⟩), .agg (rc t), .agg #[.int .i64 1, .int .u32 p, .int .u32 f, .bool wr, .bool th]] w fun e w' =>
    e = .returned (.tuple #[.agg (rc (t.drp p)), .bool true]) ∧ At w' S (t.drp p) ∧ Turned (fun j => j = S) w w' := by
  have hlt := h.lt
  have H0 := Lib.hid (Ac.start h 1 p f wr th)
  obtain ⟨a0, a1, a2, a3, a4⟩ := H0.out.a
  clear h
  go_enter Try.func13, Try.ntmps13
  go_wp2_with fail
  have hA := H0.out.drew
  have HQ := Lib.hid (t.rfI_ge p)
  clear H0 a0 a1 a2 a3 a4
  have hK0 : (fun W => Rf W w.heap.size t ∧ W.cell? ⟨w.heap.size + 1, 1, none⟩ = some (.int .u32 p)) (((w.alloc (.cells (rc t) 30)).alloc (.cells #[.int .i64 1, .int .u32 p, .int .u32 f, .bool wr, .bool th] 40)).alloc (.cells (rc T0) 30)).drew := ⟨hA.r, hA.a.2.1⟩
  have HA := Lib.hid hA
  clear hA
  refine wp_region_held_drew (S := (fun W => Rf W w.heap.size t ∧ W.cell? ⟨w.heap.size + 1, 1, none⟩ = some (.int .u32 p))) (by kernel_rfl) hK0 (fun _ => ?_)
  have hS := hK0
  refine take_d (i := 0) (d := some 43) (v := .agg (rc t)) rfl rfl (by kernel_rfl) (by kernel_rfl) (by kernel_rfl) (fun _ _ _ h => h) (y_R (by kernel_rfl) rfl rfl (fun W hW => hW.1)) hS ?_
  try simp only [Act.put, List.setIfInBounds_toArray, List.set_cons_zero, List.set_cons_succ]
  refine take_d (i := 1) (d := some 44) (v := .pointer (some ⟨w.heap.size + 1, 1, none⟩)) rfl rfl (by kernel_rfl) (by kernel_rfl) (by kernel_rfl) (fun _ _ _ h => h) (.inl ⟨by rfl, fun W hW => by go_simp⟩) hS ?_
  try simp only [Act.put, List.setIfInBounds_toArray, List.set_cons_zero, List.set_cons_succ]
  refine take_d (i := 2) (d := some 45) (v := .int .u32 p) rfl rfl (by kernel_rfl) (by kernel_rfl) (by kernel_rfl) (fun _ _ _ h => h) (.inl ⟨by rfl, fun W hW => by have q := hW.2; go_simp⟩) hS ?_
  try simp only [Act.put, List.setIfInBounds_toArray, List.set_cons_zero, List.set_cons_succ]
  refine take_d (i := 4) (d := some 47) (v := .pointer (some ⟨S, 0, none⟩)) rfl rfl (by kernel_rfl) (by kernel_rfl) (by kernel_rfl) (fun _ _ _ h => h) (.inl ⟨by rfl, fun W hW => by go_simp⟩) hS ?_
  try simp only [Act.put, List.setIfInBounds_toArray, List.set_cons_zero, List.set_cons_succ]
  refine take_d (i := 5) (d := some 48) (v := .pointer (some ⟨w.heap.size + 1, 1, none⟩)) rfl rfl (by kernel_rfl) (by kernel_rfl) (by kernel_rfl) (fun _ _ _ h => h) (.inl ⟨by rfl, fun W hW => by go_simp⟩) hS ?_
  try simp only [Act.put, List.setIfInBounds_toArray, List.set_cons_zero, List.set_cons_succ]
  refine take_d (i := 6) (d := some 49) (v := .int .u32 p) rfl rfl (by kernel_rfl) (by kernel_rfl) (by kernel_rfl) (fun _ _ _ h => h) (.inl ⟨by rfl, fun W hW => by have q := hW.2; go_simp⟩) hS ?_
  try simp only [Act.put, List.setIfInBounds_toArray, List.set_cons_zero, List.set_cons_succ]
  refine take_d (i := 8) (d := some 51) (v := .agg (rc t)) rfl rfl (by kernel_rfl) (by kernel_rfl) (by kernel_rfl) (fun _ _ _ h => h) (y_R (by kernel_rfl) rfl rfl (fun W hW => hW.1)) hS ?_
  try simp only [Act.put, List.setIfInBounds_toArray, List.set_cons_zero, List.set_cons_succ]
  refine take_d (i := 9) (d := some 52) (v := .pointer (some ⟨w.heap.size + 1, 1, none⟩)) rfl rfl (by kernel_rfl) (by kernel_rfl) (by kernel_rfl) (fun _ _ _ h => h) (.inl ⟨by rfl, fun W hW => by go_simp⟩) hS ?_
  try simp only [Act.put, List.setIfInBounds_toArray, List.set_cons_zero, List.set_cons_succ]
  refine take_d (i := 10) (d := some 53) (v := .int .u32 p) rfl rfl (by kernel_rfl) (by kernel_rfl) (by kernel_rfl) (fun _ _ _ h => h) (.inl ⟨by rfl, fun W hW => by have q := hW.2; go_simp⟩) hS ?_
  try simp only [Act.put, List.setIfInBounds_toArray, List.set_cons_zero, List.set_cons_succ]
  refine wpAnyH_all (rs := [3]) (by kernel_rfl) (by simp) (fun i hi => ?_)
  simp only [List.mem_cons, List.not_mem_nil, or_false] at hi
  subst hi
  refine .inl ?_
  go_simp
  refine (RDrop_any t p _).mono ?_
  rintro e wc ⟨rfl, hb⟩
  have hA := HA.out.after hb
  have hS : (fun W => Rf W w.heap.size t ∧ W.cell? ⟨w.heap.size + 1, 1, none⟩ = some (.int .u32 p)) wc := ⟨hA.r, hA.a.2.1⟩
  refine ⟨hS, ?_⟩
  clear hb
  try simp only [Act.put, List.setIfInBounds_toArray, List.set_cons_zero, List.set_cons_succ]
  refine wpAnyH_all (rs := [7]) (by kernel_rfl) (by simp) (fun i hi => ?_)
  simp only [List.mem_cons, List.not_mem_nil, or_false] at hi
  subst hi
  refine .inl ?_
  go_simp
  refine (Drop_any hA.at_ p).mono ?_
  rintro e wc ⟨rfl, ha, ht⟩
  have hA := hA.turned hlt ha ht
  have hS : (fun W => Rf W w.heap.size t ∧ W.cell? ⟨w.heap.size + 1, 1, none⟩ = some (.int .u32 p)) wc := ⟨hA.r, hA.a.2.1⟩
  refine ⟨hS, ?_⟩
  clear ha ht
  try simp only [Act.put, List.setIfInBounds_toArray, List.set_cons_zero, List.set_cons_succ]
  refine wpAnyH_all (rs := [11]) (by kernel_rfl) (by simp) (fun i hi => ?_)
  simp only [List.mem_cons, List.not_mem_nil, or_false] at hi
  subst hi
  refine .inl ?_
  go_simp
  refine (RFind_any t p _).mono ?_
  rintro e wc ⟨rfl, hb⟩
  have hA := hA.after hb
  have hS : (fun W => Rf W w.heap.size t ∧ W.cell? ⟨w.heap.size + 1, 1, none⟩ = some (.int .u32 p)) wc := ⟨hA.r, hA.a.2.1⟩
  refine ⟨hS, ?_⟩
  clear hb
  try simp only [Act.put, List.setIfInBounds_toArray, List.set_cons_zero, List.set_cons_succ]
  refine take_d (i := 12) (d := some 55) (v := .bool (t.lkB p)) rfl rfl (by kernel_rfl) (by kernel_rfl) (by kernel_rfl) (fun _ _ _ h => h) (.inl ⟨by rfl, fun W hW => by have q := HQ.out; go_simp⟩) hS ?_
  try simp only [Act.put, List.setIfInBounds_toArray, List.set_cons_zero, List.set_cons_succ]
  refine take_d (i := 13) (d := some 56) (v := .bool true) rfl rfl (by kernel_rfl) (by kernel_rfl) (by kernel_rfl) (fun _ _ _ h => h) (.inl ⟨by rfl, fun W hW => by go_simp⟩) hS ?_
  try simp only [Act.put, List.setIfInBounds_toArray, List.set_cons_zero, List.set_cons_succ]
  refine wpAnyH_all (rs := [14]) (by kernel_rfl) (by simp) (fun i hi => ?_)
  simp only [List.mem_cons, List.not_mem_nil, or_false] at hi
  subst hi
  refine .inl ?_
  refine o_store_R (t.drp p) hA.o rfl rfl rfl ?_
  have hS : (fun W => Rf W w.heap.size t ∧ W.cell? ⟨w.heap.size + 1, 1, none⟩ = some (.int .u32 p)) (wc.setRow (w.heap.size + 1 + 1) (rc (t.drp p))) := ⟨hA.r.setOther (by omega) _, (cell_setRow_other _ _ _ _ (by simp)).trans hA.a.2.1⟩
  refine ⟨hS, ?_⟩
  try simp only [Act.put, List.setIfInBounds_toArray, List.set_cons_zero, List.set_cons_succ]
  refine take_d (i := 15) (d := some 7) (v := .bool true) rfl rfl (by kernel_rfl) (by kernel_rfl) (by kernel_rfl) (fun _ _ _ h => h) (.inl ⟨by rfl, fun W hW => by go_simp⟩) hS ?_
  try simp only [Act.put, List.setIfInBounds_toArray, List.set_cons_zero, List.set_cons_succ]
  refine wpAnyH_done (by kernel_rfl) ?_ _
  have HA := Lib.hid hA
  clear hA hS hK0
  go_wp2
  refine bodyPost_ret (res_R_tmp (fn := Try.f13) rfl _ (HA.out.o.set _) rfl) rfl ⟨rfl, HA.out.at_.setOther (by omega) _, HA.out.tn.trans (turned_setRow _ _ _) (fun x hx => .inr (by omega))⟩
theorem act_any {w : World} {S : Nat} {t : Tl} (h : At w S t) (hok : Ok t) (k p f : Int) (wr th : Bool) : Calls Try.prog 13 #[.pointer (some ⟨S, 0, none⟩), .agg (rc t), .agg #[.int .i64 k, .int .u32 p, .int .u32 f, .bool wr, .bool th]] w fun e w' =>
    e = .returned (.tuple #[.agg (rc (actT t k p f wr)), .bool true]) ∧ At w' S (actT t k p f wr) ∧ Turned (fun j => j = S) w w' := by
  unfold actT
  by_cases h0 : k = 0
  · subst h0
    simp only [if_true]
    exact act_fill h hok p f wr th
  · rw [if_neg h0]
    by_cases h1 : k = 1
    · subst h1
      simp only [if_true]
      exact act_drop h p f wr th
    · rw [if_neg h1]
      exact act_flush h k p f h0 h1 wr th
end Go.Proofs.Ytafkjokbidkkhaa

/-
  Layer 7: act of the statements: Tell, Raise, Take: walks. Written by gen_act.py.
-/
import Derived.Test.YtmnkggnghflcpaaAct
namespace Go.Proofs.Ytmnkggnghflcpaa
open Go.RowKit
set_option maxHeartbeats 1000000
set_option linter.unusedVariables false
set_option linter.unusedSimpArgs false

set_option maxRecDepth 100000 in
theorem act5 {w : World} {S : Nat} {l : Ls} {c : Array Value} {F G : Nat → Prop} (h : AB w S l c F G) (k ln : Int) (bv : Value) (y x : Int) (up : Bool) (k0 : ¬ k = 0) (k1 : ¬ k = 1) (k2 : ¬ k = 2) (k3 : ¬ k = 3) (k4 : ¬ k = 4) :
    Calls Try.prog 13 #[.pointer (some ⟨S, 0, none⟩), .agg c, .agg #[.int .i64 k, .int .i64 ln, bv, .int .u8 y, .int .u32 x, .bool up]] w fun e w' => ∃ c', e = .returned (.tuple #[.agg c', .bool true]) ∧ ActC w S (l.raise ln up) F G c' w' := by
  obtain ⟨hA, hb⟩ := a3_start w c (aC k ln bv y x up) ⟨h.rv.size, h.rv.one⟩
  have HAB := Lib.hid h
  have HF := Lib.hid h.at_.lt
  have HG := Lib.hid h.rv.lt
  have HA := Lib.hid hA
  have HB := Lib.hid hb
  have HAt := Lib.hid (h.at_.below hb)
  have hrv := h.rv.below hb
  have HD := Lib.hid (RRaise_any hrv ln up)
  clear h hA hb hrv
  go_enter Try.func13, Try.ntmps13
  go_wp2_with ((with_reducible apply wp_load_R); (exact HA.out.a); (rfl))
  refine HD.out.mono ?_
  rintro e w1 ⟨c', rfl, G', rv, gG, hb2⟩
  have hz2 := hb2.size
  have hb3 : Below _ _ (w1.alloc (.cells c' 30)).drew := (hb2.alloc hz2 (.cells c' 30)).drew
  have H1 := Lib.hid ((HA.out.below hb3))
  have HBX := Lib.hid (show Rf (w1.alloc (.cells c' 30)).drew w1.heap.size c' from (rv.new w1).drew)
  have HAt2 := Lib.hid ((HAt.out.below hb2).below (((Below.refl _ _).alloc (Nat.le_refl _) (.cells c' 30)).drew))
  have HRv := Lib.hid (rv.below (((Below.refl _ _).alloc (Nat.le_refl _) (.cells c' 30)).drew))
  have HgG := Lib.hid (show ∀ k, G' k → G k ∨ w.heap.size + 1 + 1 + 1 ≤ k from fun k hk => (gG k hk).imp id (fun e => by have := HA.out.z; omega))
  have HB3 := Lib.hid hb3
  have HOK := Lib.hid (show c'.size = 9 ∧ c'.all (·.oneCell') = true from ⟨rv.size, rv.one⟩)
  have HN := Lib.hid (show zR.size = 9 ∧ c'.size = 9 ∧ c'.all (·.oneCell') = true from ⟨rfl, rv.size, rv.one⟩)
  have HZ1 : Hid (w.heap.size + 1 + 1 + 1 ≤ w1.heap.size) := by have := HA.out.z; show _ ≤ _; omega
  clear rv gG hb2 hb3 hz2 HD
  go_wp2_with ((with_reducible apply wp_store_Rn _); (exact HN.out); (rfl); (rfl))
  have hK0 : (fun W => Rf W w1.heap.size c' ∧ Blk W (w.heap.size + 1) (aC k ln bv y x up) 39) (w1.alloc (.cells c' 30)).drew := ⟨HBX.out, H1.out.x⟩
  refine wp_region_held_drew (S := (fun W => Rf W w1.heap.size c' ∧ Blk W (w.heap.size + 1) (aC k ln bv y x up) 39)) (by kernel_rfl) hK0 (fun _ => ?_)
  have hS := hK0
  refine take_d (i := 0) (d := some 168) (v := .agg c') rfl rfl (by kernel_rfl) (by kernel_rfl) (by kernel_rfl) (fun _ _ _ h => h) (y_R (by kernel_rfl) rfl rfl (fun W hW => hW.1) HOK.out.1) hS ?_
  try simp only [Act.put, List.setIfInBounds_toArray, List.set_cons_zero, List.set_cons_succ]
  refine take_d (i := 1) (d := some 169) (v := ?_) rfl rfl (by kernel_rfl) (by kernel_rfl) (by kernel_rfl) (fun _ _ _ h => h) (.inl ⟨by rfl, ?_⟩) hS ?_
  rotate_left
  · intro W hW
    go_simp
    try with_reducible rfl
  try simp only [Act.put, List.setIfInBounds_toArray, List.set_cons_zero, List.set_cons_succ]
  refine take_d (i := 2) (d := some 170) (v := ?_) rfl rfl (by kernel_rfl) (by kernel_rfl) (by kernel_rfl) (fun _ _ _ h => h) (.inl ⟨by rfl, ?_⟩) hS ?_
  rotate_left
  · intro W hW
    go_simp
    try with_reducible rfl
  try simp only [Act.put, List.setIfInBounds_toArray, List.set_cons_zero, List.set_cons_succ]
  refine take_d (i := 3) (d := some 171) (v := ?_) rfl rfl (by kernel_rfl) (by kernel_rfl) (by kernel_rfl) (fun _ _ _ h => h) (.inl ⟨by rfl, ?_⟩) hS ?_
  rotate_left
  · intro W hW
    have q1 := hW.1.blk; have q2 := ac_cells hW.2
    go_simp
    try with_reducible rfl
  try simp only [Act.put, List.setIfInBounds_toArray, List.set_cons_zero, List.set_cons_succ]
  refine take_d (i := 4) (d := some 172) (v := ?_) rfl rfl (by kernel_rfl) (by kernel_rfl) (by kernel_rfl) (fun _ _ _ h => h) (.inl ⟨by rfl, ?_⟩) hS ?_
  rotate_left
  · intro W hW
    go_simp
    try with_reducible rfl
  try simp only [Act.put, List.setIfInBounds_toArray, List.set_cons_zero, List.set_cons_succ]
  refine take_d (i := 5) (d := some 173) (v := ?_) rfl rfl (by kernel_rfl) (by kernel_rfl) (by kernel_rfl) (fun _ _ _ h => h) (.inl ⟨by rfl, ?_⟩) hS ?_
  rotate_left
  · intro W hW
    have q1 := hW.1.blk; have q2 := ac_cells hW.2
    go_simp
    try with_reducible rfl
  try simp only [Act.put, List.setIfInBounds_toArray, List.set_cons_zero, List.set_cons_succ]
  refine take_d (i := 8) (d := some 176) (v := ?_) rfl rfl (by kernel_rfl) (by kernel_rfl) (by kernel_rfl) (fun _ _ _ h => h) (.inl ⟨by rfl, ?_⟩) hS ?_
  rotate_left
  · intro W hW
    go_simp
    try with_reducible rfl
  try simp only [Act.put, List.setIfInBounds_toArray, List.set_cons_zero, List.set_cons_succ]
  refine wpAnyH_all (rs := [6]) (by kernel_rfl) (by simp) (fun i hi => ?_)
  simp only [List.mem_cons, List.not_mem_nil, or_false] at hi
  subst hi
  refine .inl ?_
  go_simp
  refine (Raise_any HAt2.out ln up).mono ?_
  rintro e wc ⟨rfl, hc⟩
  obtain ⟨F', hpp, ht⟩ := HAB.out.fin2 HB.out HA.out.z HRv.out HgG.out HB3.out (by omega) hc
  have hF2 := HF.out
  have hS : (fun W => Rf W w1.heap.size c' ∧ Blk W (w.heap.size + 1) (aC k ln bv y x up) 39) wc := ⟨hS.1.turned ht (fun e => by have := hF2 _ e; have := HZ1.out; omega), hS.2.turned ht (fun e => by have := hF2 _ e; omega)⟩
  have hr := H1.out.r.turned ht (fun e => by have := hF2 _ e; omega)
  clear hc ht hF2
  refine ⟨hS, ?_⟩
  try simp only [Act.put, List.setIfInBounds_toArray, List.set_cons_zero, List.set_cons_succ]
  refine wpAnyH_all (rs := [7]) (by kernel_rfl) (by simp) (fun i hi => ?_)
  simp only [List.mem_cons, List.not_mem_nil, or_false] at hi
  subst hi
  refine .inl ?_
  go_simp
  refine (num_any _ _).mono ?_
  rintro e wc ⟨rfl, rfl⟩
  refine ⟨hS, ?_⟩
  try simp only [Act.put, List.setIfInBounds_toArray, List.set_cons_zero, List.set_cons_succ]
  refine take_d (i := 9) (d := some 177) (v := ?_) rfl rfl (by kernel_rfl) (by kernel_rfl) (by kernel_rfl) (fun _ _ _ h => h) (.inl ⟨by rfl, ?_⟩) hS ?_
  rotate_left
  · intro W hW
    go_simp
    try with_reducible rfl
  try simp only [Act.put, List.setIfInBounds_toArray, List.set_cons_zero, List.set_cons_succ]
  refine wpAnyH_all (rs := [10]) (by kernel_rfl) (by simp) (fun i hi => ?_)
  simp only [List.mem_cons, List.not_mem_nil, or_false] at hi
  subst hi
  refine .inl ?_
  refine o_store_R c' hr HOK.out rfl rfl rfl ?_
  have HT := Lib.hid ((hpp.keep (turned_setRow _ (w.heap.size + 1 + 1) c') (by intro k e; omega) HF.out HG.out).actc (by omega))
  have hS : (fun W => Rf W w1.heap.size c' ∧ Blk W (w.heap.size + 1) (aC k ln bv y x up) 39) (World.setRow _ (w.heap.size + 1 + 1) c') := ⟨hS.1.setOther (by have := HZ1.out; omega) _, hS.2.setOther (by omega) _⟩
  have hr2 := hr.set HOK.out.1 HOK.out.2
  refine ⟨hS, ?_⟩
  try simp only [Act.put, List.setIfInBounds_toArray, List.set_cons_zero, List.set_cons_succ]
  refine take_d (i := 11) (d := some 7) (v := ?_) rfl rfl (by kernel_rfl) (by kernel_rfl) (by kernel_rfl) (fun _ _ _ h => h) (.inl ⟨by rfl, ?_⟩) hS ?_
  rotate_left
  · intro W hW
    go_simp
    try with_reducible rfl
  try simp only [Act.put, List.setIfInBounds_toArray, List.set_cons_zero, List.set_cons_succ]
  refine wpAnyH_done (by kernel_rfl) ?_ _
  go_wp2
  refine bodyPost_ret (res_R_tmp (fn := Try.f13) rfl _ hr2 rfl) rfl ⟨c', by simp, HT.out⟩
set_option maxRecDepth 100000 in
theorem act3 {w : World} {S : Nat} {l : Ls} {c : Array Value} {F G : Nat → Prop} (h : AB w S l c F G) (ln : Int) (bv : Value) (y x : Int) (up : Bool) (hy : 0 ≤ y ∧ y < 256) :
    Calls Try.prog 13 #[.pointer (some ⟨S, 0, none⟩), .agg c, .agg #[.int .i64 3, .int .i64 ln, bv, .int .u8 y, .int .u32 x, .bool up]] w fun e w' => ∃ c', e = .returned (.tuple #[.agg c', .bool true]) ∧ ActC w S { l with td := l.td ++ [y] } F G c' w' := by
  obtain ⟨hA, hb⟩ := a3_start w c (aC 3 ln bv y x up) ⟨h.rv.size, h.rv.one⟩
  have HAB := Lib.hid h
  have HF := Lib.hid h.at_.lt
  have HG := Lib.hid h.rv.lt
  have HA := Lib.hid hA
  have HB := Lib.hid hb
  have HAt := Lib.hid (h.at_.below hb)
  have hrv := h.rv.below hb
  have hsz : l.td.length ≤ 900000 := by have := h.sz; unfold Ls.sz at this; omega
  have HD := Lib.hid (RTell_any hrv y hy hsz)
  have HY := Lib.hid hy
  have HSZ := Lib.hid hsz
  clear h hA hb hrv hy hsz
  go_enter Try.func13, Try.ntmps13
  go_wp2_with ((with_reducible apply wp_load_R); (exact HA.out.a); (rfl))
  refine HD.out.mono ?_
  rintro e w1 ⟨c', rfl, G', rv, gG, hb2⟩
  have hz2 := hb2.size
  have hb3 : Below _ _ (w1.alloc (.cells c' 30)).drew := (hb2.alloc hz2 (.cells c' 30)).drew
  have H1 := Lib.hid ((HA.out.below hb3))
  have HBX := Lib.hid (show Rf (w1.alloc (.cells c' 30)).drew w1.heap.size c' from (rv.new w1).drew)
  have HAt2 := Lib.hid ((HAt.out.below hb2).below (((Below.refl _ _).alloc (Nat.le_refl _) (.cells c' 30)).drew))
  have HRv := Lib.hid (rv.below (((Below.refl _ _).alloc (Nat.le_refl _) (.cells c' 30)).drew))
  have HgG := Lib.hid (show ∀ k, G' k → G k ∨ w.heap.size + 1 + 1 + 1 ≤ k from fun k hk => (gG k hk).imp id (fun e => by have := HA.out.z; omega))
  have HB3 := Lib.hid hb3
  have HOK := Lib.hid (show c'.size = 9 ∧ c'.all (·.oneCell') = true from ⟨rv.size, rv.one⟩)
  have HN := Lib.hid (show zR.size = 9 ∧ c'.size = 9 ∧ c'.all (·.oneCell') = true from ⟨rfl, rv.size, rv.one⟩)
  have HZ1 : Hid (w.heap.size + 1 + 1 + 1 ≤ w1.heap.size) := by have := HA.out.z; show _ ≤ _; omega
  clear rv gG hb2 hb3 hz2 HD
  go_wp2_with ((with_reducible apply wp_store_Rn _); (exact HN.out); (rfl); (rfl))
  have hK0 : (fun W => Rf W w1.heap.size c' ∧ Blk W (w.heap.size + 1) (aC 3 ln bv y x up) 39) (w1.alloc (.cells c' 30)).drew := ⟨HBX.out, H1.out.x⟩
  refine wp_region_held_drew (S := (fun W => Rf W w1.heap.size c' ∧ Blk W (w.heap.size + 1) (aC 3 ln bv y x up) 39)) (by kernel_rfl) hK0 (fun _ => ?_)
  have hS := hK0
  refine take_d (i := 0) (d := some 142) (v := .agg c') rfl rfl (by kernel_rfl) (by kernel_rfl) (by kernel_rfl) (fun _ _ _ h => h) (y_R (by kernel_rfl) rfl rfl (fun W hW => hW.1) HOK.out.1) hS ?_
  try simp only [Act.put, List.setIfInBounds_toArray, List.set_cons_zero, List.set_cons_succ]
  refine take_d (i := 1) (d := some 143) (v := ?_) rfl rfl (by kernel_rfl) (by kernel_rfl) (by kernel_rfl) (fun _ _ _ h => h) (.inl ⟨by rfl, ?_⟩) hS ?_
  rotate_left
  · intro W hW
    go_simp
    try with_reducible rfl
  try simp only [Act.put, List.setIfInBounds_toArray, List.set_cons_zero, List.set_cons_succ]
  refine take_d (i := 2) (d := some 144) (v := ?_) rfl rfl (by kernel_rfl) (by kernel_rfl) (by kernel_rfl) (fun _ _ _ h => h) (.inl ⟨by rfl, ?_⟩) hS ?_
  rotate_left
  · intro W hW
    go_simp
    try with_reducible rfl
  try simp only [Act.put, List.setIfInBounds_toArray, List.set_cons_zero, List.set_cons_succ]
  refine take_d (i := 3) (d := some 145) (v := ?_) rfl rfl (by kernel_rfl) (by kernel_rfl) (by kernel_rfl) (fun _ _ _ h => h) (.inl ⟨by rfl, ?_⟩) hS ?_
  rotate_left
  · intro W hW
    have q1 := hW.1.blk; have q2 := ac_cells hW.2
    go_simp
    try with_reducible rfl
  try simp only [Act.put, List.setIfInBounds_toArray, List.set_cons_zero, List.set_cons_succ]
  refine take_d (i := 5) (d := some 147) (v := ?_) rfl rfl (by kernel_rfl) (by kernel_rfl) (by kernel_rfl) (fun _ _ _ h => h) (.inl ⟨by rfl, ?_⟩) hS ?_
  rotate_left
  · intro W hW
    go_simp
    try with_reducible rfl
  try simp only [Act.put, List.setIfInBounds_toArray, List.set_cons_zero, List.set_cons_succ]
  refine wpAnyH_all (rs := [4]) (by kernel_rfl) (by simp) (fun i hi => ?_)
  simp only [List.mem_cons, List.not_mem_nil, or_false] at hi
  subst hi
  refine .inl ?_
  go_simp
  refine (Tell_any HAt2.out y HY.out HSZ.out).mono ?_
  rintro e wc ⟨rfl, hc⟩
  obtain ⟨F', hpp, ht⟩ := HAB.out.fin2 HB.out HA.out.z HRv.out HgG.out HB3.out (by omega) hc
  have hF2 := HF.out
  have hS : (fun W => Rf W w1.heap.size c' ∧ Blk W (w.heap.size + 1) (aC 3 ln bv y x up) 39) wc := ⟨hS.1.turned ht (fun e => by have := hF2 _ e; have := HZ1.out; omega), hS.2.turned ht (fun e => by have := hF2 _ e; omega)⟩
  have hr := H1.out.r.turned ht (fun e => by have := hF2 _ e; omega)
  clear hc ht hF2
  refine ⟨hS, ?_⟩
  try simp only [Act.put, List.setIfInBounds_toArray, List.set_cons_zero, List.set_cons_succ]
  refine take_d (i := 6) (d := some 148) (v := ?_) rfl rfl (by kernel_rfl) (by kernel_rfl) (by kernel_rfl) (fun _ _ _ h => h) (.inl ⟨by rfl, ?_⟩) hS ?_
  rotate_left
  · intro W hW
    go_simp
    try with_reducible rfl
  try simp only [Act.put, List.setIfInBounds_toArray, List.set_cons_zero, List.set_cons_succ]
  refine wpAnyH_all (rs := [7]) (by kernel_rfl) (by simp) (fun i hi => ?_)
  simp only [List.mem_cons, List.not_mem_nil, or_false] at hi
  subst hi
  refine .inl ?_
  refine o_store_R c' hr HOK.out rfl rfl rfl ?_
  have HT := Lib.hid ((hpp.keep (turned_setRow _ (w.heap.size + 1 + 1) c') (by intro k e; omega) HF.out HG.out).actc (by omega))
  have hS : (fun W => Rf W w1.heap.size c' ∧ Blk W (w.heap.size + 1) (aC 3 ln bv y x up) 39) (World.setRow _ (w.heap.size + 1 + 1) c') := ⟨hS.1.setOther (by have := HZ1.out; omega) _, hS.2.setOther (by omega) _⟩
  have hr2 := hr.set HOK.out.1 HOK.out.2
  refine ⟨hS, ?_⟩
  try simp only [Act.put, List.setIfInBounds_toArray, List.set_cons_zero, List.set_cons_succ]
  refine take_d (i := 8) (d := some 7) (v := ?_) rfl rfl (by kernel_rfl) (by kernel_rfl) (by kernel_rfl) (fun _ _ _ h => h) (.inl ⟨by rfl, ?_⟩) hS ?_
  rotate_left
  · intro W hW
    go_simp
    try with_reducible rfl
  try simp only [Act.put, List.setIfInBounds_toArray, List.set_cons_zero, List.set_cons_succ]
  refine wpAnyH_done (by kernel_rfl) ?_ _
  go_wp2
  refine bodyPost_ret (res_R_tmp (fn := Try.f13) rfl _ hr2 rfl) rfl ⟨c', by simp, HT.out⟩
end Go.Proofs.Ytmnkggnghflcpaa

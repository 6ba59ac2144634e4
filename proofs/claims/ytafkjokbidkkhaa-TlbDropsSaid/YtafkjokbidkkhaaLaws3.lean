/-
  Layer 6: the walk of TlbFills. Written by gen_fills.py out of XLaws3.part.
-/
import Derived.Test.YtafkjokbidkkhaaLaws1
namespace Go.Proofs.Ytafkjokbidkkhaa
open Go.RowKit
set_option maxHeartbeats 1000000
set_option linter.unusedVariables false
set_option linter.unusedSimpArgs false

/-- The document's table behind the first n fills. -/
def flT (pages : List Int) (f : Nat → Int) (wr : Nat → Bool) : Nat → Tl
  | 0 => T0
  | n + 1 => (flT pages f wr n).fil (at0 pages n) (f n) (wr n)
theorem ok_flT (pages : List Int) (f : Nat → Int) (wr : Nat → Bool) : ∀ n, Ok (flT pages f wr n)
  | 0 => ok_T0
  | n + 1 => (ok_flT pages f wr n).fil _ _ _
/-- What stands while a loop of fills goes on. -/
structure Fl (w : World) (S R : Nat) (t : Tl) (W : World) : Prop where
  own : Own w S t W
  box : Rf W R t
  ne : S < R
  hi : w.heap.size ≤ R
theorem Fl.after {w W W' : World} {S R : Nat} {t : Tl} (h : Fl w S R t W) (hb : Below W.heap.size W W') : Fl w S R t W' := ⟨h.own.after hb, Blk.below h.box hb, h.ne, h.hi⟩
/-- The call is done, its table lies in a new block. -/
structure Fl2 (w : World) (S R b : Nat) (t t' : Tl) (W : World) : Prop where
  own : Own w S t' W
  box : Rf W R t
  new : Rf W b t'
  ne : S < R
  hi : w.heap.size ≤ R
  ne2 : R < b
theorem fl2_call {w W w5 : World} {S R : Nat} {t t' : Tl} (h : Fl w S R t W) (hO : Own w S t' w5) (ht : Turned (fun j => j = S) W w5) : Fl2 w S R w5.heap.size t t' ((w5.alloc (.cells (rc T0) 30)).setRow w5.heap.size (rc t')) := by
  have hz := h.box.lt
  have hs := ht.size
  have hS := h.ne
  refine ⟨⟨hO.lo, (Blk.alloc hO.at_ _).setOther (by omega) _, below_setRow (hO.below.alloc hO.below.size _) hO.below.size _⟩, ((h.box.turned ht (by omega)).alloc _).setOther (by omega) _, (blk_new _ _ _).set _, h.ne, h.hi, by omega⟩
theorem fl2_alloc {w W w5 : World} {S R : Nat} {t t' : Tl} (h : Fl w S R t W) (hO : Own w S t' w5) (ht : Turned (fun j => j = S) (W.alloc (.cells (rc T0) 30)) w5) : Fl2 w S R W.heap.size t t' (w5.setRow W.heap.size (rc t')) ∧ Rf w5 W.heap.size T0 := by
  have hz := h.box.lt
  have hS := h.ne
  have hn : Rf w5 W.heap.size T0 := Blk.turned (blk_new W (rc T0) 30) ht (by omega)
  refine ⟨⟨⟨hO.lo, Blk.setOther hO.at_ (by omega) _, below_setRow hO.below h.own.below.size _⟩, ((h.box.alloc _).turned ht (by omega)).setOther (by omega) _, hn.set _, h.ne, h.hi, by omega⟩, hn⟩
theorem o_alloc_R {op : Oper} {a : Act} {w : World} {K : Act → World → Prop} {Q : Exit → Act → World → Prop} (ho : op.op = .alloc 30)
    (h : K (a.put op.dst (.pointer (some ⟨w.heap.size, 0, none⟩))) (w.alloc (.cells (rc T0) 30))) : op.wp Try.prog a w K Q := by
  unfold Oper.wp execOp
  simp only [ho]
  go_simp
  exact h
theorem Fl.act {w W : World} {S R : Nat} {t : Tl} (h : Fl w S R t W) (hok : Ok t) (k p f : Int) (wr th : Bool) : Calls Try.prog 13 #[.pointer (some ⟨S, 0, none⟩), .agg (rc t), .agg #[.int .i64 k, .int .u32 p, .int .u32 f, .bool wr, .bool th]] W fun e w' =>
    (e = .returned (.tuple #[.agg (rc (actT t k p f wr)), .bool true]) ∧ Own w S (actT t k p f wr) w') ∧ Turned (fun j => j = S) W w' := h.own.act hok k p f wr th
set_option maxRecDepth 100000 in
theorem TlbFills_walk (v : Value) (pages : List Int) (frame : Int) (wb : Bool) (w : World) (h : NumsIn .u32 w v pages) : Calls Try.prog 4 #[v, .int .u32 frame, .bool wb] w fun e w' => e = .returned (.bool true) ∧ Below w.heap.size w w' := by
  obtain ⟨o, c, rfl, hc, hm, hcell⟩ := h.form
  unfold maxLen at hm
  have HC := Lib.hid hcell
  clear h hcell
  by_cases hlen : (60 : Int) < pages.length
  · go_enter Try.func4, Try.ntmps4
    go_wp2_with (go_at_call 9; refine (works_any _).mono ?_; rintro e w' ⟨rfl, hb⟩)
    go_ret
    exact ⟨rfl, hb⟩
  · have H0 : Hid (Fl w w.heap.size (w.heap.size + 1) T0 ((w.alloc (.cells (pc T0) 62)).alloc (.cells (rc T0) 30))) := by
      refine ⟨(Own.new w).after ((Below.refl _ _).alloc (Nat.le_refl _) _), ?_, by omega, by omega⟩
      have := blk_new (w.alloc (.cells (pc T0) 62)) (rc T0) 30
      rw [World.size_alloc] at this
      exact this
    go_enter Try.func4, Try.ntmps4
    go_wp2_with fail
    refine (New_any _).mono ?_
    rintro e w1 ⟨rfl, rfl⟩
    go_wp2_with fail
    show Code.wp Try.prog _ _ _ ((w.alloc (.cells (pc T0) 62)).alloc (.cells (rc T0) 30))
    generalize (w.alloc (.cells (pc T0) 62)).alloc (.cells (rc T0) 30) = W0 at H0 ⊢
    obtain ⟨fn, hfn⟩ : ∃ fn : Nat → Int, fn = fun (n : Nat) => (frame + (n : Int)) % 4294967296 := ⟨_, rfl⟩
    go_loopw [9] (fun q wr => ∃ k : Nat, k ≤ pages.length ∧ q = .int .i64 (k : Int) ∧ Hid (Fl w w.heap.size (w.heap.size + 1) (flT pages fn (fun _ => wb) k) wr)) (fun q _ => pages.length + 1 - (intOf q).toNat)
    case atStart => exact ⟨0, by omega, rfl, H0.out⟩
    case round =>
      obtain ⟨k, hk, rfl, HF⟩ := hrel
      by_cases hlt : k < pages.length
      · have hi : (k : Int) < (pages.length : Int) := by omega
        obtain ⟨a, rfl, hca⟩ := HC.out k hlt
        have hcw := keep_cell HF.out.own.below hca
        have hok := ok_flT pages fn (fun _ => wb) k
        have hR := HF.out.box.drew
        have hK0 : (fun W => Rf W (w.heap.size + 1) (flT pages fn (fun _ => wb) k) ∧ W.cell? (a.add k) = some (.int .u32 (at0 pages k))) wr.drew := ⟨hR, hcw⟩
        have hFd := HF.out.after (Below.refl _ _).drew
        have HT : Hid (flT pages fn (fun _ => wb) (k + 1) = actT (flT pages fn (fun _ => wb) k) 0 (at0 pages k) ((frame + (k : Int)) % 4294967296) wb) := by
          show (flT pages fn (fun _ => wb) k).fil (at0 pages k) (fn k) wb = _
          rw [hfn]; rfl
        have HCA := Lib.hid hca
        have HFD := Lib.hid hFd
        have HOK := Lib.hid hok
        clear hca hcw hR hFd HF hok
        generalize flT pages fn (fun _ => wb) k = t at HT HFD HOK hK0 ⊢
        generalize hp : at0 pages k = p at HT HCA hK0 ⊢
        clear hp
        have hk4 : (k : Int) < 4294967296 := by omega
        have hk0 : (0 : Int) ≤ (k : Int) := by omega
        have hk5 : IntKind.u32.wrap (k : Int) = (k : Int) := by rw [IntKind.wrap_u32]; omega
        have hk6 : IntKind.u32.wrap (frame + (k : Int)) = (frame + (k : Int)) % 4294967296 := IntKind.wrap_u32 _
        generalize (frame + (k : Int)) % 4294967296 = fv at HT hk6
        clear hk4
        go_wp2
        refine wp_region_held_drew (S := (fun W => Rf W (w.heap.size + 1) t ∧ W.cell? (a.add k) = some (.int .u32 p))) (by kernel_rfl) hK0 (fun _ => ?_)
        have hS := hK0
        refine take_d (i := 0) (d := some 25) (v := .pointer (some ⟨w.heap.size, 0, none⟩)) rfl rfl (by kernel_rfl) (by kernel_rfl) (by kernel_rfl) (fun _ _ _ h => h) (.inl ⟨by rfl, fun W hW => by go_simp⟩) hS ?_
        try simp only [Act.put, List.setIfInBounds_toArray, List.set_cons_zero, List.set_cons_succ]
        refine take_d (i := 1) (d := some 26) (v := .agg (rc t)) rfl rfl (by kernel_rfl) (by kernel_rfl) (by kernel_rfl) (fun _ _ _ h => h) (y_R (by kernel_rfl) rfl rfl (fun W hW => hW.1)) hS ?_
        try simp only [Act.put, List.setIfInBounds_toArray, List.set_cons_zero, List.set_cons_succ]
        refine take_d (i := 2) (d := some 27) (v := .slice (some a) pages.length c) rfl rfl (by kernel_rfl) (by kernel_rfl) (by kernel_rfl) (fun _ _ _ h => h) (.inl ⟨by rfl, fun W hW => by go_simp⟩) hS ?_
        try simp only [Act.put, List.setIfInBounds_toArray, List.set_cons_zero, List.set_cons_succ]
        refine take_d (i := 3) (d := some 28) (v := .int .i64 (k : Int)) rfl rfl (by kernel_rfl) (by kernel_rfl) (by kernel_rfl) (fun _ _ _ h => h) (.inl ⟨by rfl, fun W hW => by go_simp⟩) hS ?_
        try simp only [Act.put, List.setIfInBounds_toArray, List.set_cons_zero, List.set_cons_succ]
        refine take_d (i := 4) (d := some 29) (v := .pointer (some (a.add k))) rfl rfl (by kernel_rfl) (by kernel_rfl) (by kernel_rfl) (fun _ _ _ h => h) (.inl ⟨by rfl, fun W hW => by have q := hi; go_simp⟩) hS ?_
        try simp only [Act.put, List.setIfInBounds_toArray, List.set_cons_zero, List.set_cons_succ]
        refine take_d (i := 5) (d := some 30) (v := .int .u32 p) rfl rfl (by kernel_rfl) (by kernel_rfl) (by kernel_rfl) (fun _ _ _ h => h) (.inl ⟨by rfl, fun W hW => by have q := hW.2; go_simp⟩) hS ?_
        try simp only [Act.put, List.setIfInBounds_toArray, List.set_cons_zero, List.set_cons_succ]
        refine take_d (i := 6) (d := some 31) (v := .int .u32 frame) rfl rfl (by kernel_rfl) (by kernel_rfl) (by kernel_rfl) (fun _ _ _ h => h) (.inl ⟨by rfl, fun W hW => by go_simp⟩) hS ?_
        try simp only [Act.put, List.setIfInBounds_toArray, List.set_cons_zero, List.set_cons_succ]
        refine take_d (i := 7) (d := some 32) (v := .int .i64 (k : Int)) rfl rfl (by kernel_rfl) (by kernel_rfl) (by kernel_rfl) (fun _ _ _ h => h) (.inl ⟨by rfl, fun W hW => by go_simp⟩) hS ?_
        try simp only [Act.put, List.setIfInBounds_toArray, List.set_cons_zero, List.set_cons_succ]
        refine take_d (i := 8) (d := some 33) (v := .int .u32 (k : Int)) rfl rfl (by kernel_rfl) (by kernel_rfl) (by kernel_rfl) (fun _ _ _ h => h) (.inl ⟨by rfl, fun W hW => by have q := hk5; go_simp⟩) hS ?_
        try simp only [Act.put, List.setIfInBounds_toArray, List.set_cons_zero, List.set_cons_succ]
        refine take_d (i := 9) (d := some 34) (v := .int .u32 fv) rfl rfl (by kernel_rfl) (by kernel_rfl) (by kernel_rfl) (fun _ _ _ h => h) (.inl ⟨by rfl, fun W hW => by have q := hk6; go_simp⟩) hS ?_
        try simp only [Act.put, List.setIfInBounds_toArray, List.set_cons_zero, List.set_cons_succ]
        refine take_d (i := 10) (d := some 35) (v := .bool wb) rfl rfl (by kernel_rfl) (by kernel_rfl) (by kernel_rfl) (fun _ _ _ h => h) (.inl ⟨by rfl, fun W hW => by go_simp⟩) hS ?_
        try simp only [Act.put, List.setIfInBounds_toArray, List.set_cons_zero, List.set_cons_succ]
        refine take_d (i := 11) (d := some 36) (v := .agg #[.int .i64 0, .int .u32 p, .int .u32 fv, .bool wb, .bool false]) rfl rfl (by kernel_rfl) (by kernel_rfl) (by kernel_rfl) (fun _ _ _ h => h) (.inl ⟨by rfl, fun W hW => by go_simp⟩) hS ?_
        try simp only [Act.put, List.setIfInBounds_toArray, List.set_cons_zero, List.set_cons_succ]
        refine wpAnyH_all (rs := [12, 16]) (by kernel_rfl) (by simp) (fun i hi => ?_)
        simp only [List.mem_cons, List.not_mem_nil, or_false] at hi
        rcases hi with rfl | rfl
        · refine .inl ?_
          go_simp
          refine (HFD.out.act HOK.out 0 p fv wb false).mono ?_
          rintro e w5 ⟨⟨rfl, hO⟩, ht⟩
          have hf2 := fl2_call HFD.out hO ht
          have hS : (fun W => Rf W (w.heap.size + 1) t ∧ W.cell? (a.add k) = some (.int .u32 p)) w5 := ⟨HFD.out.box.turned ht (by omega), keep_cell hO.below HCA.out⟩
          refine ⟨hS, ?_⟩
          refine take_d (i := 13) (d := some 24) (v := .tuple #[.agg (rc (actT t 0 p fv wb)), .bool true]) rfl rfl (by kernel_rfl) (by kernel_rfl) (by kernel_rfl) (fun _ _ _ h => h) (.inl ⟨by rfl, fun W hW => by go_simp⟩) hS ?_
          try simp only [Act.put, List.setIfInBounds_toArray, List.set_cons_zero, List.set_cons_succ]
          refine take_d (i := 14) (d := some 38) (v := .agg (rc (actT t 0 p fv wb))) rfl rfl (by kernel_rfl) (by kernel_rfl) (by kernel_rfl) (fun _ _ _ h => h) (.inl ⟨by rfl, fun W hW => by go_simp⟩) hS ?_
          try simp only [Act.put, List.setIfInBounds_toArray, List.set_cons_zero, List.set_cons_succ]
          refine take_d (i := 15) (d := some 39) (v := .bool true) rfl rfl (by kernel_rfl) (by kernel_rfl) (by kernel_rfl) (fun _ _ _ h => h) (.inl ⟨by rfl, fun W hW => by go_simp⟩) hS ?_
          try simp only [Act.put, List.setIfInBounds_toArray, List.set_cons_zero, List.set_cons_succ]
          refine wpAnyH_all (rs := [16]) (by kernel_rfl) (by simp) (fun i hi => ?_)
          simp only [List.mem_cons, List.not_mem_nil, or_false] at hi
          subst hi
          refine .inl ?_
          refine o_alloc_R rfl ?_
          have hS : (fun W => Rf W (w.heap.size + 1) t ∧ W.cell? (a.add k) = some (.int .u32 p)) (w5.alloc (.cells (rc T0) 30)) := ⟨hS.1.alloc _, keep_cell ((Below.refl _ _).alloc (Nat.le_refl _) _) hS.2⟩
          refine ⟨hS, ?_⟩
          try simp only [Act.put, List.setIfInBounds_toArray, List.set_cons_zero, List.set_cons_succ]
          refine wpAnyH_all (rs := [17]) (by kernel_rfl) (by simp) (fun i hi => ?_)
          simp only [List.mem_cons, List.not_mem_nil, or_false] at hi
          subst hi
          refine .inl ?_
          refine o_store_R (actT t 0 p fv wb) (blk_new w5 (rc T0) 30) rfl rfl rfl ?_
          have hS : (fun W => Rf W (w.heap.size + 1) t ∧ W.cell? (a.add k) = some (.int .u32 p)) ((w5.alloc (.cells (rc T0) 30)).setRow w5.heap.size (rc (actT t 0 p fv wb))) := ⟨hf2.box, keep_cell hf2.own.below HCA.out⟩
          refine ⟨hS, ?_⟩
          try simp only [Act.put, List.setIfInBounds_toArray, List.set_cons_zero, List.set_cons_succ]
          refine take_d (i := 18) (d := some 11) (v := .bool true) rfl rfl (by kernel_rfl) (by kernel_rfl) (by kernel_rfl) (fun _ _ _ h => h) (.inl ⟨by rfl, fun W hW => by go_simp⟩) hS ?_
          try simp only [Act.put, List.setIfInBounds_toArray, List.set_cons_zero, List.set_cons_succ]
          refine wpAnyH_done (by kernel_rfl) ?_ _
          have HF2 := Lib.hid hf2
          clear hf2 hS hK0
          have HF3 : Hid (Fl w w.heap.size (w.heap.size + 1) (actT t 0 p fv wb) (((w5.alloc (.cells (rc T0) 30)).setRow w5.heap.size (rc (actT t 0 p fv wb))).setRow (w.heap.size + 1) (rc (actT t 0 p fv wb)))) :=
            ⟨⟨HF2.out.own.lo, Blk.setOther HF2.out.own.at_ (by omega) _, below_setRow HF2.out.own.below (by omega) _⟩, HF2.out.box.set _, by omega, by omega⟩
          go_wp2_with (first | ((with_reducible apply wp_load_R); (exact HF2.out.new); (rfl)) | ((with_reducible apply wp_store_R _); (exact HF2.out.box); (rfl); (rfl)) | ((with_reducible apply wp_load_Rg); (kernel_rfl); (exact HF3.out.box); (rfl)))
          refine (is_any HF3.out.own.at_).mono ?_
          rintro e w6 ⟨rfl, hb6⟩
          have HF6 := Lib.hid (HF3.out.after hb6)
          clear hb6 HF2 HF3
          go_wp2
          go_roundw
          case rel => exact ⟨k + 1, by omega, by go_num, by rw [HT.out]; exact HF6.out⟩
          case measure => simp [intOf]; omega
        · refine .inl ?_
          refine o_alloc_R rfl ?_
          have hS : (fun W => Rf W (w.heap.size + 1) t ∧ W.cell? (a.add k) = some (.int .u32 p)) (wr.drew.alloc (.cells (rc T0) 30)) := ⟨hS.1.alloc _, keep_cell ((Below.refl _ _).alloc (Nat.le_refl _) _) hS.2⟩
          refine ⟨hS, ?_⟩
          try simp only [Act.put, List.setIfInBounds_toArray, List.set_cons_zero, List.set_cons_succ]
          refine wpAnyH_all (rs := [12]) (by kernel_rfl) (by simp) (fun i hi => ?_)
          simp only [List.mem_cons, List.not_mem_nil, or_false] at hi
          subst hi
          refine .inl ?_
          go_simp
          refine ((HFD.out.after ((Below.refl _ _).alloc (Nat.le_refl _) (.cells (rc T0) 30))).act HOK.out 0 p fv wb false).mono ?_
          rintro e w5 ⟨⟨rfl, hO⟩, ht⟩
          obtain ⟨hf2, hn2⟩ := fl2_alloc HFD.out hO ht
          have hS : (fun W => Rf W (w.heap.size + 1) t ∧ W.cell? (a.add k) = some (.int .u32 p)) w5 := ⟨(HFD.out.box.alloc _).turned ht (by omega), keep_cell hO.below HCA.out⟩
          refine ⟨hS, ?_⟩
          refine take_d (i := 13) (d := some 24) (v := .tuple #[.agg (rc (actT t 0 p fv wb)), .bool true]) rfl rfl (by kernel_rfl) (by kernel_rfl) (by kernel_rfl) (fun _ _ _ h => h) (.inl ⟨by rfl, fun W hW => by go_simp⟩) hS ?_
          try simp only [Act.put, List.setIfInBounds_toArray, List.set_cons_zero, List.set_cons_succ]
          refine take_d (i := 14) (d := some 38) (v := .agg (rc (actT t 0 p fv wb))) rfl rfl (by kernel_rfl) (by kernel_rfl) (by kernel_rfl) (fun _ _ _ h => h) (.inl ⟨by rfl, fun W hW => by go_simp⟩) hS ?_
          try simp only [Act.put, List.setIfInBounds_toArray, List.set_cons_zero, List.set_cons_succ]
          refine take_d (i := 15) (d := some 39) (v := .bool true) rfl rfl (by kernel_rfl) (by kernel_rfl) (by kernel_rfl) (fun _ _ _ h => h) (.inl ⟨by rfl, fun W hW => by go_simp⟩) hS ?_
          try simp only [Act.put, List.setIfInBounds_toArray, List.set_cons_zero, List.set_cons_succ]
          refine wpAnyH_all (rs := [17]) (by kernel_rfl) (by simp) (fun i hi => ?_)
          simp only [List.mem_cons, List.not_mem_nil, or_false] at hi
          subst hi
          refine .inl ?_
          refine o_store_R (actT t 0 p fv wb) hn2 rfl rfl rfl ?_
          have hS : (fun W => Rf W (w.heap.size + 1) t ∧ W.cell? (a.add k) = some (.int .u32 p)) (w5.setRow wr.drew.heap.size (rc (actT t 0 p fv wb))) := ⟨hf2.box, keep_cell hf2.own.below HCA.out⟩
          refine ⟨hS, ?_⟩
          try simp only [Act.put, List.setIfInBounds_toArray, List.set_cons_zero, List.set_cons_succ]
          refine take_d (i := 18) (d := some 11) (v := .bool true) rfl rfl (by kernel_rfl) (by kernel_rfl) (by kernel_rfl) (fun _ _ _ h => h) (.inl ⟨by rfl, fun W hW => by go_simp⟩) hS ?_
          try simp only [Act.put, List.setIfInBounds_toArray, List.set_cons_zero, List.set_cons_succ]
          refine wpAnyH_done (by kernel_rfl) ?_ _
          have HF2 := Lib.hid hf2
          clear hf2 hS hK0
          have HF3 : Hid (Fl w w.heap.size (w.heap.size + 1) (actT t 0 p fv wb) ((w5.setRow wr.drew.heap.size (rc (actT t 0 p fv wb))).setRow (w.heap.size + 1) (rc (actT t 0 p fv wb)))) :=
            ⟨⟨HF2.out.own.lo, Blk.setOther HF2.out.own.at_ (by omega) _, below_setRow HF2.out.own.below (by omega) _⟩, HF2.out.box.set _, by omega, by omega⟩
          go_wp2_with (first | ((with_reducible apply wp_load_R); (exact HF2.out.new); (rfl)) | ((with_reducible apply wp_store_R _); (exact HF2.out.box); (rfl); (rfl)) | ((with_reducible apply wp_load_Rg); (kernel_rfl); (exact HF3.out.box); (rfl)))
          refine (is_any HF3.out.own.at_).mono ?_
          rintro e w6 ⟨rfl, hb6⟩
          have HF6 := Lib.hid (HF3.out.after hb6)
          clear hb6 HF2 HF3
          go_wp2
          go_roundw
          case rel => exact ⟨k + 1, by omega, by go_num, by rw [HT.out]; exact HF6.out⟩
          case measure => simp [intOf]; omega
      · obtain rfl : k = pages.length := by omega
        have hlt' : ¬ ((pages.length : Nat) : Int) < (pages.length : Int) := by omega
        go_wp2_with fail
        refine (works_any _).mono ?_
        rintro e w7 ⟨rfl, hb⟩
        have H7 := Lib.hid (HF.out.after hb)
        clear hb HF
        go_wp2
        go_ret
        exact ⟨rfl, H7.out.own.below⟩
end Go.Proofs.Ytafkjokbidkkhaa

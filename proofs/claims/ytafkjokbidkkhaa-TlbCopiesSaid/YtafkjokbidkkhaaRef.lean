/-
  Layer 6: the document's answers: Find, Many, Fill, Drop: walks.
-/
import Derived.Test.YtafkjokbidkkhaaLeaf
import Derived.Laws.ResultCell
import Derived.Laws.CopyOwn
namespace Go.Proofs.Ytafkjokbidkkhaa
open Go.RowKit
set_option maxHeartbeats 1000000

theorem Rf.cells {w : World} {R : Nat} {t : Tl} (h : Rf w R t) {k : Nat} (hk : k < 4) : w.cell? ⟨R, k * 4, none⟩ = some (.bool (t.g k).th) ∧ w.cell? ⟨R, k * 4 + 1, none⟩ = some (.int .u32 (t.g k).pg) ∧ w.cell? ⟨R, k * 4 + 2, none⟩ = some (.int .u32 (t.g k).fr) ∧ w.cell? ⟨R, k * 4 + 3, none⟩ = some (.bool (t.g k).wr) :=
  ⟨h.ent hk 0 _ rfl, h.ent hk 1 _ rfl, h.ent hk 2 _ rfl, h.ent hk 3 _ rfl⟩
theorem fnd_no {t : Tl} {p : Int} (h : ∀ j, j < 4 → (t.g j).hit p = false) : t.rfI p = -1 := by unfold Tl.rfI; rw [Tl.fnd_of_none h]; rfl
theorem fnd_yes {t : Tl} {p : Int} {k : Nat} (hk : k < 4) (h : (t.g k).hit p = true) (hn : ∀ j, j < k → (t.g j).hit p = false) : t.rfI p = (k : Int) := by unfold Tl.rfI; rw [Tl.fnd_of hk h hn]; rfl
theorem RFind_any (t : Tl) (p : Int) (w : World) : Calls Try.prog 15 #[.agg (rc t), .int .u32 p] w fun e w' => e = .returned (.int .i64 (t.rfI p)) ∧ Below w.heap.size w w' := by
  have hb : Rf (w.alloc (.cells (rc t) 30)) w.heap.size t := blk_new w (rc t) 30
  have HB := Lib.hid ((Below.refl w.heap.size w).alloc (Nat.le_refl _) (.cells (rc t) 30))
  have HR := Lib.hid hb
  clear hb
  go_enter Try.func15, Try.ntmps15
  go_wp2
  generalize w.alloc (.cells (rc t) 30) = W at HB HR ⊢
  go_loopw [5] (fun q wr => ∃ k : Nat, k ≤ 4 ∧ q = .int .i64 (k : Int) ∧ wr = W ∧ Hid (∀ j, j < k → (t.g j).hit p = false)) (fun q _ => 5 - (intOf q).toNat)
  case atStart => exact ⟨0, by omega, rfl, rfl, fun j hj => by omega⟩
  case round =>
    obtain ⟨k, hk, rfl, rfl, HN⟩ := hrel
    by_cases hlt : k < 4
    · obtain ⟨c0, c1, _, _⟩ := HR.out.cells hlt
      have HY := Lib.hid (fun h => fnd_yes (t := t) (p := p) hlt h HN.out)
      have hi : (k : Int) < 4 := by omega
      generalize hg : t.g k = x at c0 c1 HY
      obtain ⟨x0, x1, x2, x3⟩ := x
      simp only at c0 c1
      cases x0 with
      | false =>
        have HN2 : Hid (∀ j, j < k + 1 → (t.g j).hit p = false) := fun j hj => by
          by_cases e : j = k
          · subst e; rw [hg]; rfl
          · exact HN.out j (by omega)
        clear hg
        go_wp2
        go_roundw
        case rel => exact ⟨k + 1, by omega, by go_num, trivial, HN2⟩
        case measure => simp [intOf]; omega
      | true =>
        by_cases e : x1 = p
        · have HE := Lib.hid (HY.out (by simp [Ent.hit, e]))
          clear hg
          go_wp2
          go_ret
          exact ⟨by rw [HE.out]; rfl, HB.out⟩
        · have HN2 : Hid (∀ j, j < k + 1 → (t.g j).hit p = false) := fun j hj => by
            by_cases e' : j = k
            · subst e'; rw [hg]; simp [Ent.hit, e]
            · exact HN.out j (by omega)
          clear hg
          go_wp2
          go_roundw
          case rel => exact ⟨k + 1, by omega, by go_num, trivial, HN2⟩
          case measure => simp [intOf]; omega
    · obtain rfl : k = 4 := by omega
      have HE := Lib.hid (fnd_no HN.out)
      go_wp2
      go_ret
      exact ⟨by rw [HE.out]; rfl, HB.out⟩

def manyTo (t : Tl) : Nat → Nat
  | 0 => 0
  | k + 1 => manyTo t k + b2n (t.g k).th
theorem many4 (t : Tl) : manyTo t 4 = t.many := by simp [manyTo, Tl.many, Tl.g]
theorem RMany_any (t : Tl) (w : World) : Calls Try.prog 21 #[.agg (rc t)] w fun e w' => e = .returned (.int .i64 (t.many : Int)) ∧ Below w.heap.size w w' := by
  have hb : Rf (w.alloc (.cells (rc t) 30)) w.heap.size t := blk_new w (rc t) 30
  have HB := Lib.hid ((Below.refl w.heap.size w).alloc (Nat.le_refl _) (.cells (rc t) 30))
  have HR := Lib.hid hb
  clear hb
  go_enter Try.func21, Try.ntmps21
  go_wp2
  generalize w.alloc (.cells (rc t) 30) = W at HB HR ⊢
  go_loopw [3, 4] (fun m q wr => ∃ k n : Nat, k ≤ 4 ∧ n ≤ k ∧ m = .int .i64 (n : Int) ∧ q = .int .i64 (k : Int) ∧ wr = W ∧ Hid (manyTo t k = n)) (fun _ q _ => 5 - (intOf q).toNat)
  case atStart => exact ⟨0, 0, by omega, by omega, rfl, rfl, rfl, rfl⟩
  case round =>
    obtain ⟨k, n, hk, hn, rfl, rfl, rfl, HN⟩ := hrel
    by_cases hlt : k < 4
    · obtain ⟨c0, _, _, _⟩ := HR.out.cells hlt
      have hi : (k : Int) < 4 := by omega
      cases hg : (t.g k).th with
      | false =>
        have HN2 : Hid (manyTo t (k + 1) = n) := by show manyTo t k + b2n (t.g k).th = n; rw [HN.out, hg]; rfl
        rw [hg] at c0
        clear hg
        go_wp2
        go_roundw
        case rel => exact ⟨k + 1, n, by omega, by omega, rfl, by go_num, trivial, HN2⟩
        case measure => simp [intOf]; omega
      | true =>
        have HN2 : Hid (manyTo t (k + 1) = n + 1) := by show manyTo t k + b2n (t.g k).th = n + 1; rw [HN.out, hg]; rfl
        rw [hg] at c0
        clear hg
        go_wp2
        go_roundw
        case rel => exact ⟨k + 1, n + 1, by omega, by omega, by go_num, by go_num, trivial, HN2⟩
        case measure => simp [intOf]; omega
    · obtain rfl : k = 4 := by omega
      have HE := Lib.hid ((many4 t).symm.trans HN.out)
      go_wp2
      go_ret
      exact ⟨by rw [HE.out]; rfl, HB.out⟩

theorem res_R_tmp {fn : Func} {p u : Tmp} (h : fn.results = #[.cell p 30, .tmp u]) (tmps : Array Value) {W : World} {R : Nat} {t : Tl} (hr : Rf W R t) (hp : tmps.getD p undef = .pointer (some ⟨R, 0, none⟩)) :
    (results fn tmps).run Try.prog W = .ok (.tuple #[.agg (rc t), tmps.getD u undef]) W := by
  rw [results_cell_tmp h, hp]
  simp only [asAddr, Sem.run_pure, Result.andThen_ok]
  rw [run_loadVar_row W R 30 30 (rc t) (0, 0) _ hr Try.underlying30 rfl infoR]
  rfl
theorem Rf.there {w : World} {R : Nat} {t : Tl} (h : Rf w R t) {i : Nat} (hi : i < 4) : w.there R (i * 4) 4 := Blk.there h _ _ (by rw [rc_size]; omega)
theorem rfI_yes {t : Tl} {p : Int} (h : t.lkB p = true) : t.rfI p = (t.lkI p : Int) := by unfold Tl.rfI Tl.lkI; exact if_pos h
theorem rfI_no {t : Tl} {p : Int} (h : t.lkB p = false) : t.rfI p = -1 := by unfold Tl.rfI; exact if_neg (by unfold Tl.lkB at h; rw [h]; simp)
theorem RFill_any (t : Tl) (hok : Ok t) (p f : Int) (wr : Bool) (w : World) : Calls Try.prog 25 #[.agg (rc t), .int .u32 p, .int .u32 f, .bool wr] w fun e w' => e = .returned (.tuple #[.agg (rc (t.fil p f wr)), .int .i64 (t.slt p : Int)]) ∧ Below w.heap.size w w' := by
  have hb0 : Rf (w.alloc (.cells (rc t) 30)) w.heap.size t := blk_new w (rc t) 30
  have hb1 : Rf ((w.alloc (.cells (rc t) 30)).alloc (.cells (rc T0) 30)) (w.heap.size + 1) T0 := by
    have := blk_new (w.alloc (.cells (rc t) 30)) (rc T0) 30
    rw [World.size_alloc] at this
    exact this
  have hb2 : Rf ((w.alloc (.cells (rc t) 30)).alloc (.cells (rc T0) 30)) w.heap.size t := Blk.alloc hb0 _
  have HB := Lib.hid (((Below.refl w.heap.size w).alloc (Nat.le_refl _) (.cells (rc t) 30)).alloc (by simp) (.cells (rc T0) 30))
  have H0 := Lib.hid hb2
  have H1 := Lib.hid hb1
  clear hb0 hb1 hb2
  go_enter Try.func25, Try.ntmps25
  go_wp2_with ((with_reducible apply wp_load_R); (exact H0.out); (rfl))
  refine (RFind_any t p _).mono ?_
  rintro e w2 ⟨rfl, b2⟩
  have K0 := Lib.hid (show Rf w2 w.heap.size t from Blk.below H0.out b2)
  have K1 := Lib.hid (show Rf w2 (w.heap.size + 1) T0 from Blk.below H1.out b2)
  have KB := Lib.hid (show Below w.heap.size w w2 from HB.out.trans (b2.mono (by simp <;> omega)))
  clear b2 HB H0 H1
  have hs := hok.slt p
  have S1 := fun W (ht : Turned (fun k => k = w.heap.size) w2 W) => (show Rf W (w.heap.size + 1) T0 from K1.out.turned ht (by omega))
  have SB := fun W (ht : Turned (fun k => k = w.heap.size) w2 W) => (KB.out.trans (ht.below KB.out.size (fun k e => by omega)))
  cases hl : t.lkB p with
  | true =>
    have hr := rfI_yes hl
    have hk := t.lkI_lt p
    have e1 : t.slt p = t.lkI p := by unfold Tl.slt; rw [if_pos hl]
    have e2 : t.fil p f wr = t.st (t.lkI p) ⟨true, p, f, wr⟩ := by unfold Tl.fil Tl.nxt; rw [if_pos hl, e1]
    have E1 := Lib.hid e1
    have E2 := Lib.hid e2
    rw [hr]
    clear hl hr e1 e2 hs
    generalize t.lkI p = k at hk E1 E2 ⊢
    have hk' : (k : Int) < 4 := by omega
    have hk0 : ¬ (k : Int) < 0 := by omega
    have C0 := Lib.hid (K0.out.there (i := k) hk)
    have S0 := Lib.hid (K0.out.st hk ⟨true, p, f, wr⟩)
    have T1 := Lib.hid (S1 _ (turned_setCells w.heap.size (cE ⟨true, p, f, wr⟩) (k * 4) w2))
    have TB := Lib.hid (SB _ (turned_setCells w.heap.size (cE ⟨true, p, f, wr⟩) (k * 4) w2))
    clear S1 SB
    go_wp2_with (first | ((with_reducible apply wp_store_E ⟨true, p, f, wr⟩); (exact C0.out); (rfl); (rfl)) | ((with_reducible apply wp_load_R); (exact S0.out); (rfl)) | ((with_reducible apply wp_store_R _); (exact T1.out); (rfl); (rfl)))
    refine bodyPost_ret (res_R_tmp (fn := Try.f25) rfl _ (T1.out.set _) rfl) rfl ⟨?_, below_setRow TB.out (by omega) _⟩
    rw [E1.out, E2.out]; rfl
  | false =>
    have hr := rfI_no hl
    have hk := hok.nx
    have e1 : t.slt p = t.nx := by unfold Tl.slt; rw [if_neg (by rw [hl]; simp)]
    have e2 : t.fil p f wr = ({ t with nx := (t.nx + 1) % 4 } : Tl).st t.nx ⟨true, p, f, wr⟩ := by unfold Tl.fil Tl.nxt; rw [if_neg (by rw [hl]; simp), e1]
    have E1 := Lib.hid e1
    have E2 := Lib.hid e2
    have cn := K0.out.next
    rw [hr]
    clear hl hr e1 e2 hs
    have K2 := Lib.hid (K0.out.nxt ((t.nx + 1) % 4))
    have ht2 := (Turned.refl (fun k => k = w.heap.size) w2).setCell (p := ⟨w.heap.size, 16, none⟩) (.inl rfl) (.int .i64 (((t.nx + 1) % 4 : Nat) : Int))
    have ht : ((t.nx : Int) + 1).tmod 4 = (((t.nx + 1) % 4 : Nat) : Int) := by rw [Int.tmod_eq_emod_of_nonneg (by omega)]; omega
    have hfz := Blk.frozen K0.out 16
    generalize hW : w2.setCell ⟨w.heap.size, 16, none⟩ (.int .i64 (((t.nx + 1) % 4 : Nat) : Int)) = w3 at K2 ht2
    have hk' : (t.nx : Int) < 4 := by omega
    have C0 := Lib.hid (K2.out.there (i := t.nx) hk)
    have S0 := Lib.hid (K2.out.st hk ⟨true, p, f, wr⟩)
    have ht3 := ht2.trans (turned_setCells w.heap.size (cE ⟨true, p, f, wr⟩) (t.nx * 4) w3) (fun x hx => .inl hx)
    have T1 := Lib.hid (S1 _ ht3)
    have TB := Lib.hid (SB _ ht3)
    clear S1 SB ht2 ht3
    subst hW
    go_wp2_with (first | ((with_reducible apply wp_store_E ⟨true, p, f, wr⟩); (exact C0.out); (rfl); (rfl)) | ((with_reducible apply wp_load_R); (exact S0.out); (rfl)) | ((with_reducible apply wp_store_R _); (exact T1.out); (rfl); (rfl)))
    refine bodyPost_ret (res_R_tmp (fn := Try.f25) rfl _ (T1.out.set _) rfl) rfl ⟨?_, below_setRow TB.out (by omega) _⟩
    rw [E1.out, E2.out]; rfl
theorem res_R {fn : Func} {p : Tmp} (h : fn.results = #[.cell p 30]) (tmps : Array Value) {W : World} {R : Nat} {t : Tl} (hr : Rf W R t) (hp : tmps.getD p undef = .pointer (some ⟨R, 0, none⟩)) :
    (results fn tmps).run Try.prog W = .ok (.agg (rc t)) W := results_cell_row h tmps W R 30 (rc t) (0, 0) _ hp hr Try.underlying30 rfl infoR
theorem RDrop_any (t : Tl) (p : Int) (w : World) : Calls Try.prog 26 #[.agg (rc t), .int .u32 p] w fun e w' => e = .returned (.agg (rc (t.drp p))) ∧ Below w.heap.size w w' := by
  have hb0 : Rf (w.alloc (.cells (rc t) 30)) w.heap.size t := blk_new w (rc t) 30
  have hb1 : Rf ((w.alloc (.cells (rc t) 30)).alloc (.cells (rc T0) 30)) (w.heap.size + 1) T0 := by
    have := blk_new (w.alloc (.cells (rc t) 30)) (rc T0) 30
    rw [World.size_alloc] at this
    exact this
  have hb2 : Rf ((w.alloc (.cells (rc t) 30)).alloc (.cells (rc T0) 30)) w.heap.size t := Blk.alloc hb0 _
  have HB := Lib.hid (((Below.refl w.heap.size w).alloc (Nat.le_refl _) (.cells (rc t) 30)).alloc (by simp) (.cells (rc T0) 30))
  have H0 := Lib.hid hb2
  have H1 := Lib.hid hb1
  clear hb0 hb1 hb2
  go_enter Try.func26, Try.ntmps26
  go_wp2_with ((with_reducible apply wp_load_R); (exact H0.out); (rfl))
  refine (RFind_any t p _).mono ?_
  rintro e w2 ⟨rfl, b2⟩
  have K0 := Lib.hid (show Rf w2 w.heap.size t from Blk.below H0.out b2)
  have K1 := Lib.hid (show Rf w2 (w.heap.size + 1) T0 from Blk.below H1.out b2)
  have KB := Lib.hid (show Below w.heap.size w w2 from HB.out.trans (b2.mono (by simp <;> omega)))
  clear b2 HB H0 H1
  have S1 := fun W (ht : Turned (fun k => k = w.heap.size) w2 W) => (show Rf W (w.heap.size + 1) T0 from K1.out.turned ht (by omega))
  have SB := fun W (ht : Turned (fun k => k = w.heap.size) w2 W) => (KB.out.trans (ht.below KB.out.size (fun k e => by omega)))
  cases hl : t.lkB p with
  | true =>
    have hr := rfI_yes hl
    have hk := t.lkI_lt p
    have E2 : Hid (t.drp p = t.st (t.lkI p) E0) := by unfold Tl.drp; exact if_pos hl
    rw [hr]
    clear hl hr
    generalize t.lkI p = k at hk E2 ⊢
    have hk' : (k : Int) < 4 := by omega
    have hk0 : (k : Int) ≥ 0 := by omega
    have C0 := Lib.hid (K0.out.there (i := k) hk)
    have S0 := Lib.hid (K0.out.st hk E0)
    have T1 := Lib.hid (S1 _ (turned_setCells w.heap.size (cE E0) (k * 4) w2))
    have TB := Lib.hid (SB _ (turned_setCells w.heap.size (cE E0) (k * 4) w2))
    clear S1 SB
    go_wp2_with (first | ((with_reducible apply wp_store_E E0); (exact C0.out); (rfl); (rfl)) | ((with_reducible apply wp_load_R); (exact S0.out); (rfl)) | ((with_reducible apply wp_store_R _); (exact T1.out); (rfl); (rfl)))
    refine bodyPost_ret (res_R (fn := Try.f26) rfl _ (T1.out.set _) rfl) rfl ⟨?_, below_setRow TB.out (by omega) _⟩
    rw [E2.out]
  | false =>
    have hr := rfI_no hl
    have E2 : Hid (t.drp p = t) := by unfold Tl.drp; exact if_neg (by rw [hl]; simp)
    rw [hr]
    clear hl hr S1 SB
    go_wp2_with (first | ((with_reducible apply wp_load_R); (exact K0.out); (rfl)) | ((with_reducible apply wp_store_R _); (exact K1.out); (rfl); (rfl)))
    refine bodyPost_ret (res_R (fn := Try.f26) rfl _ (K1.out.set _) rfl) rfl ⟨?_, below_setRow KB.out (by omega) _⟩
    rw [E2.out]
/-- A table stored into the block that was made last. -/
theorem wp_store_Rn {ops : Array Oper} {rest : List Oper} {a : Act} {w : World} {Q : Exit → Act → World → Prop} {d : Option Tmp} {x y : Operand} {ty : TypeId} {pos : String} {af : Array Edge} {old : Array Value} (t : Tl) (hs : old.size = 17) (hx : a.eval x = .pointer (some ⟨w.heap.size, 0, none⟩)) (hy : a.eval y = .agg (rc t))
    (h : wpList Try.prog ops Q rest (a.put d undef) (w.alloc (.cells (rc t) 30))) :
    wpList Try.prog ops Q ({ dst := d, op := .store 30 x y, type := ty, pos := pos, after := af, guard := none } :: rest) a (w.alloc (.cells old 30)) :=
  wpList_store_blk rfl 30 x y rfl w.heap.size (rc t) old hx hy 30 (blk_new w old 30) infoR hs (one_rc t) (by rw [World.setRow_alloc_new]; exact h)
/-- A table read whole behind a guard that holds. -/
theorem wp_load_Rg {ops : Array Oper} {rest : List Oper} {a : Act} {w : World} {Q : Exit → Act → World → Prop} {d : Option Tmp} {x : Operand} {ty : TypeId} {pos : String} {af : Array Edge} {gi : Nat} {gb : Bool} {R : Nat} {t : Tl}
    (hw : Region.wanted { dst := d, op := .load 30 x, type := ty, pos := pos, after := af, guard := some (gi, gb) } (yielded ops a.tmps) = true) (hr : Rf w R t) (hx : a.eval x = .pointer (some ⟨R, 0, none⟩))
    (h : wpList Try.prog ops Q rest (a.put d (.agg (rc t))) w) : wpList Try.prog ops Q ({ dst := d, op := .load 30 x, type := ty, pos := pos, after := af, guard := some (gi, gb) } :: rest) a w := by
  unfold wpList
  rw [if_pos hw]
  exact .inl (wp_load_row 30 x rfl R hx 30 (rc t) (0, 0) _ hr Try.underlying30 rfl infoR h)
end Go.Proofs.Ytafkjokbidkkhaa

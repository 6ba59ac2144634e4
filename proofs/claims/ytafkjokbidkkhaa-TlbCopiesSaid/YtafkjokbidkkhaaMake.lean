/-
  Layer 6: Clone, All, Walked, Copy, Flush, Same: walks.
-/
import Derived.Test.YtafkjokbidkkhaaLeaf
import Derived.Laws.MakeOwn
import Derived.Laws.CopyOwn
namespace Go.Proofs.Ytafkjokbidkkhaa
open Go.RowKit
set_option maxHeartbeats 1000000

/-- Four entries lie at a block's head. -/
def Row4 (w : World) (g : Nat) (t : Tl) : Prop := ∃ tl : List Value, w.heap[g]? = some (.cells (es t ++ tl).toArray 27 (0, 0))
section
variable {w w' : World} {g : Nat} {t : Tl}
theorem Row4.lt (h : Row4 w g t) : g < w.heap.size := by
  obtain ⟨tl, h⟩ := h
  exact (Array.getElem?_eq_some_iff.1 h).1
theorem Row4.keep (h : Row4 w g t) (hk : w'.heap[g]? = w.heap[g]?) : Row4 w' g t := by
  obtain ⟨tl, h⟩ := h
  exact ⟨tl, hk.trans h⟩
theorem Row4.below (h : Row4 w g t) (hb : Below w.heap.size w w') : Row4 w' g t := h.keep (hb.block _ h.lt)
theorem Row4.ent (h : Row4 w g t) {i : Nat} (hi : i < 4) : w.rangeAt g (i * 4) (cE (t.g i)) := by
  obtain ⟨tl, h⟩ := h
  refine Blk.range (show Blk w g _ _ from h) _ _ ?_
  rcases lt4 hi with rfl | rfl | rfl | rfl <;> rfl
theorem row4_of_own {base c : Nat} (h : w.ownsRow base 27 4 (.slice (some ⟨g, 0, none⟩) 4 c) 4 (es t)) : Row4 w g t ∧ base ≤ g ∧ 4 ≤ c ∧ c ≤ maxLen := by
  obtain ⟨h1, h2⟩ := h
  rcases h2 with ⟨h0, _⟩ | ⟨g', cap, cur, hv, hb, hg, hn, hm, hc, ht⟩
  · cases h0
  · simp at hv
    obtain ⟨rfl, rfl⟩ := hv
    refine ⟨⟨cur.toList.drop 16, ?_⟩, hb, hn, hm⟩
    rw [hg]
    congr 2
    rw [← ht, List.take_append_drop]
end
theorem A.infoE : (Try.prog.info? 27).map (fun i => (i.zero, i.size, i.bytes)) = some (some (.agg #[.bool false, .int .u32 0, .int .u32 0, .bool false]), 4, 16) := by kernel_rfl
theorem sl_eql_nil (w : World) (a : Option Addr) (n c n' c' : Nat) : (binOp .eql 52 (.slice a n c) (.slice none n' c')).run Try.prog w = .ok (.bool a.isNone) w := Lib.run_eql_slice_nil w _ _ a n c n' c' Try.underlying52
set_option maxRecDepth 100000 in
theorem Clone_any {w : World} {S : Nat} {t : Tl} (h : At w S t) :
    Calls Try.prog 30 #[.slice (some ⟨S, 1, none⟩) 4 4] w fun e w' => ∃ g' c', e = .returned (.slice (some ⟨g', 0, none⟩) 4 c') ∧ Row4 w' g' t ∧ w.heap.size ≤ g' ∧ 4 ≤ c' ∧ Below w.heap.size w w' := by
  obtain ⟨i0, hi, hz0, hz1, hz2⟩ := info_parts A.infoE
  have hq := fun (w : World) (a : Option Addr) (n c n' c' : Nat) => sl_eql_nil w a n c n' c'
  have A : Hid (∀ j u, (es t)[j]? = some u → w.cell? ((⟨S, 1, none⟩ : Addr).add j) = some u) := fun j u hj => by
    rw [add_lit]; exact h.ents j u hj
  go_enter Try.func30, Try.ntmps30
  go_wp2_with (at_builtin; refine wpList_append_own_at _ rfl _ _ 52 rfl w.heap.size 27 i0 (.agg #[.bool false, .int .u32 0, .int .u32 0, .bool false]) 4 16 Try.underlying52 hi hz0 hz1 hz2 rfl (by decide) _ _ _ rfl (World.ownsRow_made w #[] 0 (Nat.le_refl _) (Nat.zero_le _) (by simp)) ⟨S, 1, none⟩ 4 4 (es t) rfl (by simp [es_len]) ?qc1 (one_es t) (by unfold maxLen; omega) (by omega) (by simp) ?_)
  case qc1 =>
    intro j u hj
    have h1 := A.out j u hj
    rw [World.cell?_alloc_lt _ _ _ (World.block_lt_of_cell? _ _ h1)]
    exact h1
  intro v' w1 hown hgrow hnil _
  obtain ⟨g', c', rfl⟩ : ∃ g' c', v' = .slice (some ⟨g', 0, none⟩) 4 c' := by
    rcases hown.2 with ⟨h0, _⟩ | ⟨g', cap, cur, hv, _⟩
    · exact absurd h0 hnil
    · exact ⟨g', cap, by simpa using hv⟩
  have hown' : w1.ownsRow w.heap.size 27 4 (.slice (some ⟨g', 0, none⟩) 4 c') 4 (es t) := by simpa using hown
  have HO := Lib.hid (row4_of_own hown')
  have HB := Lib.hid (((Below.refl w.heap.size w).alloc (Nat.le_refl _) (.cells #[] 27)).grown hgrow (by simp) (by intro k hk; simp [Value.ownBlock] at hk; omega))
  clear hown hown' hgrow hnil
  go_wp2
  go_ret
  exact ⟨g', c', rfl, HO.out.1, HO.out.2.1, HO.out.2.2.1, HB.out⟩

theorem All_nil (w : World) : Calls Try.prog 22 #[.pointer none] w fun e w' => e = .returned (.slice none 0 0) ∧ w = w' := by
  go_enter Try.func22, Try.ntmps22
  go_wp2_with (go_at_call 27; refine (none_nil _).mono ?_; rintro e w' ⟨rfl, rfl⟩)
  go_ret
  exact ⟨rfl, rfl⟩
theorem All_any {w : World} {S : Nat} {t : Tl} (h : At w S t) :
    Calls Try.prog 22 #[.pointer (some ⟨S, 0, none⟩)] w fun e w' => ∃ g c, e = .returned (.slice (some ⟨g, 0, none⟩) 4 c) ∧ Row4 w' g t ∧ w.heap.size ≤ g ∧ 4 ≤ c ∧ Below w.heap.size w w' := by
  have HN := Lib.hid (none_at h)
  have HC := Lib.hid (Clone_any h)
  clear h
  go_enter Try.func22, Try.ntmps22
  go_wp2_with (first | (go_at_call 27; refine HN.out.mono ?_; rintro e w' ⟨rfl, rfl⟩) | (go_at_call 30; refine HC.out.mono ?_; rintro e w1 ⟨g, c, rfl, h1, h2, h3, h4⟩; have K1 := Lib.hid h1; have K2 := Lib.hid h2; have K3 := Lib.hid h3; have K4 := Lib.hid h4; clear h1 h2 h3 h4))
  go_ret
  exact ⟨_, _, rfl, K1.out, K2.out, K3.out, K4.out⟩

/-! ### Walked -/
theorem Walked_nil (w : World) : Calls Try.prog 17 #[.pointer none] w fun e w' => e = .returned (.func (.func 28) #[] #[.pointer (some ⟨w.heap.size, 0, none⟩)]) ∧ w' = w.alloc (.cells #[.slice none 0 0] 52) := by
  go_enter Try.func17, Try.ntmps17
  go_wp2_with (go_at_call 22; refine (All_nil _).mono ?_; rintro e w' ⟨rfl, rfl⟩)
  go_ret
  exact ⟨rfl, rfl⟩
theorem Walked_any {w : World} {S : Nat} {t : Tl} (h : At w S t) : Calls Try.prog 17 #[.pointer (some ⟨S, 0, none⟩)] w fun e w' =>
    ∃ B g c, e = .returned (.func (.func 28) #[] #[.pointer (some ⟨B, 0, none⟩)]) ∧ Blk w' B #[.slice (some ⟨g, 0, none⟩) 4 c] 52 ∧ Row4 w' g t ∧ w.heap.size ≤ B ∧ w.heap.size ≤ g ∧ 4 ≤ c ∧ Below w.heap.size w w' := by
  have HC := Lib.hid (All_any h)
  clear h
  go_enter Try.func17, Try.ntmps17
  go_wp2_with (go_at_call 22; refine HC.out.mono ?_; rintro e w1 ⟨g, c, rfl, h1, h2, h3, h4⟩; have K1 := Lib.hid h1; have K2 := Lib.hid h2; have K3 := Lib.hid h3; have K4 := Lib.hid h4; clear h1 h2 h3 h4)
  go_ret
  have hz := K4.out.size
  exact ⟨_, _, _, rfl, blk_new _ _ _, K1.out.below ((Below.refl _ _).alloc (Nat.le_refl _) _), by omega, K2.out, K3.out, K4.out.alloc (by omega) _⟩

/-! ### Copy, Flush -/
section
variable {ops : Array Oper} {rest : List Oper} {a : Act} {w : World} {Q : Exit → Act → World → Prop} {S : Nat} {t : Tl} {d : Option Tmp} {x y : Operand} {ty : TypeId} {pos : String} {af : Array Edge}
/-- A TLB is read whole. -/
theorem wp_load_T (hr : At w S t) (hx : a.eval x = .pointer (some ⟨S, 0, none⟩)) (h : wpList Try.prog ops Q rest (a.put d (.agg (pc t))) w) :
    wpList Try.prog ops Q ({ dst := d, op := .load 62 x, type := ty, pos := pos, after := af, guard := none } :: rest) a w :=
  wpList_load_row rfl 62 x rfl S hx 62 (pc t) (0, 0) _ hr Try.underlying62 rfl infoT h
/-- .. and written whole. -/
theorem wp_store_T {old : Array Value} (t : Tl) (hr : Blk w S old 62) (hs : old.size = 18) (hx : a.eval x = .pointer (some ⟨S, 0, none⟩)) (hy : a.eval y = .agg (pc t)) (h : wpList Try.prog ops Q rest (a.put d undef) (w.setRow S (pc t))) :
    wpList Try.prog ops Q ({ dst := d, op := .store 62 x y, type := ty, pos := pos, after := af, guard := none } :: rest) a w :=
  wpList_store_blk rfl 62 x y rfl S (pc t) old hx hy 62 hr infoT hs (one_pc t) h
end
theorem Copy_nil (w : World) : Calls Try.prog 16 #[.pointer none] w fun e w' => e = .returned (.pointer none) ∧ w = w' := by
  go_enter Try.func16, Try.ntmps16
  go_wp2_with (go_at_call 27; refine (none_nil _).mono ?_; rintro e w' ⟨rfl, rfl⟩)
  go_ret
  exact ⟨rfl, rfl⟩
theorem Copy_any {w : World} {S : Nat} {t : Tl} (h : At w S t) : Calls Try.prog 16 #[.pointer (some ⟨S, 0, none⟩)] w fun e w' =>
    e = .returned (.pointer (some ⟨w.heap.size, 0, none⟩)) ∧ At w' w.heap.size t ∧ Below w.heap.size w w' := by
  have HN := Lib.hid (none_at h)
  have H := Lib.hid h
  have H1 := Lib.hid (show At (w.alloc (.cells (pc T0) 62)) S t from Blk.alloc h _)
  have Z := Lib.hid (blk_new w #[.bool false, .bool false, .int .u32 0, .int .u32 0, .bool false, .bool false, .int .u32 0, .int .u32 0, .bool false, .bool false, .int .u32 0, .int .u32 0, .bool false, .bool false, .int .u32 0, .int .u32 0, .bool false, .int .i64 0] 62)
  clear h
  go_enter Try.func16, Try.ntmps16
  go_wp2_with (first | (go_at_call 27; refine HN.out.mono ?_; rintro e w' ⟨rfl, rfl⟩) | ((with_reducible apply wp_load_T); (exact H.out); (rfl)) | ((with_reducible apply wp_load_T); (exact H1.out); (rfl)) | ((with_reducible apply wp_store_T _); (exact Z.out); (rfl); (rfl); (rfl)))
  go_ret
  exact ⟨rfl, Z.out.set _, below_setRow ((Below.refl _ _).alloc (Nat.le_refl _) _) (Nat.le_refl _) _⟩
theorem Flush_nil (w : World) : Calls Try.prog 20 #[.pointer none] w fun e w' => e = .returned (.tuple #[]) ∧ w = w' := by
  go_enter Try.func20, Try.ntmps20
  go_wp2_with (go_at_call 27; refine (none_nil _).mono ?_; rintro e w' ⟨rfl, rfl⟩)
  go_end0
  exact ⟨rfl, rfl⟩
theorem Flush_any {w : World} {S : Nat} {t : Tl} (h : At w S t) : Calls Try.prog 20 #[.pointer (some ⟨S, 0, none⟩)] w fun e w' =>
    e = .returned (.tuple #[]) ∧ At w' S T0 ∧ Turned (fun k => k = S) w w' := by
  have HN := Lib.hid (none_at h)
  have H1 := Lib.hid (show At (w.alloc (.cells (pc T0) 62)) S t from Blk.alloc h _)
  have H0 := Lib.hid (show At (w.alloc (.cells (pc T0) 62)) w.heap.size T0 from blk_new w _ _)
  have hlt := h.lt
  clear h
  go_enter Try.func20, Try.ntmps20
  go_wp2_with (first | (go_at_call 27; refine HN.out.mono ?_; rintro e w' ⟨rfl, rfl⟩) | (go_at_call 12; refine (New_any _).mono ?_; rintro e w' ⟨rfl, rfl⟩) | ((with_reducible apply wp_load_T); (exact H0.out); (rfl)) | ((with_reducible apply wp_store_T _); (exact H1.out); (rfl); (rfl); (rfl)))
  go_end0
  exact ⟨rfl, H1.out.set _, ((Turned.refl _ _).alloc _).trans (turned_setRow _ _ _) (fun x hx => .inl hx)⟩

/-! ### Same -/
theorem Same_nil (w : World) : Calls Try.prog 18 #[.pointer none, .pointer none] w fun e w' => e = .returned (.bool true) ∧ w = w' := by
  go_enter Try.func18, Try.ntmps18
  go_wp2_with (go_at_call 27; refine (none_nil _).mono ?_; rintro e w' ⟨rfl, rfl⟩)
  go_ret
  exact ⟨rfl, rfl⟩
theorem Same_left {w : World} {S : Nat} {t : Tl} (h : At w S t) : Calls Try.prog 18 #[.pointer (some ⟨S, 0, none⟩), .pointer none] w fun e w' => e = .returned (.bool false) ∧ w = w' := by
  have HN := Lib.hid (none_at h)
  clear h
  go_enter Try.func18, Try.ntmps18
  go_wp2_with (first | (go_at_call 27; (with_reducible refine HN.out.mono ?_); rintro e w' ⟨rfl, rfl⟩) | (go_at_call 27; (with_reducible refine (none_nil _).mono ?_); rintro e w' ⟨rfl, rfl⟩))
  go_ret
  exact ⟨rfl, rfl⟩
theorem Same_right {w : World} {S : Nat} {t : Tl} (h : At w S t) : Calls Try.prog 18 #[.pointer none, .pointer (some ⟨S, 0, none⟩)] w fun e w' => e = .returned (.bool false) ∧ w = w' := by
  have HN := Lib.hid (none_at h)
  clear h
  go_enter Try.func18, Try.ntmps18
  go_wp2_with (first | (go_at_call 27; (with_reducible refine HN.out.mono ?_); rintro e w' ⟨rfl, rfl⟩) | (go_at_call 27; (with_reducible refine (none_nil _).mono ?_); rintro e w' ⟨rfl, rfl⟩))
  go_ret
  exact ⟨rfl, rfl⟩
end Go.Proofs.Ytafkjokbidkkhaa

/-
  Layer 16: the program's Encode: walk. Written by gen_enc16.py. Layer 16: works: walk. Written by gen_works.py.
-/
import Derived.Test.YtjffclcjijpmiaaG18
import Derived.Test.YtjffclcjijpmiaaG19
import Derived.Test.YtjffclcjijpmiaaG20
import Derived.Test.YtjffclcjijpmiaaG21
import Derived.Test.YtjffclcjijpmiaaG25
import Derived.Test.YtjffclcjijpmiaaG10
import Derived.Test.YtjffclcjijpmiaaG11
set_option linter.unusedVariables false
set_option linter.unusedSimpArgs false
namespace Go.Proofs.Ytjffclcjijpmiaa.LG
open Go.RowKit
set_option maxHeartbeats 8000000
set_option maxRecDepth 100000
set_option linter.unusedVariables false
set_option linter.unusedSimpArgs false
attribute [local go_sem] Oper.semAt_some

/-- What Encode leaves. -/
def EncP (l : Lg) (w : World) (e : Ending) (w' : World) : Prop := Below w.heap.size w w' ∧ ((l.ok = true ∧ ∃ v, e = .returned (.tuple #[v, .int .i64 0]) ∧ Bs w' v l.enc) ∨ (l.ok = false ∧ e = .returned (.tuple #[.slice none 0 0, .int .i64 260])))
/-- What Encode's loop knows. -/
structure EnI (w : World) (R2 S E L D : Nat) (r0 : Loop) (l : Lg) (rv : Value) (pre : List Rc) (W : World) : Prop where
  u : Below w.heap.size w W
  m : Lbx W R2 l rv
  o : ∃ g, Wr W S (lastOf 0 pre) (encH l.fr l.se l.mo ++ encR 0 pre) g ∧ ∀ k, g = some k → w.heap.size ≤ k
  er : Blk W E #[.int .i64 0] 30
  lp : W.heap[L]? = some (.loop r0)
  df : W.heap[D]? = some (.deferred (some []))
theorem EnI.below {w : World} {R2 S E L D : Nat} {r0 : Loop} {l : Lg} {rv : Value} {pre : List Rc} {W W' : World} (h : EnI w R2 S E L D r0 l rv pre W) (hb : Below W.heap.size W W') : EnI w R2 S E L D r0 l rv pre W' := by
  obtain ⟨g, ho, hg⟩ := h.o
  exact ⟨belT h.u hb, h.m.below hb, ⟨g, ho.below hb, hg⟩, h.er.below hb, heap_below h.lp hb, heap_below h.df hb⟩
/-- A loop's record, a block of deferred calls, are neither the list's nor its row's. -/
theorem Lw.neO {W : World} {S : Nat} {ty : TypeId} {rest : List Value} {out : List Int} {g : Option Nat} (h : Lw W S ty rest out g) {L : Nat} {o : Obj} (hL : W.heap[L]? = some o) (hc : o.isCells = false) : ¬ (L = S ∨ g = some L) := by
  obtain ⟨sv, hb, hg, he⟩ := h
  rintro (rfl | e)
  · have := hb.symm.trans hL
    simp at this
    rw [← this] at hc; cases hc
  · obtain ⟨cur, hk⟩ := Gs.in_ hg (he.trans e)
    have := hk.symm.trans hL
    simp at this
    rw [← this] at hc; cases hc
theorem PEncode_any {w : World} {l : Lg} {rv : Value} (h : LgIn w rv l) (hby : l.By) (hel : l.ok = true → l.enc.length ≤ 500000) : Calls Try.prog 16 #[.agg (lgc l rv)] w fun e w' => EncP l w e w' := by
  have hmf : ∀ (fn : Fn) (first cap : Array Value) (w : World), (Instr.makeFunc fn first cap).run Try.prog w = .ok (.func fn first cap) w := fun _ _ _ _ => rfl
  have HL0 : Hid (Lbx ((w.alloc (.cells (lgc l rv) 26)).alloc (.cells #[.int .i64 0] 30)) w.heap.size l rv ∧ Blk ((w.alloc (.cells (lgc l rv) 26)).alloc (.cells #[.int .i64 0] 30)) (w.heap.size + 1) #[.int .i64 0] 30 ∧ Below w.heap.size w ((w.alloc (.cells (lgc l rv) 26)).alloc (.cells #[.int .i64 0] 30))) := by
    have k2 := blk_new (w.alloc (.cells (lgc l rv) 26)) #[.int .i64 0] 30
    rw [World.size_alloc] at k2
    exact Lib.hid ⟨⟨(blk_new w _ _).alloc _, h.below (belT (bel1 w _) (bel1 _ _))⟩, k2, belT (bel1 w _) (bel1 _ _)⟩
  have HK : Hid (chk l = l.ok) := Lib.hid (chk_ok l)
  have HX := Lib.hid (And.intro hby hel)
  have H0 := Lib.hid h
  have HP : Hid (l.ok = false → ∀ W, Below w.heap.size w W → EncP l w (.returned (.tuple #[.slice none 0 0, .int .i64 260])) W) := Lib.hid (fun h W hb => ⟨hb, .inr ⟨h, rfl⟩⟩)
  have HY : Hid (l.ok = true → ∀ v W, Below w.heap.size w W → Bs W v l.enc → EncP l w (.returned (.tuple #[v, .int .i64 0])) W) := Lib.hid (fun h v W hb hv => ⟨hb, .inl ⟨h, v, rfl, hv⟩⟩)
  have HE := Lib.hid (enc_rws l)
  clear h hby hel
  refine calls_of_wpP Try.func16 rfl ?_
  simp only [Try.ntmps16, List.size_toArray, List.length_cons, List.length_nil, Nat.reduceAdd, Nat.reduceSub, Array.replicate_succ, Array.replicate_zero, List.push_toArray, List.append_toArray, List.nil_append, List.cons_append]
  obtain ⟨fr, se, mo, rs, wh, en⟩ := l
  refine wpB_seq (wpB_of_wp ?_)
  simp only [lgc] at HL0 ⊢
  go_wp2_with fail
  refine wpB_seq (wpB_of_wp ?_)
  go_wp2_with fail
  refine wpB_seq (wpB_of_wp ?_)
  go_wp2_with fail
  refine (check_any HL0.out.1.i).mono ?_
  rintro e W2 ⟨hb, (⟨hc, rfl⟩ | ⟨hc, rfl⟩)⟩
  rotate_left
  · have hB := HL0.out.2.1.below hb
    have HB := Lib.hid (And.intro hB (belT HL0.out.2.2 hb))
    rw [HK.out] at hc
    have HC := Lib.hid (HP.out hc)
    clear hb hB hc HL0 HP HY HX HE
    go_wp2
    refine leavesP_fn (g := 32) (args := #[.pointer (some ⟨w.heap.size + 1, 0, none⟩)]) (by simp) (by simp [go_sem]) ?_
    refine CallsD.mono (Encode1_p _ 0 260 _ (HB.out.1.cell 0) (HB.out.1.frozen 0)) ?_
    rintro e u' w'' ⟨rfl, rfl, rfl⟩
    have hB4 := (HB.out.1.setCell 0 (.int .i64 260)).cell 0
    simp only [settle, List.dropWhile]
    refine leavesP_ret (v := .tuple #[.slice none 0 0, .int .i64 260]) ?_ (HC.out _ ?_)
    · simp [results, Try.results16, go_sem, hB4]
    · have h1 := (Turned.refl (fun k => k = w.heap.size + 1) W2).setCell (p := ⟨w.heap.size + 1, 0, none⟩) (.inl rfl) (.int .i64 260)
      exact HB.out.2.trans (h1.below (by have := HB.out.2.size; omega) (fun k hk => by omega))
  · rw [HK.out] at hc
    have HC := Lib.hid (And.intro hc (HY.out hc))
    have HB2 := Lib.hid (belT HL0.out.2.2 hb)
    have HL2 := Lib.hid (HL0.out.1.below hb)
    have HR2 := Lib.hid (HL0.out.2.1.below hb)
    clear hb hc HL0 HP HY
    obtain ⟨E, hE⟩ : ∃ E, w.heap.size + 1 = E := ⟨_, rfl⟩
    obtain ⟨R, hR⟩ : ∃ R, w.heap.size = R := ⟨_, rfl⟩
    have hwE : w.heap.size ≤ E := by omega
    have hER : w.heap.size ≤ R ∧ R < E := by omega
    rw [hE] at HR2
    rw [hR] at HL2
    replace hE := Lib.hid hE
    replace hR := Lib.hid hR
    go_wp2_with fail
    rw [hE.out, hR.out]
    refine wpB_seq (wpB_of_wp ?_)
    go_wp2_with fail
    -- the writer
    have HW3 : Hid (Wr (W2.alloc (.cells #[.slice none 0 0, .int .i64 0] 60)) W2.heap.size 0 [] none) := Lib.hid ⟨_, blk_new W2 _ _, Og.nil _, rfl⟩
    have HB3 := Lib.hid (belT HB2.out (bel1 W2 (.cells #[.slice none 0 0, .int .i64 0] 60)))
    have HL3 := Lib.hid (HL2.out.below (bel1 W2 (.cells #[.slice none 0 0, .int .i64 0] 60)))
    have HR3 := Lib.hid (HR2.out.below (bel1 W2 (.cells #[.slice none 0 0, .int .i64 0] 60)))
    obtain ⟨S, hS⟩ : ∃ S, W2.heap.size = S := ⟨_, rfl⟩
    have hES : E < S := by rw [← hS]; exact HR2.out.lt
    have hwS : w.heap.size ≤ S := by rw [← hS]; exact HB2.out.size
    rw [hS] at HW3 ⊢
    generalize W2.alloc (.cells #[.slice none 0 0, .int .i64 0] 60) = W3 at *
    clear HB2 HL2 HR2 hS
    refine wpB_seq (wpB_of_wp ?_)
    obtain ⟨c0, c1, c2, c3, c4, c5⟩ := HL3.out.cells
    try simp only at c0 c1 c2 c3 c4 c5
    have hhd : headOk fr se mo = true := (Lg.ok_b HC.out.1 HX.out.1).1
    have HH := Lib.hid (whead_any (l := ⟨fr, se, mo, rs, wh, en⟩) (rv := rv) HW3.out HL3.out.i hhd)
    clear hhd
    go_wp2_with fail
    refine HH.out.mono ?_
    rintro e W4 ⟨g4, rfl, hw4, ht4, hn4⟩
    have HB4 := Lib.hid (HB3.out.trans (ht4.below HB3.out.size (fun k hk => by rcases hk with e | e; omega; cases e)))
    have HL4 := Lib.hid (HL3.out.turned H0.out HB3.out ht4 (HW3.out.ne HL3.out.b (by decide) (by decide)) (fun k hk => by rcases hk with e | e; omega; cases e))
    have HR4 := Lib.hid (HR3.out.turned ht4 (HW3.out.ne HR3.out (by decide) (by decide)))
    have HW4 : Hid (∃ g, Wr W4 S 0 (encH fr se mo) g ∧ ∀ k, g = some k → w.heap.size ≤ k) := Lib.hid ⟨g4, hw4, fun k hk => by
      rcases hn4 k hk with e | e
      · cases e
      · have := HB3.out.size; omega⟩
    clear hw4 ht4 hn4 HB3 HL3 HR3 HW3 HH c0 c1 c2 c3 c4 c5
    go_wp2_with fail
    refine wpB_seq (wpB_seq (wpB_of_wp ?_))
    obtain ⟨c0, c1, c2, c3, c4, c5⟩ := HL4.out.cells
    try simp only at c0 c1 c2 c3 c4 c5
    go_wp2_with fail
    refine (rows_any (l := ⟨fr, se, mo, rs, wh, en⟩) (rv := rv)).mono ?_
    rintro e W5 ⟨rfl, rfl⟩
    have bw := bel1 W4 (.cells (lgc ⟨fr, se, mo, rs, wh, en⟩ rv) 26)
    have HI0 : Hid (Lbx (W4.alloc (.cells (lgc ⟨fr, se, mo, rs, wh, en⟩ rv) 26)) W4.heap.size ⟨fr, se, mo, rs, wh, en⟩ rv) := Lib.hid ⟨blk_new _ _ _, HL4.out.i.below bw⟩
    have HB5 := Lib.hid (belT HB4.out bw)
    have HR5 := Lib.hid (HR4.out.below bw)
    have HW5 : Hid (∃ g, Wr (W4.alloc (.cells (lgc ⟨fr, se, mo, rs, wh, en⟩ rv) 26)) S 0 (encH fr se mo) g ∧ ∀ k, g = some k → w.heap.size ≤ k) := by
      obtain ⟨g, h1, h2⟩ := HW4.out
      exact Lib.hid ⟨g, h1.below bw, h2⟩
    obtain ⟨R2, hR2⟩ : ∃ R, W4.heap.size = R := ⟨_, rfl⟩
    have hwR2 : w.heap.size ≤ R2 := by rw [← hR2]; exact HB4.out.size
    rw [hR2] at HI0 ⊢
    generalize W4.alloc (.cells (lgc ⟨fr, se, mo, rs, wh, en⟩ rv) 26) = W5 at *
    clear bw HB4 HR4 HW4 HL4 c0 c1 c2 c3 c4 c5 hR2
    go_wp2_with fail
    refine wpB_block (wpB_range rfl (fun _ _ => rfl) ?_)
    intro D L r0 W6 hD hL hr0 hW6
    subst hL
    have hfn := congrArg Loop.fn hr0
    have hst := congrArg Loop.state hr0
    have hpe := congrArg Loop.pending hr0
    have htm := congrArg Loop.tmps hr0
    have hpa := congrArg Loop.params hr0
    have has := congrArg Loop.assign hr0
    have hbd := congrArg Loop.body hr0
    dsimp only at hfn hst hpe htm hpa has hbd
    clear hr0
    have bw4 := bel1 W5 (.deferred (some []))
    have bw5 := belT bw4 (bel1 (W5.alloc (.deferred (some []))) (.loop r0))
    have HI : Hid (EnI w R2 S E (D + 1) D r0 ⟨fr, se, mo, rs, wh, en⟩ rv [] W6) := by
      rw [hW6]
      obtain ⟨g, h1, h2⟩ := HW5.out
      refine Lib.hid ⟨belT HB5.out bw5, HI0.out.below bw5, ⟨g, ?_, h2⟩, HR5.out.below bw5, ?_, ?_⟩
      · show Wr _ S 0 (encH fr se mo ++ []) g
        rw [List.append_nil]; exact h1.below bw5
      · rw [hD]
        have := World.alloc_heap_new (W5.alloc (.deferred (some []))) (.loop r0)
        rw [World.size_alloc] at this
        exact this
      · rw [hD]; exact (Below.heap_alloc _ _ _ (by simp)).trans (World.alloc_heap_new W5 _)
    have hz4 : W5.heap.size ≤ D := by omega
    have hwD : w.heap.size ≤ D := by have := HB5.out.size; omega
    have hE5 : E < W5.heap.size := HR5.out.lt
    have hR5 : R2 < W5.heap.size := HI0.out.b.lt
    have hS5 : S < W5.heap.size := by obtain ⟨g, h1, h2⟩ := HW5.out; exact h1.lt
    clear bw4 bw5 hW6 hD HB5 HI0 HR5 HW5
    refine CallsIn.mono (rows1_any (l := ⟨fr, se, mo, rs, wh, en⟩) (rv := rv) (EnI w R2 S E (D + 1) D r0 ⟨fr, se, mo, rs, wh, en⟩ rv) (fun ch W => False) (fun pre W h => ⟨h.m.b, h.m.i.r⟩) (fun pre W W' h hb => h.below hb) ?_ HI.out) ?_
    · intro m pre r rest bv W6 hrw hJ hbs
      obtain ⟨hmay, hl0, hl1⟩ := rws_step HC.out.1 HX.out.1 hrw
      have hlen := rws_len (l := ⟨fr, se, mo, rs, wh, en⟩) hrw
      have hel := HX.out.2 HC.out.1
      obtain ⟨g6, hw6, hg6⟩ := hJ.o
      refine round_yield ⟨_, by rw [hfn]; exact Try.func16⟩ hJ.lp hst hpe (by rw [hpa]; rfl) ?_
      rw [has, hbd, hpa, htm]
      clear hfn hst hpe htm hpa has hbd
      rw [zip1]
      simp only [List.setIfInBounds_toArray, List.set_cons_zero, List.set_cons_succ]
      obtain ⟨bo, bc, rfl, _, _⟩ := hbs.shape
      obtain ⟨t, k, n, bs⟩ := r
      simp only [rcl]
      gi_wp2_with fail
      have bwk := bel1 W6 (.cells #[.int .i64 t, .int .i64 k, .int .i64 n, .slice bo bs.length bc] 42)
      have hl6 := heap_below hJ.lp bwk
      refine ⟨hl6, ?_⟩
      have hJ7 := hJ.below bwk
      have hlt := (Array.getElem?_eq_some_iff.1 hJ.lp).1
      have ht7 := turned_putObj (W6.alloc (.cells #[.int .i64 t, .int .i64 k, .int .i64 n, .slice bo bs.length bc] 42)) (D + 1) (.loop (busy r0))
      have hk7 := (blk_new W6 #[.int .i64 t, .int .i64 k, .int .i64 n, .slice bo bs.length bc] 42).turned ht7 (by omega)
      have hB7 := (hbs.below bwk).put hl6 (o := .loop (busy r0))
      have hne7 := (hw6.below bwk).neO hl6 rfl
      have hW7 := (hw6.below bwk).turned ht7 (fun e => hne7 (.inl e.symm)) (fun j hj e => hne7 (.inr (by rw [hj, e])))
      have hb7 : Below w.heap.size w ((W6.alloc (.cells #[.int .i64 t, .int .i64 k, .int .i64 n, .slice bo bs.length bc] 42)).putObj (D + 1) (.loop (busy r0))) := hJ7.u.trans (ht7.below hJ7.u.size (fun k hk => by omega))
      have hm7 := hJ7.m.turned H0.out hJ7.u ht7 (by omega) (fun k hk => by omega)
      have hd7 := heap_turned hJ7.df ht7 (by omega)
      have he7 := hJ7.er.turned ht7 (by omega)
      have hp7 : ((W6.alloc (.cells #[.int .i64 t, .int .i64 k, .int .i64 n, .slice bo bs.length bc] 42)).putObj (D + 1) (.loop (busy r0))).heap[D + 1]? = some (.loop (busy r0)) := World.putObj_heap_same (by simp; omega)
      have hpl : (encH fr se mo ++ encR 0 pre).length ≤ 800000 := Nat.le_trans hlen (Nat.le_trans hel (by decide))
      have HC7 := Lib.hid (wrec_any (r := ⟨t, k, n, bs⟩) hW7 hB7 hmay hl0 hl1 hpl)
      have HJ7 := Lib.hid (And.intro hb7 (And.intro hm7 (And.intro hd7 (And.intro he7 (And.intro hp7 hW7)))))
      have HG := Lib.hid hg6
      clear hmay hl0 hl1 hlen hel hpl hB7 hW7 hne7 hw6 hg6
      obtain ⟨R6, hR6⟩ : ∃ R, W6.heap.size = R := ⟨_, rfl⟩
      rw [hR6] at hk7 ⊢
      generalize (W6.alloc (.cells #[.int .i64 t, .int .i64 k, .int .i64 n, .slice bo bs.length bc] 42)).putObj (D + 1) (.loop (busy r0)) = W7 at *
      obtain ⟨y0, y1, y2, y3⟩ : W7.cell? ⟨R6, 0, none⟩ = some (.int .i64 t) ∧ W7.cell? ⟨R6, 1, none⟩ = some (.int .i64 k) ∧ W7.cell? ⟨R6, 2, none⟩ = some (.int .i64 n) ∧ W7.cell? ⟨R6, 3, none⟩ = some (.slice bo bs.length bc) := ⟨hk7.cell 0, hk7.cell 1, hk7.cell 2, hk7.cell 3⟩
      clear hl6 hJ7 hlt ht7 hk7 hb7 hm7 hd7 he7 hp7 hrw hbs hJ hR6 bwk
      gi_wp2_with fail
      refine ⟨trivial, fun hd => (by cases hd), (CallsIn.inRound _ (callsIn_wide.2 HC7.out)).mono ?_⟩
      rintro e W8 ⟨g8, rfl, hw8, ht8, hn8⟩
      obtain ⟨hb7, hm7, hd7, he7, hp7, hW7⟩ := HJ7.out
      have hF : ∀ j, (j = S ∨ g6 = some j) → w.heap.size ≤ j := fun j hj => by
        rcases hj with e | e
        · omega
        · exact HG.out j e
      have hb8 := hb7.trans (ht8.below hb7.size hF)
      have hm8 := hm7.turned H0.out hb7 ht8 (hW7.ne hm7.b (by decide) (by decide)) hF
      have hd8 := heap_turned hd7 ht8 (hW7.neO hd7 rfl)
      have he8 := he7.turned ht8 (hW7.ne he7 (by decide) (by decide))
      have hp8 := heap_turned hp7 ht8 (hW7.neO hp7 rfl)
      have ht9 := turned_putObj W8 (D + 1) (.loop r0)
      have hne8 := hw8.neO hp8 rfl
      have HE9 : Hid (W8.heap[D + 1]? = some (.loop (busy r0)) ∧ EnI w R2 S E (D + 1) D r0 ⟨fr, se, mo, rs, wh, en⟩ rv (pre ++ [⟨t, k, n, bs⟩]) (W8.putObj (D + 1) (.loop r0))) := by
        refine Lib.hid ⟨hp8, hb8.trans (ht9.below hb8.size (fun k hk => by omega)), hm8.turned H0.out hb8 ht9 (by omega) (fun k hk => by omega), ⟨g8, ?_, fun j hj => ?_⟩, he8.turned ht9 (by omega), World.putObj_heap_same (Array.getElem?_eq_some_iff.1 hp8).1, heap_turned hd8 ht9 (by omega)⟩
        · have := hw8.turned ht9 (fun e => hne8 (.inl e.symm)) (fun j hj e => hne8 (.inr (by rw [hj, e])))
          rw [lastOf_snoc, encR_snoc, ← List.append_assoc]
          exact this
        · rcases hn8 j hj with e | e
          · exact HG.out j e
          · have := hb7.size; omega
      clear hb7 hm7 hd7 he7 hp7 hW7 hF hb8 hm8 hd8 he8 hp8 ht9 hne8 hw8 ht8 hn8 y0 y1 y2 y3 HJ7 HC7 HG
      gi_wp2
      first
        | exact ⟨HE9.out.1, .inl ⟨rfl, HE9.out.2⟩⟩
        | exact ⟨HE9.out.1, rfl, HE9.out.2⟩
    · clear hfn hst hpe htm hpa has hbd
      rintro e W6 (⟨v, rfl, hJ⟩ | ⟨ch, rfl, hf⟩)
      rotate_left
      · exact hf.elim
      refine ⟨hJ.lp, .inl rfl, wpB_of_wp ?_⟩
      have ht7 := turned_putObj W6 (D + 1) (.loop { r0 with state := .exhausted })
      obtain ⟨g6, hw6, hg6⟩ := hJ.o
      have hne6 := hw6.neO hJ.lp rfl
      have HB7 := Lib.hid (hJ.u.trans (ht7.below hJ.u.size (fun k hk => by omega)))
      have HD7 := Lib.hid (heap_turned hJ.df ht7 (by omega))
      have hw7 := hw6.turned ht7 (fun e => hne6 (.inl e.symm)) (fun j hj e => hne6 (.inr (by rw [hj, e])))
      have he7 := hJ.er.turned ht7 (by omega)
      generalize W6.putObj (D + 1) (.loop { r0 with state := .exhausted }) = W7 at *
      rw [← HE.out] at hw7
      have HW7 := Lib.hid hw7
      obtain ⟨sv, hb7, hog, _⟩ := hw7
      have HO7 := Lib.hid hog
      obtain ⟨so, sc, rfl, _, _⟩ := hog.shape
      have y0 := hb7.cell 0
      have y2 := he7.cell 0
      have z2 := he7.frozen 0
      simp only [List.getElem?_toArray, List.getElem?_cons_zero] at y0 y2
      have HER := Lib.hid he7
      have hSE : S ≠ E := by omega
      clear hw6 hg6 hne6 hJ hb7 hog he7 ht7 HW7
      go_wp2
      have hT8 := (Turned.refl (fun k => k = E) W7).setCell (p := ⟨E, 0, none⟩) (.inl rfl) (.int .i64 0)
      have hE8 := HER.out.setCell 0 (.int .i64 0)
      refine leavesP_mark (heap_turned HD7.out hT8 (by omega)) (by simp) ?_
      have hT9 := turned_putObj (W7.setCell ⟨E, 0, none⟩ (.int .i64 0)) D (.deferred none)
      have hE9 := hE8.turned hT9 (by omega)
      have hD8 := heap_turned HD7.out hT8 (by omega)
      have hO8 := Gs.turned HO7.out hT8 (fun j hj => Gs.ne HO7.out HER.out (by decide) hj)
      have hO9 := Gs.turned hO8 hT9 (fun j hj e => by
        obtain ⟨cur, hk⟩ := Gs.in_ hO8 hj
        have := hk.symm.trans (show (W7.setCell ⟨E, 0, none⟩ (.int .i64 0)).heap[j]? = some (.deferred (some [])) from by rw [e]; exact hD8)
        simp at this)
      have hB8 := HB7.out.trans (hT8.below HB7.out.size (fun k hk => by omega))
      have hB9 := hB8.trans (hT9.below hB8.size (fun k hk => by omega))
      generalize (W7.setCell ⟨E, 0, none⟩ (.int .i64 0)).putObj D (.deferred none) = W9 at *
      refine leavesP_fn (g := 32) (args := #[.pointer (some ⟨E, 0, none⟩)]) (by simp) (by simp [go_sem]) ?_
      refine CallsD.mono (Encode1_r _ 0 _ (hE9.cell 0) (hE9.frozen 0)) ?_
      rintro e u' w'' ⟨rfl, rfl, rfl⟩
      have hTa := (Turned.refl (fun k => k = E) W9).setCell (p := ⟨E, 0, none⟩) (.inl rfl) (.int .i64 0)
      have hEa := (hE9.setCell 0 (.int .i64 0)).cell 0
      have hOa := Gs.turned hO9 hTa (fun j hj => Gs.ne hO9 hE9 (by decide) hj)
      simp only [settle]
      refine leavesP_ret (v := .tuple #[.slice so (Lg.enc ⟨fr, se, mo, rs, wh, en⟩).length sc, .int .i64 0]) ?_ (HC.out.2 _ _ (hB9.trans (hTa.below hB9.size (fun k hk => by omega))) (Og.bs hOa (enc_by HC.out.1 HX.out.1)))
      simp [results, Try.results16, go_sem, hEa]
end Go.Proofs.Ytjffclcjijpmiaa.LG
namespace Go.Proofs.Ytjffclcjijpmiaa.LG
open Go.RowKit
set_option maxHeartbeats 8000000
set_option maxRecDepth 100000
set_option linter.unusedVariables false
set_option linter.unusedSimpArgs false

/-- What is held: the bytes, the log in its box. -/
structure WkS (B : Nat) (vb rv : Value) (W : World) : Prop where
  b : Bs W vb [80, 77, 68, 82, 2, 1, 4, 6, 3, 172, 2, 0, 104, 105, 3, 8, 1, 0]
  l : Blk W B (lgc workL rv) 26
  r : RsIn W rv workL.rs
theorem WkS.stb (B : Nat) (vb rv : Value) : Free.Stb (WkS B vb rv) := fun _ _ h hb => ⟨h.b.below hb, h.l.below hb, h.r.below hb⟩
theorem WkS.cells {B : Nat} {vb rv : Value} {W : World} (h : WkS B vb rv W) : W.cell? ⟨B, 0, none⟩ = some (.int .i64 2) ∧ W.cell? ⟨B, 1, none⟩ = some (.int .i64 1) ∧ W.cell? ⟨B, 2, none⟩ = some (.int .i64 4) ∧ W.cell? ⟨B, 3, none⟩ = some rv ∧ W.cell? ⟨B, 4, none⟩ = some (.bool true) ∧ W.cell? ⟨B, 5, none⟩ = some (.int .i64 301) := ⟨h.l.cell 0, h.l.cell 1, h.l.cell 2, h.l.cell 3, h.l.cell 4, h.l.cell 5⟩
theorem work_i : I64 workL.fr ∧ I64 workL.se ∧ I64 workL.mo ∧ I64 workL.en := ⟨⟨by decide, by decide⟩, ⟨by decide, by decide⟩, ⟨by decide, by decide⟩, ⟨by decide, by decide⟩⟩
theorem works_any (w : World) : Calls Try.prog 10 #[] w fun e w' => e = .returned (.bool true) ∧ Below w.heap.size w w' := by
  go_enter Try.func10, Try.ntmps10
  go_wp2_with fail
  refine (some_any _).mono ?_
  rintro e W1 ⟨rv0, rfl, hl1, hb1⟩
  have HB1 := Lib.hid hb1
  have HC := Lib.hid (PEncode_any hl1 hl1.r.by8 (fun _ => by rw [work_enc]; decide))
  clear hb1 hl1
  go_wp2_with fail
  refine HC.out.mono ?_
  rintro e W2 ⟨hb2, (⟨_, v, rfl, hv⟩ | ⟨hno, _⟩)⟩
  rotate_left
  · exact absurd (work_ok.symm.trans hno) (by decide)
  rw [work_enc] at hv
  obtain ⟨vo, vc, rfl, _, _⟩ := hv.shape
  have HV2 := Lib.hid hv
  have HB2 := Lib.hid (belT HB1.out hb2)
  have HC2 := Lib.hid (PDecode_any hv (by decide))
  clear hb2 hv HC HB1
  simp only [List.length_cons, List.length_nil, Nat.reduceAdd] at HC2 HV2 ⊢
  go_wp2_with fail
  refine HC2.out.mono ?_
  rintro e W3 ⟨hb3, l, n, er, rv, rfl, hrs, hdc⟩
  obtain ⟨rfl, rfl, rfl⟩ : l = workL ∧ n = 18 ∧ er = 0 := by
    rcases hdc with h | ⟨h, _⟩
    · rw [work_dec] at h
      simp at h
      exact h
    · rw [work_dec] at h
      exact absurd h (by decide)
  obtain ⟨ro, rc, rfl, _, _⟩ := hrs.shape
  have HB3 := Lib.hid (belT HB2.out hb3)
  have HV3 := Lib.hid (HV2.out.below hb3)
  have HR3 := Lib.hid hrs
  clear hb3 hrs hdc HC2 HB2 HV2
  simp only [lgc, workL, List.length_cons, List.length_nil, Nat.reduceAdd] at HR3 ⊢
  go_wp2_with fail
  obtain ⟨B, hB⟩ : ∃ B, W3.heap.size = B := ⟨_, rfl⟩
  have bw := bel1 W3 (.cells #[.int .i64 2, .int .i64 1, .int .i64 4, .slice ro 1 rc, .bool true, .int .i64 301] 26)
  have hS : Hid (WkS B (.slice vo 18 vc) (.slice ro 1 rc) (W3.alloc (.cells #[.int .i64 2, .int .i64 1, .int .i64 4, .slice ro 1 rc, .bool true, .int .i64 301] 26)).drew) := by
    have k := blk_new W3 #[.int .i64 2, .int .i64 1, .int .i64 4, .slice ro 1 rc, .bool true, .int .i64 301] 26
    rw [hB] at k
    exact Lib.hid (WkS.stb _ _ _ _ _ ⟨HV3.out.below bw, k, HR3.out.below bw⟩ (Below.refl _ _).drew)
  have HB4 := Lib.hid (belT HB3.out bw).drew
  rw [hB]
  generalize W3.alloc (.cells #[.int .i64 2, .int .i64 1, .int .i64 4, .slice ro 1 rc, .bool true, .int .i64 301] 26) = W4 at *
  obtain ⟨s1, HS1⟩ : ∃ s, Hid (strOfNums [80, 77, 68, 82, 2, 1, 4, 6, 3, 172, 2, 0, 104, 105, 3, 8, 1, 0] = s ∧ (s.toList == [80, 77, 68, 82, 2, 1, 4, 6, 3, 172, 2, 0, 104, 105, 3, 8, 1, 0]) = true) := ⟨_, Lib.hid ⟨rfl, by rw [toList_strOf]; rfl⟩⟩
  clear bw HB3 HV3 HR3 hB
  go_wp2_with fail
  refine Free.any (WkS B (.slice vo 18 vc) (.slice ro 1 rc)) (WkS.stb _ _ _) hS.out (fun st => ?_)
  refine Free.tk 0 (some 20) ?_ (hy := by intro W hW; go_simp; try with_reducible rfl)
  refine Free.cl 1 (some 21) (v := .int .i64 0) st (fun W hW => (num_any 0 W).mono (fun e w' h => ⟨h.1, h.2 ▸ Below.refl _ _⟩)) ?_
  refine Free.tk 2 (some 22) ?_ (hy := by intro W hW; go_simp; try with_reducible rfl)
  refine Free.cl 3 (some 23) (v := .int .i64 0) st (fun W hW => (num_any 0 W).mono (fun e w' h => ⟨h.1, h.2 ▸ Below.refl _ _⟩)) ?_
  refine Free.tk 4 (some 24) (v := .int .i64 0) ?_ (hy := by intro W hW; go_simp; rfl)
  refine Free.tk 5 (some 25) (v := .bool false) ?_ (hy := by intro W hW; go_simp; try with_reducible rfl)
  refine Free.tk 6 (some 26) ?_ (hy := by intro W hW; go_simp; try with_reducible rfl)
  refine Free.tk 7 (some 27) ?_ (hy := by intro W hW; go_simp; try with_reducible rfl)
  refine Free.tk 8 (some 28) (v := .string s1) ?_ (hy := by intro W hW; have q1 := str_conv hW.b; rw [HS1.out.1] at q1; go_simp; try with_reducible rfl)
  refine Free.tk 9 (some 29) (v := .bool false) ?_ (hy := by intro W hW; have q1 := HS1.out.2; go_simp; try with_reducible rfl)
  refine Free.tk 10 (some 30) ?_ (hy := by intro W hW; go_simp; try with_reducible rfl)
  refine Free.tk 11 (some 31) ?_ (hy := by intro W hW; go_simp; try with_reducible rfl)
  refine Free.tk 12 (some 32) ?_ (hy := by intro W hW; go_simp; try with_reducible rfl)
  refine Free.tk 13 (some 33) ?_ (hy := by intro W hW; go_simp; try with_reducible rfl)
  refine Free.tk 14 (some 34) ?_ (hy := by intro W hW; go_simp; try with_reducible rfl)
  refine Free.tk 15 (some 35) ?_ (hy := by intro W hW; go_simp; try with_reducible rfl)
  refine Free.tk 16 (some 36) ?_ (hy := by intro W hW; go_simp; try with_reducible rfl)
  refine Free.tk 17 (some 37) ?_ (hy := by intro W hW; go_simp; try with_reducible rfl)
  refine Free.tk 18 (some 38) (v := .agg #[.int .i64 2, .int .i64 1, .int .i64 4, .slice ro 1 rc, .bool true, .int .i64 301]) ?_ (hy := by intro W hW; obtain ⟨q0, q1, q2, q3, q4, q5⟩ := hW.cells; go_simp; try with_reducible rfl)
  refine Free.one 19 (fun W5 hb5 hW5 => ?_)
  refine o_callb (some 39) (by go_simp; first | exact ⟨rfl, rfl⟩ | rfl) ?_
  refine (some_any _).mono ?_
  rintro e W6 ⟨rv2, rfl, hl6, hb6⟩
  refine ⟨_, rfl, st _ _ hW5 hb6, ?_⟩
  have hz5 := hb5.size
  have hB6 := HB4.out.trans ((hb5.trans (hb6.mono hz5)).mono HB4.out.size)
  clear hb5 hW5 hb6 hz5
  refine Free.one 20 (fun W7 hb7 hW7 => ?_)
  refine o_callb (some 40) (by go_simp; first | exact ⟨rfl, rfl⟩ | rfl) ?_
  refine (Same_any (l := workL) (m := workL) ⟨hW7.r, work_i⟩ (hl6.below hb7)).mono ?_
  rintro e W8 ⟨rfl, hb8⟩
  rw [decide_eq_true rfl]
  refine ⟨_, rfl, st _ _ hW7 hb8, ?_⟩
  have hz7 := hb7.size
  have hB8 := hB6.trans ((hb7.trans (hb8.mono hz7)).mono hB6.size)
  clear hb7 hW7 hb8 hz7 hB6 hl6
  refine Free.tk 21 (some 41) ?_ (hy := by intro W hW; go_simp; try with_reducible rfl)
  refine Free.tk 22 (some 42) ?_ (hy := by intro W hW; go_simp; try with_reducible rfl)
  refine Free.done (fun W9 hb9 hW9 => ?_)
  have HB9 := Lib.hid (hB8.trans (hb9.mono hB8.size))
  have HS9 := Lib.hid hW9
  clear hb9 hW9 hB8 hS HB4
  obtain ⟨vg, vp, hvg⟩ : ∃ g o, vo = some ⟨g, o, none⟩ := by
    obtain ⟨g1, o1, c1, y, e1, _⟩ := HS9.out.b.at_ (k := 0) (by simp)
    simp only [Value.slice.injEq] at e1
    exact ⟨g1, o1, e1.1⟩
  subst hvg
  have ht := rd_take HS9.out.b (n := 17) (by decide)
  have HT := Lib.hid (show Bs W9 (.slice (some ⟨vg, vp, none⟩) 17 vc) [80, 77, 68, 82, 2, 1, 4, 6, 3, 172, 2, 0, 104, 105, 3, 8, 1] from ht)
  have hvc : 18 ≤ vc := by
    obtain ⟨ao, c, e, h1, _⟩ := HS9.out.b.shape
    simp only [Value.slice.injEq] at e
    rw [e.2.2]
    exact h1
  have HC2 := Lib.hid (PDecode_any HT.out (by decide))
  clear ht
  go_wp2_with fail
  refine HC2.out.mono ?_
  rintro e W3 ⟨hb3, l, n, er, rv, rfl, hrs, hdc⟩
  obtain ⟨rfl, rfl, rfl⟩ : l = ⟨2, 1, 4, [⟨300, 3, 0, [104, 105]⟩], false, 0⟩ ∧ n = 14 ∧ er = 0 := by
    rcases hdc with h | ⟨h, _⟩
    · rw [work_cut] at h
      simp at h
      exact h
    · rw [work_cut] at h
      exact absurd h (by decide)
  obtain ⟨xo, xc, rfl, _, _⟩ := hrs.shape
  have HB3 := Lib.hid (belT HB9.out hb3)
  clear hb3 hrs hdc HC2 HT HS9 HB9
  simp only [lgc, List.length_cons, List.length_nil, Nat.reduceAdd]
  go_wp2_with fail
  refine (num_any _ _).mono ?_
  rintro e W5 ⟨rfl, rfl⟩
  have bw := bel1 W3 (.cells #[.int .i64 2, .int .i64 1, .int .i64 4, .slice xo 1 xc, .bool false, .int .i64 0] 26)
  have HB5 := Lib.hid (belT HB3.out bw)
  obtain ⟨q2, q4⟩ : (W3.alloc (.cells #[.int .i64 2, .int .i64 1, .int .i64 4, .slice xo 1 xc, .bool false, .int .i64 0] 26)).cell? ⟨W3.heap.size, 3, none⟩ = some (.slice xo 1 xc) ∧ (W3.alloc (.cells #[.int .i64 2, .int .i64 1, .int .i64 4, .slice xo 1 xc, .bool false, .int .i64 0] 26)).cell? ⟨W3.heap.size, 4, none⟩ = some (.bool false) := by
    have k := blk_new W3 #[.int .i64 2, .int .i64 1, .int .i64 4, .slice xo 1 xc, .bool false, .int .i64 0] 26
    exact ⟨k.cell 3, k.cell 4⟩
  clear bw HB3
  go_wp2
  go_ret
  exact ⟨rfl, HB5.out⟩
end Go.Proofs.Ytjffclcjijpmiaa.LG

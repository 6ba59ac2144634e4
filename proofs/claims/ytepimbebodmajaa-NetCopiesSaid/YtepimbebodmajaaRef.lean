/-
  Layer 9: the document's answers: Bytes, Queue, Push, Send, Take, Next, SameLists, Same: walks. Written by gen_ref.py.
-/
import Derived.Test.YtepimbebodmajaaPut
import Derived.Test.YtepimbebodmajaaList
namespace Go.Proofs.Ytepimbebodmajaa
open Go.RowKit
set_option maxHeartbeats 4000000
set_option linter.unusedVariables false
set_option linter.unusedSimpArgs false

/-- The document's zero net, as cells. -/
abbrev zR : Array Value := #[.slice none 0 0, .int .i64 0, .slice none 0 0]
theorem zR_ok : Ok1 3 zR := ⟨rfl, by simp [zR]; exact ⟨rfl, rfl, rfl⟩⟩
theorem Gs.rs {w : World} {v : Value} {l : List Pk} (hg : Gs 32 1 w v l.length (l.map Pk.v)) (hq : ∀ p ∈ l, NumsIn .u8 w p.v p.x) : RsIs w v l := by
  obtain ⟨ao, c, e, h2, h3⟩ := hg.shape
  refine ⟨?_, hq, h3⟩
  cases l with
  | nil =>
    cases ao with
    | none =>
      left
      refine ⟨?_, rfl⟩
      obtain ⟨_, ao', c', e', _, _, h5⟩ := hg
      rw [e] at e' ⊢
      simp at e'
      obtain ⟨rfl, rfl⟩ := e'
      rcases Nat.eq_zero_or_pos c with rfl | hc
      · rfl
      · obtain ⟨_, _, _, e2, _⟩ := h5 hc
        cases e2
    | some a => exact .inr ⟨a, c, e, h2, fun i p hi => by simp at hi⟩
  | cons p r =>
    obtain ⟨g, o, c', e', _⟩ := hg.cell (j := 0) (u := p.v) (by simp)
    rw [e] at e'
    simp at e'
    obtain ⟨rfl, rfl⟩ := e'
    refine .inr ⟨_, c, e, h2, fun i q hi => hg.read e i _ (by rw [List.getElem?_map, hi]; rfl)⟩
theorem RBytes_any {w : World} {v : Value} {l : List Pk} (h : RsIs w v l) (hb : tot (l.map Pk.x) ≤ 1000000000) : Calls Try.prog 33 #[v] w fun e w' => e = .returned (.int .i64 (tot (l.map Pk.x) : Int)) ∧ w = w' := by
  obtain ⟨o, c, rfl, _, hm, hat⟩ := h.form
  have HC := Lib.hid hat
  unfold maxLen at hm
  clear h hat
  go_enter Try.func33, Try.ntmps33
  go_wp2
  go_loopw [3, 4] (fun n q wr => ∃ k : Nat, k ≤ l.length ∧ n = .int .i64 ((tot ((l.map Pk.x).take k) : Nat) : Int) ∧ q = .int .i64 (k : Int) ∧ wr = w) (fun _ q _ => l.length + 1 - (intOf q).toNat)
  case atStart => exact ⟨0, by omega, rfl, rfl, rfl⟩
  case round =>
    obtain ⟨k, hk, rfl, rfl, rfl⟩ := hrel
    by_cases hlt : k < l.length
    · have hi : (k : Int) < (l.length : Int) := by omega
      obtain ⟨a, rfl, h1, hn⟩ := HC.out k _ (List.getElem?_eq_getElem hlt)
      obtain ⟨o2, c2, e2, _, hm2, _⟩ := hn.form
      rw [e2] at h1
      have hs := tot_take_succ (l := l.map Pk.x) (k := k) (x := l[k].x) (by rw [List.getElem?_map, List.getElem?_eq_getElem hlt]; rfl)
      have hle := tot_take_le (l.map Pk.x) (k + 1)
      have HS := Lib.hid hs
      generalize l[k].x = x at *
      generalize tot ((l.map Pk.x).take k) = t at *
      have hx : t + x.length ≤ 1000000000 := by omega
      clear e2 hn hs hle
      go_wp2
      go_roundw
      case rel => exact ⟨k + 1, by omega, by rw [HS.out]; simp, by go_num, by first | rfl | trivial⟩
      case measure => simp [intOf]; omega
    · obtain rfl : k = l.length := by omega
      have HE : Hid (tot ((l.map Pk.x).take l.length) = tot (l.map Pk.x)) := by
        show tot _ = _
        rw [List.take_of_length_le (by simp)]
      go_wp2
      go_ret
      refine ⟨?_, rfl⟩
      rw [← HE.out]
      first | (simp; done) | rfl
theorem Rf.cells {w : World} {R : Nat} {n : Nt} {cv sv : Value} (h : Rf 28 3 w R (rcL n cv sv)) : w.cell? ⟨R, 0, none⟩ = some cv ∧ w.cell? ⟨R, 1, none⟩ = some (.int .i64 (n.tk : Int)) ∧ w.cell? ⟨R, 2, none⟩ = some sv := by
  refine ⟨?_, ?_, ?_⟩ <;> (rw [h.blk.cell]; rfl)
theorem one_start (w : World) (c : Array Value) (hc : Ok1 3 c) : Rf 28 3 (w.alloc (.cells c 28)) w.heap.size c ∧ Below w.heap.size w (w.alloc (.cells c 28)) := ⟨hc.new _ _, (Below.refl _ _).alloc (Nat.le_refl _) _⟩
/-- What Queue gives. -/
def qv : Value → Nat → Value
  | .slice o n c, k => .slice (if c = k then o else o.map (·.add k)) (n - k) (c - k)
  | v, _ => v
theorem RsIs.cut {w : World} {v : Value} {l : List Pk} (h : RsIs w v l) {k : Nat} (hk : k ≤ l.length) : RsIs w (qv v k) (l.drop k) := by
  have hl : (l.drop k).length = l.length - k := by simp
  refine ⟨?_, fun p hp => h.q p (List.mem_of_mem_drop hp), by rw [hl]; have := h.len; omega⟩
  rcases h.r with ⟨rfl, rfl⟩ | ⟨a, c, rfl, h2, h4⟩
  · left
    simp at hk; subst hk
    simp [qv]
  · refine .inr ⟨if c = k then a else a.add k, c - k, ?_, by rw [hl]; omega, fun i p hi => ?_⟩
    · rw [hl]
      simp only [qv]
      by_cases e : c = k <;> simp [e]
    · have hil : i < l.length - k := by have := (List.getElem?_eq_some_iff.1 hi).1; rw [hl] at this; exact this
      rw [List.getElem?_drop] at hi
      rw [if_neg (by omega), Go.Deep.add_add]
      exact h4 (k + i) p hi
theorem RQueue_any {w : World} {n : Nt} {cv sv : Value} {cl sl : List Pk} (h : RvIs w n cv sv cl sl) (hk : n.tk ≤ n.cm.length) : Calls Try.prog 31 #[.agg (rcL n cv sv)] w fun e w' => e = .returned (qv cv n.tk) ∧ Below w.heap.size w w' := by
  obtain ⟨h1, hb⟩ := one_start w (rcL n cv sv) (h.ok n)
  have hkl : n.tk ≤ cl.length := by rw [h.clen]; exact hk
  obtain ⟨o, c, rfl, hn, hm, _⟩ := h.c.form
  obtain ⟨c0, c1, _⟩ := h1.cells
  have HB := Lib.hid hb
  have hk' : (n.tk : Int) ≤ (cl.length : Int) := by omega
  unfold maxLen at hm
  by_cases e : c = n.tk
  · have HE : Hid (qv (.slice o cl.length c) n.tk = .slice o 0 0) := by show qv _ _ = _; simp only [qv]; rw [if_pos e, e, Nat.sub_self, show cl.length - n.tk = 0 by omega]
    subst e
    clear h h1 hb
    go_enter Try.func31, Try.ntmps31
    go_wp2
    go_ret
    exact ⟨by rw [HE.out]; rfl, HB.out⟩
  · have HE : Hid (qv (.slice o cl.length c) n.tk = .slice (o.map (·.add n.tk)) (cl.length - n.tk) (c - n.tk)) := by show qv _ _ = _; simp only [qv]; rw [if_neg e]
    clear h h1 hb
    go_enter Try.func31, Try.ntmps31
    go_wp2
    go_ret
    exact ⟨by rw [HE.out]; rfl, HB.out⟩
/-- What a call of the document's makes; pv: what it was handed. -/
def RvC (w : World) (n : Nt) (G : Nat → Prop) (pv : Value) (c' : Array Value) (w' : World) : Prop := ∃ G', Rv w' n c' G' ∧ (∀ k, G' k → G k ∨ rdBlk pv = some k ∨ w.heap.size ≤ k) ∧ Below w.heap.size w w'
/-- The two boxes: the argument's, the result's. -/
structure Two (w : World) (c : Array Value) (W : World) : Prop where
  a : Rf 28 3 W w.heap.size c
  r : Rf 28 3 W (w.heap.size + 1) zR
  below : Below w.heap.size w W
theorem two_start (w : World) (c : Array Value) (hc : Ok1 3 c) : Two w c ((w.alloc (.cells c 28)).alloc (.cells zR 28)) := by
  refine ⟨(hc.new _ _).alloc _, ?_, ((Below.refl _ _).alloc (Nat.le_refl _) _).alloc (by simp) _⟩
  have := zR_ok.new 28 (w.alloc (.cells c 28))
  rw [World.size_alloc] at this
  exact this
theorem Two.set {w W : World} {c c' : Array Value} (h : Two w c W) (j : Nat) (v : Value) (e : c.setIfInBounds j v = c') (hc : Ok1 3 c') : Two w c' (W.setCell ⟨w.heap.size, j, none⟩ v) :=
  ⟨⟨by have := h.a.blk.setCell j v; rw [e] at this; exact this, hc.1, hc.2⟩, h.r.keep (Below.heap_setCell _ _ _ _ (by simp)), h.below.setCell (Nat.le_refl _) v⟩
theorem Two.after {w W W' : World} {c : Array Value} (h : Two w c W) (hb : Below W.heap.size W W') : Two w c W' := ⟨h.a.below hb, h.r.below hb, h.below.trans (hb.mono h.below.size)⟩
theorem Two.ans {w W : World} {c : Array Value} (h : Two w c W) (c' : Array Value) : Below w.heap.size w (W.setRow (w.heap.size + 1) c') := below_setRow h.below (by omega) c'
theorem rvc_same {w w' : World} {n : Nt} {cv sv : Value} {cl sl : List Pk} (h : RvIs w n cv sv cl sl) (hb : Below w.heap.size w w') (pv : Value) : RvC w n (rvG cv sv cl sl) pv (rcL n cv sv) w' := ⟨_, ⟨cv, sv, cl, sl, rfl, rfl, h.below hb⟩, fun k hk => .inl hk, hb⟩
/-- Two appends: a fresh copy of a list, and one behind. -/
structure App (w : World) (l : List Pk) (pv : Value) (p : List Int) (v : Value) (W : World) : Prop where
  g : Gs 32 1 W v (l.length + 1) (l.map Pk.v ++ [pv])
  lo : ∀ k, blkOf v = some k → w.heap.size + 1 + 1 ≤ k
theorem rc_end {w W : World} {n : Nt} {o o3 : Option Addr} {c c3 : Nat} {sv pv : Value} {cl sl : List Pk} {p : List Int} (h : RvIs w n (.slice o cl.length c) sv cl sl) (hp : NumsIn .u8 w pv p) (h7 : Two w (rcL n (.slice o cl.length c) sv) W)
    (hg : Gs 32 1 W (.slice o3 (cl.length + 1) c3) (cl.length + 1) (cl.map Pk.v ++ [pv])) (hlo : ∀ k, blkOf (.slice o3 (cl.length + 1) c3) = some k → w.heap.size + 1 + 1 ≤ k) (c' : Array Value := rcL { n with cm := n.cm ++ [p] } (.slice o3 (cl.length + 1) c3) sv) :
    RvC w { n with cm := n.cm ++ [p] } (rvG (.slice o cl.length c) sv cl sl) pv (rcL { n with cm := n.cm ++ [p] } (.slice o3 (cl.length + 1) c3) sv) ((W.setCell ⟨w.heap.size, 0, none⟩ (.slice o3 (cl.length + 1) c3)).setRow (w.heap.size + 1) (rcL { n with cm := n.cm ++ [p] } (.slice o3 (cl.length + 1) c3) sv)) := by
  have hb : Below w.heap.size w ((W.setCell ⟨w.heap.size, 0, none⟩ (.slice o3 (cl.length + 1) c3)).setRow (w.heap.size + 1) (rcL { n with cm := n.cm ++ [p] } (.slice o3 (cl.length + 1) c3) sv)) := below_setRow (h7.below.setCell (Nat.le_refl _) _) (by omega) _
  have hg' := hg.keep (w' := (W.setCell ⟨w.heap.size, 0, none⟩ (.slice o3 (cl.length + 1) c3)).setRow (w.heap.size + 1) (rcL { n with cm := n.cm ++ [p] } (.slice o3 (cl.length + 1) c3) sv)) (fun k hk => by
    have := hlo k hk
    exact (setRow_other _ _ k _ (by omega)).trans (Below.heap_setCell _ _ _ _ (by simp; omega)))
  have h2 := h.below hb
  have hrs : RsIs _ (.slice o3 (cl.length + 1) c3) (cl ++ [(⟨pv, 0, p⟩ : Pk)]) := Gs.rs (by rw [List.length_append, List.map_append]; exact hg') (fun q hq => by
    rcases List.mem_append.1 hq with e | e
    · exact h2.c.q q e
    · simp at e; subst e; exact hp.below hb)
  refine ⟨_, ⟨_, sv, _, sl, rfl, rfl, hrs, h2.s, by rw [List.map_append, h.cx]; rfl, h.sx⟩, ?_, hb⟩
  rintro k ((e | ⟨q, hq, e⟩) | e)
  · right; right
    have hk : blkOf (.slice o3 (cl.length + 1) c3) = some k := by
      cases o3 with
      | none => simp [rdBlk] at e
      | some a =>
        simp [rdBlk] at e
        obtain ⟨_, _, c9, e9, h9, _⟩ := hg
        simp at e9
        simp [blkOf]
        exact ⟨by omega, e⟩
    have := hlo k hk; omega
  · rcases List.mem_append.1 hq with e' | e'
    · exact .inl (.inl (.inr ⟨q, e', e⟩))
    · simp at e'; subst e'; exact .inr (.inl e)
  · exact .inl (.inr e)
theorem rs_end {w W : World} {n : Nt} {o o3 : Option Addr} {c c3 : Nat} {cv pv : Value} {cl sl : List Pk} {p : List Int} (h : RvIs w n cv (.slice o sl.length c) cl sl) (hp : NumsIn .u8 w pv p) (h7 : Two w (rcL n cv (.slice o sl.length c)) W)
    (hg : Gs 32 1 W (.slice o3 (sl.length + 1) c3) (sl.length + 1) (sl.map Pk.v ++ [pv])) (hlo : ∀ k, blkOf (.slice o3 (sl.length + 1) c3) = some k → w.heap.size + 1 + 1 ≤ k) (c' : Array Value := rcL { n with sn := n.sn ++ [p] } cv (.slice o3 (sl.length + 1) c3)) :
    RvC w { n with sn := n.sn ++ [p] } (rvG cv (.slice o sl.length c) cl sl) pv (rcL { n with sn := n.sn ++ [p] } cv (.slice o3 (sl.length + 1) c3)) ((W.setCell ⟨w.heap.size, 2, none⟩ (.slice o3 (sl.length + 1) c3)).setRow (w.heap.size + 1) (rcL { n with sn := n.sn ++ [p] } cv (.slice o3 (sl.length + 1) c3))) := by
  have hb : Below w.heap.size w ((W.setCell ⟨w.heap.size, 2, none⟩ (.slice o3 (sl.length + 1) c3)).setRow (w.heap.size + 1) (rcL { n with sn := n.sn ++ [p] } cv (.slice o3 (sl.length + 1) c3))) := below_setRow (h7.below.setCell (Nat.le_refl _) _) (by omega) _
  have hg' := hg.keep (w' := (W.setCell ⟨w.heap.size, 2, none⟩ (.slice o3 (sl.length + 1) c3)).setRow (w.heap.size + 1) (rcL { n with sn := n.sn ++ [p] } cv (.slice o3 (sl.length + 1) c3))) (fun k hk => by
    have := hlo k hk
    exact (setRow_other _ _ k _ (by omega)).trans (Below.heap_setCell _ _ _ _ (by simp; omega)))
  have h2 := h.below hb
  have hrs : RsIs _ (.slice o3 (sl.length + 1) c3) (sl ++ [(⟨pv, 0, p⟩ : Pk)]) := Gs.rs (by rw [List.length_append, List.map_append]; exact hg') (fun q hq => by
    rcases List.mem_append.1 hq with e | e
    · exact h2.s.q q e
    · simp at e; subst e; exact hp.below hb)
  refine ⟨_, ⟨cv, _, cl, _, rfl, rfl, h2.c, hrs, h.cx, by rw [List.map_append, h.sx]; rfl⟩, ?_, hb⟩
  rintro k (e | (e | ⟨q, hq, e⟩))
  · exact .inl (.inl e)
  · right; right
    have hk : blkOf (.slice o3 (sl.length + 1) c3) = some k := by
      cases o3 with
      | none => simp [rdBlk] at e
      | some a =>
        simp [rdBlk] at e
        obtain ⟨_, _, c9, e9, h9, _⟩ := hg
        simp at e9
        simp [blkOf]
        exact ⟨by omega, e⟩
    have := hlo k hk; omega
  · rcases List.mem_append.1 hq with e' | e'
    · exact .inl (.inr (.inr ⟨q, e', e⟩))
    · simp at e'; subst e'; exact .inr (.inl e)
set_option maxRecDepth 100000 in
theorem RPush_any {w : World} {n : Nt} {cv sv : Value} {cl sl : List Pk} (h : RvIs w n cv sv cl sl) (hok : n.Ok) (hsz : n.sz ≤ 90000) (pv : Value) (p : List Int) (hp : NumsIn .u8 w pv p) :
    Calls Try.prog 27 #[.agg (rcL n cv sv), pv] w fun e w' => ∃ c', e = .returned (.tuple #[.agg c', .int .i64 (n.pushN p : Int), .int .i64 (n.pushE p)]) ∧ RvC w (n.pushed p) (rvG cv sv cl sl) pv c' w' := by
  have H2 := Lib.hid (two_start w (rcL n cv sv) (h.ok n))
  have HI := Lib.hid h
  have HP := Lib.hid hp
  have hll0 := h.clen
  have htb := hok.totc
  have HXX := Lib.hid h.cx
  have htk := hok.tk
  have hwl := hok.wt_len
  unfold Nt.sz at hsz
  have hll : cl.length ≤ 90000 := by omega
  clear hll0
  obtain ⟨po, pc, rfl, _, hpm, _⟩ := hp.form
  unfold maxLen at hpm
  have hqv : ∃ o1 c1, qv cv n.tk = .slice o1 n.wt.length c1 := by
    obtain ⟨o1, c1, e, _⟩ := (h.c.cut (by rw [h.clen]; exact hok.tk : n.tk ≤ cl.length)).form
    refine ⟨o1, c1, ?_⟩
    rw [e, List.length_drop, h.clen, ← hwl, Nat.add_sub_cancel]
  obtain ⟨o1, c1, hqv⟩ := hqv
  have HQ := Lib.hid (RQueue_any (h.below H2.out.below) hok.tk)
  rw [hqv] at HQ
  obtain ⟨o, c, rfl, hn, hm0, _⟩ := h.c.form
  by_cases hm : n.mayP p
  · have E1 : Hid (n.pushed p = { n with cm := n.cm ++ [p] }) := if_pos hm
    have E2 : Hid (n.pushN p = tot n.cm) := if_pos hm
    have E3 : Hid (n.pushE p = 0) := if_pos hm
    have g1 : ¬ (64 : Int) < (p.length : Int) := by have := hm.1; omega
    have g2 : ¬ (256 : Int) ≤ (n.wt.length : Int) := by have := hm.2; omega
    clear h hok hp hm hqv hwl htk
    go_enter Try.func27, Try.ntmps27
    go_wp2_with ((with_reducible apply wp_load_Rg); (kernel_rfl); (exact rowR); (exact H2.out.a); (rfl))
    refine HQ.out.mono ?_
    rintro e w1 ⟨rfl, hb1⟩
    have H3 := Lib.hid (H2.out.after hb1)
    clear hb1 H2 HQ
    have hI3 := HI.out.below H3.out.below
    have HBy := Lib.hid (RBytes_any hI3.c (by rw [HXX.out]; omega))
    rw [HXX.out] at HBy
    obtain ⟨d0, d1, d2⟩ := H3.out.a.cells
    clear hI3
    go_wp2_with fail
    refine HBy.out.mono ?_
    rintro e w2 ⟨rfl, rfl⟩
    clear HBy
    have hba : Below w1.heap.size w1 (w1.alloc (.cells #[] 32)) := (Below.refl _ _).alloc (Nat.le_refl _) _
    have H4 := Lib.hid (H3.out.after hba)
    have HSr := Lib.hid ((HI.out.below H4.out.below).c.src)
    have hz1 : w.heap.size + 1 < w1.heap.size := H3.out.r.lt
    have HG0 := Lib.hid (Gs.empty 32 1 (w1.alloc (.cells #[] 32)) (some ⟨w1.heap.size, 0, none⟩))
    clear d0 d1 d2 hba
    obtain ⟨d0, d1, d2⟩ := H4.out.a.cells
    generalize tot n.cm = T at *
    go_wp2_with (at_builtin; refine wp_append_g rfl _ _ rfl Try.underlying26 infoBs rfl (by omega) (by omega) rfl rfl HG0.out HSr.out (by omega) ?_)
    intro v3 w3 hg3 ht3 hn3
    have hz1a : (w1.alloc (.cells #[] 32)).heap.size = w1.heap.size + 1 := by simp
    have hlo3 : ∀ k, blkOf v3 = some k → w1.heap.size ≤ k := fun k hk => by
      rcases hn3 k hk with e | e
      · simp [blkOf] at e
      · omega
    have hb3 : Below w1.heap.size (w1.alloc (.cells #[] 32)) w3 := ht3.below (by omega) (fun k e => by simp [blkOf] at e)
    have hb3' : Below (w1.alloc (.cells #[] 32)).heap.size (w1.alloc (.cells #[] 32)) w3 := ht3.below (Nat.le_refl _) (fun k e => by simp [blkOf] at e)
    have H5 := Lib.hid (H4.out.after hb3')
    have hz3 := hb3'.size
    have HLo := Lib.hid hlo3
    have hg3' : Gs 32 1 w3 v3 cl.length (cl.map Pk.v) := by simpa using hg3
    have HG3 := Lib.hid (hg3'.below ((Below.refl w3.heap.size w3).alloc (Nat.le_refl _) (.cells #[.slice po p.length pc] 32)))
    have HS2 := Lib.hid (sl_src w3 (.slice po p.length pc) rfl)
    obtain ⟨o3, c3, hv3, _⟩ := hg3'.shape
    subst hv3
    clear hg3 hg3' ht3 hn3 hb3 hb3' hlo3 HSr HG0 d0 d1 d2 H4 H3
    go_wp2_with (at_builtin; refine wp_append_g rfl _ _ rfl Try.underlying26 infoBs rfl (by omega) (by omega) rfl rfl HG3.out HS2.out (by omega) ?_)
    intro v4 w4 hg4 ht4 hn4
    have hlo := HLo.out
    have hb4 : Below w3.heap.size w3 (w3.alloc (.cells #[.slice po p.length pc] 32)) := (Below.refl _ _).alloc (Nat.le_refl _) _
    have h6 := H5.out.after hb4
    have hlo4 : ∀ k, blkOf v4 = some k → w.heap.size + 1 + 1 ≤ k := fun k hk => by
      rcases hn4 k hk with e | e
      · have := hlo k e; omega
      · first | omega | (simp at e; omega)
    have h7 : Two w (rcL n (.slice o cl.length c) sv) w4 := ⟨h6.a.turned ht4 (fun e => by have := hlo _ e; omega), h6.r.turned ht4 (fun e => by have := hlo _ e; omega), h6.below.trans (ht4.below h6.below.size (fun k e => by have := hlo k e; omega))⟩
    obtain ⟨o3, c3, hv4, _⟩ := hg4.shape
    subst hv4
    have ho8 : Ok1 3 (rcL { n with cm := n.cm ++ [p] } (.slice o3 (cl.length + 1) c3) sv) := ⟨rfl, by have := HI.out.ok n; simp [rcL, HI.out.c.one, HI.out.s.one]; first | done | rfl | exact ⟨rfl, rfl⟩⟩
    have H8 := Lib.hid (h7.set 0 (.slice o3 (cl.length + 1) c3) (c' := (rcL { n with cm := n.cm ++ [p] } (.slice o3 (cl.length + 1) c3) sv)) rfl ho8)
    have HC := Lib.hid (show Rf 28 3 _ (w.heap.size + 1) zR ∧ Ok1 3 (rcL { n with cm := n.cm ++ [p] } (.slice o3 (cl.length + 1) c3) sv) from ⟨H8.out.r, ho8⟩)
    obtain ⟨d0, d1, d2⟩ := h7.a.cells
    have f0 := h7.a.blk.frozen 0
    have HE := Lib.hid (rc_end (pv := .slice po p.length pc) (p := p) HI.out HP.out h7 hg4 hlo4)
    clear hg4 ht4 hn4 hlo hb4 h6 hlo4 h7 ho8 HLo HG3 HS2 H5
    go_wp2_with (first | ((with_reducible apply wp_load_R rowR); (exact H8.out.a); (rfl)) | ((with_reducible apply wp_store_R _ rowR); (exact HC.out); (rfl); (rfl)))
    refine bodyPost_ret (res_R_tmp2 rowR (fn := Try.f27) rfl _ (HC.out.1.set HC.out.2) rfl) rfl ⟨(rcL { n with cm := n.cm ++ [p] } (.slice o3 (cl.length + 1) c3) sv), ?_, ?_⟩
    · rw [E2.out, E3.out]; rfl
    · rw [E1.out]; exact HE.out
  · have E1 : Hid (n.pushed p = n) := if_neg hm
    have E2 : Hid (n.pushN p = 0) := if_neg hm
    have E3 : Hid (n.pushE p = 3) := if_neg hm
    by_cases g1 : (64 : Int) < (p.length : Int)
    · clear h hok hp hm hqv hwl htk
      have H3 := Lib.hid H2.out
      go_enter Try.func27, Try.ntmps27
      have HC := Lib.hid (show Rf 28 3 _ (w.heap.size + 1) zR ∧ Ok1 3 (rcL n (.slice o cl.length c) sv) from ⟨H3.out.r, HI.out.ok n⟩)
      go_wp2_with (first | ((with_reducible apply wp_load_R rowR); (exact H3.out.a); (rfl)) | ((with_reducible apply wp_store_R _ rowR); (exact HC.out); (rfl); (rfl)))
      refine bodyPost_ret (res_R_tmp2 rowR (fn := Try.f27) rfl _ (HC.out.1.set HC.out.2) rfl) rfl ⟨(rcL n (.slice o cl.length c) sv), ?_, ?_⟩
      · rw [E2.out, E3.out]; rfl
      · rw [E1.out]; exact rvc_same HI.out (H3.out.ans _) _
    · have g2 : (256 : Int) ≤ (n.wt.length : Int) := by
        have : ¬ n.wt.length < 256 := fun e => hm ⟨by omega, e⟩
        omega
      clear h hok hp hm hqv hwl htk
      go_enter Try.func27, Try.ntmps27
      go_wp2_with ((with_reducible apply wp_load_Rg); (kernel_rfl); (exact rowR); (exact H2.out.a); (rfl))
      refine HQ.out.mono ?_
      rintro e w1 ⟨rfl, hb1⟩
      have H3 := Lib.hid (H2.out.after hb1)
      clear hb1 H2 HQ
      have HC := Lib.hid (show Rf 28 3 _ (w.heap.size + 1) zR ∧ Ok1 3 (rcL n (.slice o cl.length c) sv) from ⟨H3.out.r, HI.out.ok n⟩)
      go_wp2_with (first | ((with_reducible apply wp_load_R rowR); (exact H3.out.a); (rfl)) | ((with_reducible apply wp_store_R _ rowR); (exact HC.out); (rfl); (rfl)))
      refine bodyPost_ret (res_R_tmp2 rowR (fn := Try.f27) rfl _ (HC.out.1.set HC.out.2) rfl) rfl ⟨(rcL n (.slice o cl.length c) sv), ?_, ?_⟩
      · rw [E2.out, E3.out]; rfl
      · rw [E1.out]; exact rvc_same HI.out (H3.out.ans _) _
set_option maxRecDepth 100000 in
theorem RSend_any {w : World} {n : Nt} {cv sv : Value} {cl sl : List Pk} (h : RvIs w n cv sv cl sl) (hok : n.Ok) (hsz : n.sz ≤ 90000) (pv : Value) (p : List Int) (hp : NumsIn .u8 w pv p) :
    Calls Try.prog 29 #[.agg (rcL n cv sv), pv] w fun e w' => ∃ c', e = .returned (.tuple #[.agg c', .int .i64 (n.sendN p : Int), .int .i64 (Nt.sendE p)]) ∧ RvC w (n.sent p) (rvG cv sv cl sl) pv c' w' := by
  have H2 := Lib.hid (two_start w (rcL n cv sv) (h.ok n))
  have HI := Lib.hid h
  have HP := Lib.hid hp
  have hll0 := h.slen
  have htb := hok.tots
  have HXX := Lib.hid h.sx
  have htk := hok.tk
  have hwl := hok.wt_len
  unfold Nt.sz at hsz
  have hll : sl.length ≤ 90000 := by omega
  clear hll0
  obtain ⟨po, pc, rfl, _, hpm, _⟩ := hp.form
  unfold maxLen at hpm
  obtain ⟨o, c, rfl, hn, hm0, _⟩ := h.s.form
  by_cases hm : p.length ≤ 64
  · have E1 : Hid (n.sent p = { n with sn := n.sn ++ [p] }) := if_pos hm
    have E2 : Hid (n.sendN p = tot n.sn) := if_pos hm
    have E3 : Hid (Nt.sendE p = 0) := if_pos hm
    have g1 : ¬ (64 : Int) < (p.length : Int) := by have := hm; omega
    clear h hok hp hm hwl htk
    go_enter Try.func29, Try.ntmps29
    have H3 := Lib.hid H2.out
    clear H2
    have hI3 := HI.out.below H3.out.below
    have HBy := Lib.hid (RBytes_any hI3.s (by rw [HXX.out]; omega))
    rw [HXX.out] at HBy
    obtain ⟨d0, d1, d2⟩ := H3.out.a.cells
    clear hI3
    go_wp2_with fail
    refine HBy.out.mono ?_
    rintro e w1 ⟨rfl, hw1⟩
    rw [hw1] at H3
    clear hw1
    clear HBy
    have hba : Below w1.heap.size w1 (w1.alloc (.cells #[] 32)) := (Below.refl _ _).alloc (Nat.le_refl _) _
    have H4 := Lib.hid (H3.out.after hba)
    have HSr := Lib.hid ((HI.out.below H4.out.below).s.src)
    have hz1 : w.heap.size + 1 < w1.heap.size := H3.out.r.lt
    have HG0 := Lib.hid (Gs.empty 32 1 (w1.alloc (.cells #[] 32)) (some ⟨w1.heap.size, 0, none⟩))
    clear d0 d1 d2 hba
    obtain ⟨d0, d1, d2⟩ := H4.out.a.cells
    generalize tot n.sn = T at *
    go_wp2_with (at_builtin; refine wp_append_g rfl _ _ rfl Try.underlying26 infoBs rfl (by omega) (by omega) rfl rfl HG0.out HSr.out (by omega) ?_)
    intro v3 w3 hg3 ht3 hn3
    have hz1a : (w1.alloc (.cells #[] 32)).heap.size = w1.heap.size + 1 := by simp
    have hlo3 : ∀ k, blkOf v3 = some k → w1.heap.size ≤ k := fun k hk => by
      rcases hn3 k hk with e | e
      · simp [blkOf] at e
      · omega
    have hb3 : Below w1.heap.size (w1.alloc (.cells #[] 32)) w3 := ht3.below (by omega) (fun k e => by simp [blkOf] at e)
    have hb3' : Below (w1.alloc (.cells #[] 32)).heap.size (w1.alloc (.cells #[] 32)) w3 := ht3.below (Nat.le_refl _) (fun k e => by simp [blkOf] at e)
    have H5 := Lib.hid (H4.out.after hb3')
    have hz3 := hb3'.size
    have HLo := Lib.hid hlo3
    have hg3' : Gs 32 1 w3 v3 sl.length (sl.map Pk.v) := by simpa using hg3
    have HG3 := Lib.hid (hg3'.below ((Below.refl w3.heap.size w3).alloc (Nat.le_refl _) (.cells #[.slice po p.length pc] 32)))
    have HS2 := Lib.hid (sl_src w3 (.slice po p.length pc) rfl)
    obtain ⟨o3, c3, hv3, _⟩ := hg3'.shape
    subst hv3
    clear hg3 hg3' ht3 hn3 hb3 hb3' hlo3 HSr HG0 d0 d1 d2 H4 H3
    go_wp2_with (at_builtin; refine wp_append_g rfl _ _ rfl Try.underlying26 infoBs rfl (by omega) (by omega) rfl rfl HG3.out HS2.out (by omega) ?_)
    intro v4 w4 hg4 ht4 hn4
    have hlo := HLo.out
    have hb4 : Below w3.heap.size w3 (w3.alloc (.cells #[.slice po p.length pc] 32)) := (Below.refl _ _).alloc (Nat.le_refl _) _
    have h6 := H5.out.after hb4
    have hlo4 : ∀ k, blkOf v4 = some k → w.heap.size + 1 + 1 ≤ k := fun k hk => by
      rcases hn4 k hk with e | e
      · have := hlo k e; omega
      · first | omega | (simp at e; omega)
    have h7 : Two w (rcL n cv (.slice o sl.length c)) w4 := ⟨h6.a.turned ht4 (fun e => by have := hlo _ e; omega), h6.r.turned ht4 (fun e => by have := hlo _ e; omega), h6.below.trans (ht4.below h6.below.size (fun k e => by have := hlo k e; omega))⟩
    obtain ⟨o3, c3, hv4, _⟩ := hg4.shape
    subst hv4
    have ho8 : Ok1 3 (rcL { n with sn := n.sn ++ [p] } cv (.slice o3 (sl.length + 1) c3)) := ⟨rfl, by have := HI.out.ok n; simp [rcL, HI.out.c.one, HI.out.s.one]; first | done | rfl | exact ⟨rfl, rfl⟩⟩
    have H8 := Lib.hid (h7.set 2 (.slice o3 (sl.length + 1) c3) (c' := (rcL { n with sn := n.sn ++ [p] } cv (.slice o3 (sl.length + 1) c3))) rfl ho8)
    have HC := Lib.hid (show Rf 28 3 _ (w.heap.size + 1) zR ∧ Ok1 3 (rcL { n with sn := n.sn ++ [p] } cv (.slice o3 (sl.length + 1) c3)) from ⟨H8.out.r, ho8⟩)
    obtain ⟨d0, d1, d2⟩ := h7.a.cells
    have f0 := h7.a.blk.frozen 2
    have HE := Lib.hid (rs_end (pv := .slice po p.length pc) (p := p) HI.out HP.out h7 hg4 hlo4)
    clear hg4 ht4 hn4 hlo hb4 h6 hlo4 h7 ho8 HLo HG3 HS2 H5
    go_wp2_with (first | ((with_reducible apply wp_load_R rowR); (exact H8.out.a); (rfl)) | ((with_reducible apply wp_store_R _ rowR); (exact HC.out); (rfl); (rfl)))
    refine bodyPost_ret (res_R_tmp2 rowR (fn := Try.f29) rfl _ (HC.out.1.set HC.out.2) rfl) rfl ⟨(rcL { n with sn := n.sn ++ [p] } cv (.slice o3 (sl.length + 1) c3)), ?_, ?_⟩
    · rw [E2.out, E3.out]; rfl
    · rw [E1.out]; exact HE.out
  · have E1 : Hid (n.sent p = n) := if_neg hm
    have E2 : Hid (n.sendN p = 0) := if_neg hm
    have E3 : Hid (Nt.sendE p = 3) := if_neg hm
    have g1 : (64 : Int) < (p.length : Int) := by omega
    clear h hok hp hm hwl htk
    have H3 := Lib.hid H2.out
    go_enter Try.func29, Try.ntmps29
    have HC := Lib.hid (show Rf 28 3 _ (w.heap.size + 1) zR ∧ Ok1 3 (rcL n cv (.slice o sl.length c)) from ⟨H3.out.r, HI.out.ok n⟩)
    go_wp2_with (first | ((with_reducible apply wp_load_R rowR); (exact H3.out.a); (rfl)) | ((with_reducible apply wp_store_R _ rowR); (exact HC.out); (rfl); (rfl)))
    refine bodyPost_ret (res_R_tmp2 rowR (fn := Try.f29) rfl _ (HC.out.1.set HC.out.2) rfl) rfl ⟨(rcL n cv (.slice o sl.length c)), ?_, ?_⟩
    · rw [E2.out, E3.out]; rfl
    · rw [E1.out]; exact rvc_same HI.out (H3.out.ans _) _

theorem RTake_any {w : World} {n : Nt} {cv sv : Value} {cl sl : List Pk} (h : RvIs w n cv sv cl sl) (hok : n.Ok) (hsz : n.sz ≤ 90000) :
    Calls Try.prog 28 #[.agg (rcL n cv sv)] w fun e w' => ∃ c', e = .returned (.tuple #[.agg c', .bool n.takeY]) ∧ RvC w n.took (rvG cv sv cl sl) (.slice none 0 0) c' w' := by
  have H2 := Lib.hid (two_start w (rcL n cv sv) (h.ok n))
  have HI := Lib.hid h
  have hcl := h.clen
  obtain ⟨o, c, rfl, hn, hm, _⟩ := h.c.form
  obtain ⟨c0, c1, _⟩ := H2.out.a.cells
  have f1 := H2.out.a.blk.frozen 1
  have htk := hok.tk
  unfold Nt.sz at hsz
  by_cases hlt : n.tk < n.cm.length
  · have E1 : Hid (n.took = { n with tk := n.tk + 1 }) := if_pos hlt
    have E2 : Hid (n.takeY = true) := decide_eq_true hlt
    have H3 := Lib.hid (two_start w (rcL { n with tk := n.tk + 1 } (.slice o cl.length c) sv) (h.ok _))
    have hne : ¬ (n.tk : Int) = (cl.length : Int) := by omega
    have HC := Lib.hid (show Rf 28 3 _ (w.heap.size + 1) zR ∧ Ok1 3 (rcL { n with tk := n.tk + 1 } (.slice o cl.length c) sv) from ⟨H3.out.r, h.ok _⟩)
    clear h hok hcl
    go_enter Try.func28, Try.ntmps28
    go_wp2_with (first | ((with_reducible apply wp_load_R rowR); (exact H3.out.a); (rfl)) | ((with_reducible apply wp_store_R _ rowR); (exact HC.out); (rfl); (rfl)))
    refine bodyPost_ret (res_R_tmp rowR (fn := Try.f28) rfl _ (HC.out.1.set HC.out.2) rfl) rfl ⟨_, by rw [E2.out]; rfl, ?_⟩
    rw [E1.out]
    exact ⟨_, ⟨_, sv, cl, sl, rfl, rfl, (HI.out.below (H3.out.ans _)).c, (HI.out.below (H3.out.ans _)).s, HI.out.cx, HI.out.sx⟩, fun k hk => .inl hk, H3.out.ans _⟩
  · have E1 : Hid (n.took = n) := if_neg hlt
    have E2 : Hid (n.takeY = false) := decide_eq_false hlt
    have hl : cl.length = n.tk := by omega
    rw [hl] at H2 HI c0 c1 f1 h ⊢
    have HC := Lib.hid (show Rf 28 3 _ (w.heap.size + 1) zR ∧ Ok1 3 (rcL n (.slice o n.tk c) sv) from ⟨H2.out.r, h.ok _⟩)
    clear h hok hcl hl
    go_enter Try.func28, Try.ntmps28
    go_wp2_with (first | ((with_reducible apply wp_load_R rowR); (exact H2.out.a); (rfl)) | ((with_reducible apply wp_store_R _ rowR); (exact HC.out); (rfl); (rfl)))
    refine bodyPost_ret (res_R_tmp rowR (fn := Try.f28) rfl _ (HC.out.1.set HC.out.2) rfl) rfl ⟨_, by rw [E2.out]; rfl, ?_⟩
    rw [E1.out]
    exact rvc_same HI.out (H2.out.ans _) _
structure RnI (w : World) (n : Nt) (cv sv : Value) (cl sl : List Pk) (W : World) : Prop where
  a : Rf 28 3 W w.heap.size (rcL n cv sv)
  r : RvIs W n cv sv cl sl
  below : Below w.heap.size w W
set_option maxRecDepth 100000 in
theorem RNext_any {w : World} {n : Nt} {cv sv : Value} {cl sl : List Pk} (h : RvIs w n cv sv cl sl) (hok : n.Ok) (hsz : n.sz ≤ 90000) :
    Calls Try.prog 30 #[.agg (rcL n cv sv)] w fun e w' => ∃ v, e = .returned (.tuple #[v, .int .i64 (n.nextN : Int), .bool n.takeY]) ∧ NumsIn .u8 w' v n.nextB ∧ Below w.heap.size w w' := by
  obtain ⟨h1, hb⟩ := one_start w (rcL n cv sv) (h.ok n)
  have hcl := h.clen
  have hcx := h.cx
  obtain ⟨o, c, rfl, hn, hm, hat⟩ := h.c.form
  obtain ⟨c0, c1, _⟩ := h1.cells
  have htk := hok.tk
  have htc := hok.totc
  unfold Nt.sz at hsz
  unfold maxLen at hm
  by_cases hlt : n.tk < n.cm.length
  · have hltc : n.tk < cl.length := by omega
    have E2 : Hid (n.takeY = true) := decide_eq_true hlt
    have E3 : Hid (n.nextN = tot (n.cm.take n.tk)) := if_pos hlt
    obtain ⟨a, rfl, hca, hna⟩ := hat n.tk _ (List.getElem?_eq_getElem hltc)
    have hx : cl[n.tk].x = n.nextB := by
      unfold Nt.nextB
      rw [← hcx, List.getElem?_map, List.getElem?_eq_getElem hltc]; rfl
    obtain ⟨o2, c2, e2, -⟩ := hna.form
    have HCA := Lib.hid (fun W (hW : RnI w n (.slice (some a) cl.length c) sv cl sl W) => (show W.cell? (a.add n.tk) = some (.slice o2 cl[n.tk].x.length c2) ∧ NumsIn .u8 W (.slice o2 cl[n.tk].x.length c2) cl[n.tk].x from by
      obtain ⟨o', c', e', _, _, hat'⟩ := hW.r.c.form
      simp at e'
      obtain ⟨rfl, rfl⟩ := e'
      obtain ⟨a', e'', h1', h2'⟩ := hat' n.tk _ (List.getElem?_eq_getElem hltc)
      cases e''
      rw [e2] at h1' h2'
      exact ⟨h1', h2'⟩))
    rw [hx] at HCA
    have hT : tot ((cl.take n.tk).map Pk.x) = tot (n.cm.take n.tk) := by rw [List.map_take, hcx]
    have htl := tot_take_le n.cm n.tk
    have HBy := Lib.hid (fun W (hW : RnI w n (.slice (some a) cl.length c) sv cl sl W) => RBytes_any (hW.r.c.mem_take rfl (by omega : n.tk ≤ cl.length)) (by rw [hT]; omega))
    rw [hT] at HBy
    have HK := Lib.hid (show RnI w n (.slice (some a) cl.length c) sv cl sl (w.alloc (.cells (rcL n (.slice (some a) cl.length c) sv) 28)).drew from ⟨h1.drew, h.below hb.drew, hb.drew⟩)
    have hne : ¬ (n.tk : Int) = (cl.length : Int) := by omega
    have hi : (n.tk : Int) < (cl.length : Int) := by omega
    have hle : n.tk ≤ c := by omega
    clear h hok hcl hcx h1 hb hat hca hna e2 hx hT hlt hltc htc htl
    generalize n.nextB = nb at *
    generalize tot (n.cm.take n.tk) = tt at *
    go_enter Try.func30, Try.ntmps30
    go_wp2
    have hK0 := HK.out
    refine wp_region_held_drew (S := RnI w n (.slice (some a) cl.length c) sv cl sl) (by kernel_rfl) hK0 (fun _ => ?_)
    have hS := hK0
    refine take_d (i := 0) (d := some 11) (v := ?_) rfl rfl (by kernel_rfl) (by kernel_rfl) (by kernel_rfl) (fun _ _ _ h => h) (.inl ⟨by rfl, ?_⟩) hS ?_
    rotate_left
    · intro W hW
      go_simp
      try with_reducible rfl
    try simp only [Act.put, List.setIfInBounds_toArray, List.set_cons_zero, List.set_cons_succ]
    refine take_d (i := 1) (d := some 12) (v := ?_) rfl rfl (by kernel_rfl) (by kernel_rfl) (by kernel_rfl) (fun _ _ _ h => h) (.inl ⟨by rfl, ?_⟩) hS ?_
    rotate_left
    · intro W hW
      have q1 := hW.a.cells.1; have q2 := hW.a.cells.2.1; have q3 := (HCA.out W hW).1
      go_simp
      try with_reducible rfl
    try simp only [Act.put, List.setIfInBounds_toArray, List.set_cons_zero, List.set_cons_succ]
    refine take_d (i := 2) (d := some 13) (v := ?_) rfl rfl (by kernel_rfl) (by kernel_rfl) (by kernel_rfl) (fun _ _ _ h => h) (.inl ⟨by rfl, ?_⟩) hS ?_
    rotate_left
    · intro W hW
      go_simp
      try with_reducible rfl
    try simp only [Act.put, List.setIfInBounds_toArray, List.set_cons_zero, List.set_cons_succ]
    refine take_d (i := 3) (d := some 14) (v := ?_) rfl rfl (by kernel_rfl) (by kernel_rfl) (by kernel_rfl) (fun _ _ _ h => h) (.inl ⟨by rfl, ?_⟩) hS ?_
    rotate_left
    · intro W hW
      have q1 := hW.a.cells.1; have q2 := hW.a.cells.2.1; have q3 := (HCA.out W hW).1
      go_simp
      try with_reducible rfl
    try simp only [Act.put, List.setIfInBounds_toArray, List.set_cons_zero, List.set_cons_succ]
    refine take_d (i := 4) (d := some 15) (v := .pointer (some (a.add n.tk))) rfl rfl (by kernel_rfl) (by kernel_rfl) (by kernel_rfl) (fun _ _ _ h => h) (.inl ⟨by rfl, fun W hW => by have q := hi; go_simp⟩) hS ?_
    try simp only [Act.put, List.setIfInBounds_toArray, List.set_cons_zero, List.set_cons_succ]
    refine take_d (i := 5) (d := some 16) (v := .slice o2 nb.length c2) rfl rfl (by kernel_rfl) (by kernel_rfl) (by kernel_rfl) (fun _ _ _ h => h) (.inl ⟨by rfl, fun W hW => by have q3 := (HCA.out W hW).1; go_simp⟩) hS ?_
    try simp only [Act.put, List.setIfInBounds_toArray, List.set_cons_zero, List.set_cons_succ]
    refine take_d (i := 6) (d := some 17) (v := ?_) rfl rfl (by kernel_rfl) (by kernel_rfl) (by kernel_rfl) (fun _ _ _ h => h) (.inl ⟨by rfl, ?_⟩) hS ?_
    rotate_left
    · intro W hW
      go_simp
      try with_reducible rfl
    try simp only [Act.put, List.setIfInBounds_toArray, List.set_cons_zero, List.set_cons_succ]
    refine take_d (i := 7) (d := some 18) (v := ?_) rfl rfl (by kernel_rfl) (by kernel_rfl) (by kernel_rfl) (fun _ _ _ h => h) (.inl ⟨by rfl, ?_⟩) hS ?_
    rotate_left
    · intro W hW
      have q1 := hW.a.cells.1; have q2 := hW.a.cells.2.1; have q3 := (HCA.out W hW).1
      go_simp
      try with_reducible rfl
    try simp only [Act.put, List.setIfInBounds_toArray, List.set_cons_zero, List.set_cons_succ]
    refine take_d (i := 8) (d := some 19) (v := ?_) rfl rfl (by kernel_rfl) (by kernel_rfl) (by kernel_rfl) (fun _ _ _ h => h) (.inl ⟨by rfl, ?_⟩) hS ?_
    rotate_left
    · intro W hW
      go_simp
      try with_reducible rfl
    try simp only [Act.put, List.setIfInBounds_toArray, List.set_cons_zero, List.set_cons_succ]
    refine take_d (i := 9) (d := some 20) (v := ?_) rfl rfl (by kernel_rfl) (by kernel_rfl) (by kernel_rfl) (fun _ _ _ h => h) (.inl ⟨by rfl, ?_⟩) hS ?_
    rotate_left
    · intro W hW
      have q1 := hW.a.cells.1; have q2 := hW.a.cells.2.1; have q3 := (HCA.out W hW).1
      go_simp
      try with_reducible rfl
    try simp only [Act.put, List.setIfInBounds_toArray, List.set_cons_zero, List.set_cons_succ]
    refine take_d (i := 10) (d := some 21) (v := .slice (some a) n.tk c) rfl rfl (by kernel_rfl) (by kernel_rfl) (by kernel_rfl) (fun _ _ _ h => h) (.inl ⟨by rfl, fun W hW => by have q := hle; have q2 := hi; go_simp⟩) hS ?_
    try simp only [Act.put, List.setIfInBounds_toArray, List.set_cons_zero, List.set_cons_succ]
    refine wpAnyH_all (rs := [11]) (by kernel_rfl) (by simp) (fun i hi => ?_)
    simp only [List.mem_cons, List.not_mem_nil, or_false] at hi
    subst hi
    refine .inl ?_
    go_simp
    refine (HBy.out _ hS).mono ?_
    rintro e wc ⟨rfl, rfl⟩
    refine ⟨hS, ?_⟩
    try simp only [Act.put, List.setIfInBounds_toArray, List.set_cons_zero, List.set_cons_succ]
    refine take_d (i := 12) (d := some 2) (v := ?_) rfl rfl (by kernel_rfl) (by kernel_rfl) (by kernel_rfl) (fun _ _ _ h => h) (.inl ⟨by rfl, ?_⟩) hS ?_
    rotate_left
    · intro W hW
      go_simp
      try with_reducible rfl
    try simp only [Act.put, List.setIfInBounds_toArray, List.set_cons_zero, List.set_cons_succ]
    refine take_d (i := 13) (d := some 3) (v := ?_) rfl rfl (by kernel_rfl) (by kernel_rfl) (by kernel_rfl) (fun _ _ _ h => h) (.inl ⟨by rfl, ?_⟩) hS ?_
    rotate_left
    · intro W hW
      go_simp
      try with_reducible rfl
    try simp only [Act.put, List.setIfInBounds_toArray, List.set_cons_zero, List.set_cons_succ]
    refine take_d (i := 14) (d := some 4) (v := ?_) rfl rfl (by kernel_rfl) (by kernel_rfl) (by kernel_rfl) (fun _ _ _ h => h) (.inl ⟨by rfl, ?_⟩) hS ?_
    rotate_left
    · intro W hW
      go_simp
      try with_reducible rfl
    try simp only [Act.put, List.setIfInBounds_toArray, List.set_cons_zero, List.set_cons_succ]
    refine wpAnyH_done (by kernel_rfl) ?_ _
    have HE := Lib.hid hS.below
    have HN := Lib.hid (HCA.out _ hS).2
    clear hS hK0 HBy HCA
    go_wp2
    go_ret3
    refine ⟨_, ?_, HN.out, HE.out⟩
    rw [E2.out, E3.out]
    first | (simp; done) | rfl
  · have E2 : Hid (n.takeY = false) := decide_eq_false hlt
    have E3 : Hid (n.nextN = 0) := if_neg hlt
    have E4 : Hid (n.nextB = []) := by show n.nextB = []; unfold Nt.nextB; rw [List.getElem?_eq_none (by omega)]; rfl
    have he : (n.tk : Int) = (cl.length : Int) := by omega
    have HB := Lib.hid hb
    clear h hok hcl hcx h1 hb hat
    go_enter Try.func30, Try.ntmps30
    go_wp2
    go_ret3
    refine ⟨.slice none 0 0, ?_, ?_, HB.out⟩
    · rw [E2.out, E3.out]; rfl
    · rw [E4.out]; exact .inl ⟨rfl, rfl⟩
end Go.Proofs.Ytepimbebodmajaa

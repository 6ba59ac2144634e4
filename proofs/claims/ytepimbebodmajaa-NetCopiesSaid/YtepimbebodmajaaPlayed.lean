/-
  Layer 9: played of the statements: walk. Written by gen_played.py.
-/
import Derived.Test.YtepimbebodmajaaAct1
import Derived.Test.YtepimbebodmajaaIs
import Derived.Test.YtepimbebodmajaaFew
namespace Go.Proofs.Ytepimbebodmajaa
open Go.RowKit
set_option maxHeartbeats 8000000
set_option linter.unusedVariables false
set_option linter.unusedSimpArgs false

/-- A net behind calls. -/
def plN (xs : List Ac) : Nt := xs.foldl Nt.act N0
theorem plN_step {xs : List Ac} {k : Nat} {s : Ac} (h : xs[k]? = some s) : plN (xs.take (k + 1)) = (plN (xs.take k)).act s := by
  rw [take_snoc h]; simp [plN]
theorem plN_ok (xs : List Ac) : (plN xs).Ok := by
  have main : ∀ (ys : List Ac) (n : Nt), n.Ok → (ys.foldl Nt.act n).Ok := by
    intro ys
    induction ys with
    | nil => intro n hn; exact hn
    | cons a r ih => intro n hn; exact ih _ (hn.act a)
  exact main xs N0 ok_N0
theorem plN_sz (xs : List Ac) : (plN xs).sz ≤ xs.length := by
  have main : ∀ (ys : List Ac) (n : Nt), (ys.foldl Nt.act n).sz ≤ n.sz + ys.length := by
    intro ys
    induction ys with
    | nil => intro n; simp
    | cons a r ih =>
      intro n
      have h1 := ih (n.act a)
      have h2 := n.sz_act a
      simp only [List.foldl_cons, List.length_cons]
      omega
  have := main xs N0
  simpa [plN, N0, Nt.sz] using this
/-- Behind some calls by both, in played: the net at block S, the document's in box B. -/
structure Pl (w : World) (S B : Nat) (n : Nt) (cv sv : Value) (cl sl : List Pk) (F : Nat → Prop) (W : World) : Prop where
  at_ : At W S n F
  r : RvIs W n cv sv cl sl
  sep : ∀ k, F k → ¬ rvG cv sv cl sl k
  loF : ∀ k, F k → k = S ∨ B + 1 ≤ k
  loG : ∀ k, rvG cv sv cl sl k → k < w.heap.size ∨ B + 1 ≤ k
  box : Rf 28 3 W B (rcL n cv sv)
  below : Below w.heap.size w W
def PlE (w : World) (S B : Nat) (n : Nt) (W : World) : Prop := ∃ cv sv cl sl F, Pl w S B n cv sv cl sl F W
section
variable {w W W' : World} {S B : Nat} {n n' : Nt} {cv sv : Value} {cl sl : List Pk} {F : Nat → Prop}
theorem Pl.after (h : Pl w S B n cv sv cl sl F W) (hb : Below W.heap.size W W') : Pl w S B n cv sv cl sl F W' := ⟨h.at_.below hb, h.r.below hb, h.sep, h.loF, h.loG, h.box.below hb, h.below.trans (hb.mono h.below.size)⟩
theorem Pl.ab (h : Pl w S B n cv sv cl sl F W) (hok : n.Ok) (hsz : n.sz ≤ 80000) : AB W S n cv sv cl sl F := ⟨h.at_, h.r, h.sep, hok, hsz⟩
theorem PlE.after (h : PlE w S B n W) (hb : Below W.heap.size W W') : PlE w S B n W' := by obtain ⟨cv, sv, cl, sl, F, h⟩ := h; exact ⟨cv, sv, cl, sl, F, h.after hb⟩
theorem PlE.below (h : PlE w S B n W) : Below w.heap.size w W := by obtain ⟨cv, sv, cl, sl, F, h⟩ := h; exact h.below
/-- A call by both; its answer is stored in the box. -/
theorem Pl.step {c' : Array Value} {pv : Value} (h : Pl w S B n cv sv cl sl F W) (hc : ActC W S n' F (rvG cv sv cl sl) pv c' W') (hS : w.heap.size ≤ S ∧ S < B) (hpv : ∀ k, rdBlk pv = some k → k < w.heap.size ∨ B + 1 ≤ k) :
    Rf 28 3 W' B (rcL n cv sv) ∧ Below w.heap.size w W' ∧ Ok1 3 c' ∧ PlE w S B n' (W'.setRow B c') := by
  obtain ⟨F', G', hp⟩ := hc
  have hB := h.box.lt
  have hzw := h.below.size
  have hloF' : ∀ k, F k → w.heap.size ≤ k := fun k hk => by rcases h.loF k hk with e | e <;> omega
  have hbox := h.box.turned hp.t (fun e => by rcases h.loF _ e with e | e <;> omega)
  have hb := h.below.trans (hp.t.below hzw hloF')
  have ht := turned_setRow W' B c'
  obtain ⟨cv2, sv2, cl2, sl2, rfl, rfl, hr2⟩ := hp.rv
  have hF2 : ∀ k, F' k → k = S ∨ B + 1 ≤ k := fun k hk => by
    rcases hp.fF k hk with e | e
    · exact h.loF k e
    · omega
  have hG2 : ∀ k, rvG cv2 sv2 cl2 sl2 k → k < w.heap.size ∨ B + 1 ≤ k := fun k hk => by
    rcases hp.gG k hk with e | e | e
    · exact h.loG k e
    · exact hpv k e
    · omega
  have ho : Ok1 3 (rcL n' cv2 sv2) := hr2.ok n'
  refine ⟨hbox, hb, ho, cv2, sv2, cl2, sl2, F', hp.at_.turned ht (fun k hk e => by have := hF2 k hk; omega), hr2.keep (fun k hk => ht.block k (hr2.lt k hk) (fun e => by have := hG2 k hk; omega)), hp.sep, hF2, hG2, hbox.set ho, below_setRow hb (by omega) _⟩
end
theorem pl_start (w : World) {W : World} (hb : Below w.heap.size w W) : Pl w W.heap.size (W.heap.size + 1) N0 (.slice none 0 0) (.slice none 0 0) [] [] (atF W.heap.size (.slice none 0 0) (.slice none 0 0) [] []) ((W.alloc (.cells (ncL N0 (.slice none 0 0) (.slice none 0 0)) 61)).alloc (.cells zR 28)) := by
  have h2 := zR_ok.new 28 (W.alloc (.cells (ncL N0 (.slice none 0 0) (.slice none 0 0)) 61))
  simp only [World.size_alloc] at h2
  have hn : ∀ k, ¬ rvG (.slice none 0 0) (.slice none 0 0) [] [] k := fun k hk => by
    rcases hk with (e | ⟨q, hq, _⟩) | (e | ⟨q, hq, _⟩)
    · simp [rdBlk] at e
    · cases hq
    · simp [rdBlk] at e
    · cases hq
  have hz := hb.size
  refine ⟨(at_new W).below ((Below.refl _ _).alloc (Nat.le_refl _) _), ⟨RsIs.nil _, RsIs.nil _, rfl, rfl⟩, fun k _ => hn k, fun k hk => ?_, fun k hk => (hn k hk).elim, h2, (hb.alloc hz _).alloc (by simp; omega) _⟩
  rcases hk with e | e | e
  · exact .inl e
  · exact (psB_nil k e).elim
  · exact (psB_nil k e).elim
/-- What played gives. -/
structure PlR (w : World) (n : Nt) (cv sv : Value) (cl sl : List Pk) (F : Nat → Prop) (S : Nat) (W : World) : Prop where
  at_ : At W S n F
  r : RvIs W n cv sv cl sl
  sep : ∀ k, F k → ¬ rvG cv sv cl sl k
  loF : ∀ k, F k → w.heap.size ≤ k
  below : Below w.heap.size w W
def PlRE (w : World) (n : Nt) (S : Nat) (c : Array Value) (W : World) : Prop := ∃ cv sv cl sl F, c = rcL n cv sv ∧ PlR w n cv sv cl sl F S W
structure PzI (w : World) (n : Nt) (cv sv : Value) (cl sl : List Pk) (F : Nat → Prop) (W : World) : Prop where
  at_ : At W (w.heap.size + 1) n F
  r : RvIs W n cv sv cl sl
  box : Rf 28 3 W (w.heap.size + 1 + 1) (rcL n cv sv)
  res : ∃ c, Rf 28 3 W w.heap.size c
  below : Below w.heap.size w W
  fs : ∀ k, F k → k ≠ w.heap.size
  gs : ∀ k, rvG cv sv cl sl k → k ≠ w.heap.size
theorem PzI.after {w W W' : World} {n : Nt} {cv sv : Value} {cl sl : List Pk} {F : Nat → Prop} (h : PzI w n cv sv cl sl F W) (hb : Below W.heap.size W W') : PzI w n cv sv cl sl F W' := ⟨h.at_.below hb, h.r.below hb, h.box.below hb, by obtain ⟨c, hr⟩ := h.res; exact ⟨c, hr.below hb⟩, h.below.trans (hb.mono h.below.size), h.fs, h.gs⟩
set_option maxRecDepth 100000 in
theorem played_any {w : World} {v : Value} {xs : List Ac} (h : ActsIn w v xs) (hcost : cost xs ≤ 8000) : Calls Try.prog 11 #[v] w fun e w' =>
    ∃ c, e = .returned (.tuple #[.pointer (some ⟨w.heap.size + 1, 0, none⟩), .agg c, .bool true]) ∧ PlRE w (plN xs) (w.heap.size + 1) c w' := by
  obtain ⟨o, cc, rfl, hc, hm, hat⟩ := h.form
  unfold maxLen at hm
  have hlen := cost_len xs
  have HA := Lib.hid hat
  have HCost := Lib.hid hcost
  have hps := pl_start w (W := w.alloc (.cells zR 28)) ((Below.refl _ _).alloc (Nat.le_refl _) _)
  simp only [World.size_alloc] at hps
  have H0 : Hid (PlE w (w.heap.size + 1) (w.heap.size + 1 + 1) N0 (((w.alloc (.cells zR 28)).alloc (.cells (ncL N0 (.slice none 0 0) (.slice none 0 0)) 61)).alloc (.cells zR 28)) ∧
      Rf 28 3 (((w.alloc (.cells zR 28)).alloc (.cells (ncL N0 (.slice none 0 0) (.slice none 0 0)) 61)).alloc (.cells zR 28)) w.heap.size zR) := ⟨⟨_, _, _, _, _, hps⟩, ((zR_ok.new _ _).alloc _).alloc _⟩
  clear h hat hps
  go_enter Try.func11, Try.ntmps11
  go_wp2_with fail
  refine (New_any _).mono ?_
  rintro e w1 ⟨rfl, rfl⟩
  go_wp2_with fail
  show Code.wp Try.prog _ _ _ (((w.alloc (.cells zR 28)).alloc (.cells (ncL N0 (.slice none 0 0) (.slice none 0 0)) 61)).alloc (.cells zR 28))
  generalize ((w.alloc (.cells zR 28)).alloc (.cells (ncL N0 (.slice none 0 0) (.slice none 0 0)) 61)).alloc (.cells zR 28) = W0 at H0 ⊢
  go_loopw [7, 8] (fun f q wr => ∃ k : Nat, k ≤ xs.length ∧ f = .bool true ∧ q = .int .i64 (k : Int) ∧ Hid (PlE w (w.heap.size + 1) (w.heap.size + 1 + 1) (plN (xs.take k)) wr) ∧ Hid (Rf 28 3 wr w.heap.size zR)) (fun _ q _ => xs.length + 1 - (intOf q).toNat)
  case atStart => exact ⟨0, by omega, rfl, rfl, H0.out.1, H0.out.2⟩
  case round =>
    obtain ⟨k, hk, rfl, rfl, HP, HRs⟩ := hrel
    obtain ⟨cv, sv, cl, sl, F, hP⟩ := HP.out
    have HPl := Lib.hid hP
    by_cases hlt : k < xs.length
    · have hi : (k : Int) < (xs.length : Int) := by omega
      obtain ⟨a, s, bv, rfl, hs, hfit, h6⟩ := HA.out k hlt
      have H9 := Lib.hid hs
      have hok := plN_ok (xs.take k)
      have hsz : (plN (xs.take k)).sz ≤ 80000 := by have := plN_sz (xs.take k); simp at this; omega
      have hbl : s.b.length ≤ 140737488355328 := by have := cost_mem (List.mem_of_getElem? hs); omega
      have hd := hP.after (Below.refl _ _).drew
      have HC := Lib.hid (act_any (hd.ab hok hsz) s bv (h6.nb.below hd.below) hbl (fun k hk hF => by have := h6.nb.lt hk; have := hP.loF k hF; omega))
      have HK := Lib.hid (show At2 wr.drew (a.add (k * 2)) s bv from h6.below hd.below)
      have H6 := Lib.hid h6
      have HNB := Lib.hid (show ∀ k, rdBlk bv = some k → k < w.heap.size ∨ w.heap.size + 1 + 1 + 1 ≤ k from fun k hk => .inl (h6.nb.lt hk))
      have HDr := Lib.hid hd
      obtain ⟨ob, cb, rfl, -, -, -⟩ := h6.nb.form
      clear hP hs hfit hok hsz hbl h6 H0 hd
      go_wp2
      have hK0 := HK.out
      refine wp_region_held_drew (S := fun W => At2 W (a.add (k * 2)) s (.slice ob s.b.length cb)) (by kernel_rfl) hK0 (fun _ => ?_)
      have hS := hK0
      refine take_d (i := 0) (d := some 21) (v := ?_) rfl rfl (by kernel_rfl) (by kernel_rfl) (by kernel_rfl) (fun _ _ _ h => h) (.inl ⟨by rfl, ?_⟩) hS ?_
      rotate_left
      · intro W hW
        go_simp
        try with_reducible rfl
      try simp only [Act.put, List.setIfInBounds_toArray, List.set_cons_zero, List.set_cons_succ]
      refine take_d (i := 2) (d := some 23) (v := ?_) rfl rfl (by kernel_rfl) (by kernel_rfl) (by kernel_rfl) (fun _ _ _ h => h) (.inl ⟨by rfl, ?_⟩) hS ?_
      rotate_left
      · intro W hW
        go_simp
        try with_reducible rfl
      try simp only [Act.put, List.setIfInBounds_toArray, List.set_cons_zero, List.set_cons_succ]
      refine take_d (i := 3) (d := some 24) (v := ?_) rfl rfl (by kernel_rfl) (by kernel_rfl) (by kernel_rfl) (fun _ _ _ h => h) (.inl ⟨by rfl, ?_⟩) hS ?_
      rotate_left
      · intro W hW
        go_simp
        try with_reducible rfl
      try simp only [Act.put, List.setIfInBounds_toArray, List.set_cons_zero, List.set_cons_succ]
      refine take_d (i := 4) (d := some 25) (v := ?_) rfl rfl (by kernel_rfl) (by kernel_rfl) (by kernel_rfl) (fun _ _ _ h => h) (.inl ⟨by rfl, ?_⟩) hS ?_
      rotate_left
      · intro W hW
        have q := hi
        go_simp
        try with_reducible rfl
      try simp only [Act.put, List.setIfInBounds_toArray, List.set_cons_zero, List.set_cons_succ]
      refine take_d (i := 5) (d := some 26) (v := .agg #[.int .i64 s.k, .slice ob s.b.length cb]) rfl rfl (by kernel_rfl) (by kernel_rfl) (by kernel_rfl) (fun _ _ _ h => h) (.inl ⟨by rfl, fun W hW => by have p1 := hW.k; have p2 := hW.b; go_simp⟩) hS ?_
      try simp only [Act.put, List.setIfInBounds_toArray, List.set_cons_zero, List.set_cons_succ]
      refine wpAnyH_all (rs := [1]) (by kernel_rfl) (by simp) (fun i hi => ?_)
      simp only [List.mem_cons, List.not_mem_nil, or_false] at hi
      subst hi
      refine .inl ?_
      refine o_load_R (d := some 22) rfl rowR HDr.out.box rfl rfl ?_
      refine ⟨hS, ?_⟩
      try simp only [Act.put, List.setIfInBounds_toArray, List.set_cons_zero, List.set_cons_succ]
      refine wpAnyH_all (rs := [6]) (by kernel_rfl) (by simp) (fun i hi => ?_)
      simp only [List.mem_cons, List.not_mem_nil, or_false] at hi
      subst hi
      refine .inl ?_
      go_simp
      refine (HC.out).mono ?_
      rintro e wc ⟨c', rfl, hact⟩
      obtain ⟨hbox, hbw, hoc, hp2⟩ := HDr.out.step hact ⟨by omega, by omega⟩ HNB.out
      have hrs1 : Rf 28 3 wc w.heap.size zR := by
        obtain ⟨F', G', hp⟩ := hact
        exact HRs.out.drew.turned hp.t (fun hF => by have := HDr.out.loF _ hF; omega)
      have hrs2 := hrs1.setOther (show w.heap.size ≠ w.heap.size + 1 + 1 by omega) c'
      have hS : (fun W => At2 W (a.add (k * 2)) s (.slice ob s.b.length cb)) wc := H6.out.below hbw
      clear hact hrs1
      refine ⟨hS, ?_⟩
      try simp only [Act.put, List.setIfInBounds_toArray, List.set_cons_zero, List.set_cons_succ]
      refine take_d (i := 7) (d := some 20) (v := ?_) rfl rfl (by kernel_rfl) (by kernel_rfl) (by kernel_rfl) (fun _ _ _ h => h) (.inl ⟨by rfl, ?_⟩) hS ?_
      rotate_left
      · intro W hW
        go_simp
        try with_reducible rfl
      try simp only [Act.put, List.setIfInBounds_toArray, List.set_cons_zero, List.set_cons_succ]
      refine take_d (i := 8) (d := some 28) (v := ?_) rfl rfl (by kernel_rfl) (by kernel_rfl) (by kernel_rfl) (fun _ _ _ h => h) (.inl ⟨by rfl, ?_⟩) hS ?_
      rotate_left
      · intro W hW
        go_simp
        try with_reducible rfl
      try simp only [Act.put, List.setIfInBounds_toArray, List.set_cons_zero, List.set_cons_succ]
      refine take_d (i := 9) (d := some 29) (v := ?_) rfl rfl (by kernel_rfl) (by kernel_rfl) (by kernel_rfl) (fun _ _ _ h => h) (.inl ⟨by rfl, ?_⟩) hS ?_
      rotate_left
      · intro W hW
        go_simp
        try with_reducible rfl
      try simp only [Act.put, List.setIfInBounds_toArray, List.set_cons_zero, List.set_cons_succ]
      refine wpAnyH_all (rs := [10]) (by kernel_rfl) (by simp) (fun i hi => ?_)
      simp only [List.mem_cons, List.not_mem_nil, or_false] at hi
      subst hi
      refine .inl ?_
      refine o_store_R (d := none) rfl c' rowR hbox hoc rfl rfl rfl ?_
      have hS2 : (fun W => At2 W (a.add (k * 2)) s (.slice ob s.b.length cb)) (wc.setRow (w.heap.size + 1 + 1) c') := H6.out.below (below_setRow hbw (by omega) _)
      refine ⟨hS2, ?_⟩
      have hS := hS2
      try simp only [Act.put, List.setIfInBounds_toArray, List.set_cons_zero, List.set_cons_succ]
      refine take_d (i := 11) (d := some 7) (v := ?_) rfl rfl (by kernel_rfl) (by kernel_rfl) (by kernel_rfl) (fun _ _ _ h => h) (.inl ⟨by rfl, ?_⟩) hS ?_
      rotate_left
      · intro W hW
        go_simp
        try with_reducible rfl
      try simp only [Act.put, List.setIfInBounds_toArray, List.set_cons_zero, List.set_cons_succ]
      refine wpAnyH_done (by kernel_rfl) ?_ _
      have HE := Lib.hid hp2
      have HR9 := Lib.hid hrs2
      clear hS hK0 HK HC HDr HPl HP HRs hp2 hrs2
      go_wp2
      go_roundw
      case rel => exact ⟨k + 1, by omega, rfl, by go_num, by rw [plN_step H9.out]; exact HE.out, HR9.out⟩
      case measure => simp [intOf]; omega
    · obtain rfl : k = xs.length := by omega
      have hlt' : ¬ ((xs.length : Nat) : Int) < (xs.length : Int) := by omega
      rw [List.take_length] at *
      have HIs := Lib.hid (fun W (hW : PzI w (plN xs) cv sv cl sl F W) => is_any hW.at_ hW.r (plN_ok xs) (by have := plN_sz xs; omega))
      have HK : Hid (PzI w (plN xs) cv sv cl sl F wr.drew) := (⟨hP.at_, hP.r, hP.box, ⟨_, HRs.out⟩, hP.below, fun k hk => by have := hP.loF k hk; omega, fun k hk => by have := hP.loG k hk; omega⟩ : PzI w (plN xs) cv sv cl sl F wr).after (Below.refl _ _).drew
      have HSep := Lib.hid hP.sep
      have HLoF := Lib.hid (show ∀ k, F k → w.heap.size ≤ k from fun k hk => by have := hP.loF k hk; omega)
      have HOk := Lib.hid hP.box.ok
      clear hP HPl HP HRs H0
      obtain ⟨n, hn⟩ : ∃ n, plN xs = n := ⟨_, rfl⟩
      have HNn := Lib.hid hn
      rw [hn] at HIs HK HOk
      clear hn
      go_wp2
      have hK0 := HK.out
      refine wp_region_held_drew (S := PzI w n cv sv cl sl F) (by kernel_rfl) hK0 (fun _ => ?_)
      have hS := hK0
      refine take_d (i := 0) (d := some 30) (v := ?_) rfl rfl (by kernel_rfl) (by kernel_rfl) (by kernel_rfl) (fun _ _ _ h => h) (.inl ⟨by rfl, ?_⟩) hS ?_
      rotate_left
      · intro W hW
        go_simp
        try with_reducible rfl
      try simp only [Act.put, List.setIfInBounds_toArray, List.set_cons_zero, List.set_cons_succ]
      refine take_d (i := 1) (d := some 31) (v := .agg (rcL n cv sv)) rfl rfl (by kernel_rfl) (by kernel_rfl) (by kernel_rfl) (fun _ _ _ h => h) (y_R rowR (by kernel_rfl) rfl rfl (fun W hW => hW.box)) hS ?_
      try simp only [Act.put, List.setIfInBounds_toArray, List.set_cons_zero, List.set_cons_succ]
      refine take_d (i := 2) (d := some 32) (v := ?_) rfl rfl (by kernel_rfl) (by kernel_rfl) (by kernel_rfl) (fun _ _ _ h => h) (.inl ⟨by rfl, ?_⟩) hS ?_
      rotate_left
      · intro W hW
        go_simp
        try with_reducible rfl
      try simp only [Act.put, List.setIfInBounds_toArray, List.set_cons_zero, List.set_cons_succ]
      refine take_d (i := 3) (d := some 33) (v := ?_) rfl rfl (by kernel_rfl) (by kernel_rfl) (by kernel_rfl) (fun _ _ _ h => h) (.inl ⟨by rfl, ?_⟩) hS ?_
      rotate_left
      · intro W hW
        go_simp
        try with_reducible rfl
      try simp only [Act.put, List.setIfInBounds_toArray, List.set_cons_zero, List.set_cons_succ]
      refine take_d (i := 4) (d := some 34) (v := ?_) rfl rfl (by kernel_rfl) (by kernel_rfl) (by kernel_rfl) (fun _ _ _ h => h) (.inl ⟨by rfl, ?_⟩) hS ?_
      rotate_left
      · intro W hW
        go_simp
        try with_reducible rfl
      try simp only [Act.put, List.setIfInBounds_toArray, List.set_cons_zero, List.set_cons_succ]
      refine take_d (i := 5) (d := some 35) (v := .agg (rcL n cv sv)) rfl rfl (by kernel_rfl) (by kernel_rfl) (by kernel_rfl) (fun _ _ _ h => h) (y_R rowR (by kernel_rfl) rfl rfl (fun W hW => hW.box)) hS ?_
      try simp only [Act.put, List.setIfInBounds_toArray, List.set_cons_zero, List.set_cons_succ]
      refine wpAnyH_all (rs := [6]) (by kernel_rfl) (by simp) (fun i hi => ?_)
      simp only [List.mem_cons, List.not_mem_nil, or_false] at hi
      subst hi
      refine .inl ?_
      go_simp
      refine (HIs.out _ hS).mono ?_
      rintro e wc ⟨rfl, hb⟩
      have hS := hS.after hb
      clear hb
      refine ⟨hS, ?_⟩
      try simp only [Act.put, List.setIfInBounds_toArray, List.set_cons_zero, List.set_cons_succ]
      refine take_d (i := 7) (d := some 37) (v := ?_) rfl rfl (by kernel_rfl) (by kernel_rfl) (by kernel_rfl) (fun _ _ _ h => h) (.inl ⟨by rfl, ?_⟩) hS ?_
      rotate_left
      · intro W hW
        go_simp
        try with_reducible rfl
      try simp only [Act.put, List.setIfInBounds_toArray, List.set_cons_zero, List.set_cons_succ]
      refine take_d (i := 8) (d := some 2) (v := ?_) rfl rfl (by kernel_rfl) (by kernel_rfl) (by kernel_rfl) (fun _ _ _ h => h) (.inl ⟨by rfl, ?_⟩) hS ?_
      rotate_left
      · intro W hW
        go_simp
        try with_reducible rfl
      try simp only [Act.put, List.setIfInBounds_toArray, List.set_cons_zero, List.set_cons_succ]
      refine wpAnyH_all (rs := [9]) (by kernel_rfl) (by simp) (fun i hi => ?_)
      simp only [List.mem_cons, List.not_mem_nil, or_false] at hi
      subst hi
      refine .inl ?_
      obtain ⟨c0, hr⟩ := hS.res
      refine o_store_R (d := none) rfl (rcL n cv sv) rowR hr HOk.out rfl rfl rfl ?_
      have hres := hr.set HOk.out
      have tt := turned_setRow wc w.heap.size (rcL n cv sv)
      have hend : PlR w n cv sv cl sl F (w.heap.size + 1) (wc.setRow w.heap.size (rcL n cv sv)) := ⟨hS.at_.turned tt (fun k hk => hS.fs k hk), hS.r.keep (fun k hk => tt.block k (hS.r.lt k hk) (hS.gs k hk)), HSep.out, HLoF.out, below_setRow hS.below (Nat.le_refl _) _⟩
      have hS2 : PzI w n cv sv cl sl F (wc.setRow w.heap.size (rcL n cv sv)) := ⟨hend.at_, hend.r, hS.box.setOther (by omega) _, ⟨_, hres⟩, hend.below, hS.fs, hS.gs⟩
      refine ⟨hS2, ?_⟩
      have hS := hS2
      try simp only [Act.put, List.setIfInBounds_toArray, List.set_cons_zero, List.set_cons_succ]
      refine take_d (i := 10) (d := some 4) (v := ?_) rfl rfl (by kernel_rfl) (by kernel_rfl) (by kernel_rfl) (fun _ _ _ h => h) (.inl ⟨by rfl, ?_⟩) hS ?_
      rotate_left
      · intro W hW
        go_simp
        try with_reducible rfl
      try simp only [Act.put, List.setIfInBounds_toArray, List.set_cons_zero, List.set_cons_succ]
      refine wpAnyH_done (by kernel_rfl) ?_ _
      have HE := Lib.hid hend
      have HR := Lib.hid hres
      clear hS hK0 hend HK HIs hres
      go_wp2
      refine bodyPost_ret (res_sRs rowR (fn := Try.f11) rfl _ HR.out rfl) rfl ⟨rcL n cv sv, rfl, ?_⟩
      rw [HNn.out]
      exact ⟨_, _, _, _, _, rfl, HE.out⟩
end Go.Proofs.Ytepimbebodmajaa

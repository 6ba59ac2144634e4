/-
  Layer 7: act, whatever is called; played of the statements: walks. Written by gen_played.py.
-/
import Derived.Test.YtmnkggnghflcpaaAct2
import Derived.Test.YtmnkggnghflcpaaAct3
import Derived.Test.YtmnkggnghflcpaaIs
import Derived.Test.YtmnkggnghflcpaaFew
namespace Go.Proofs.Ytmnkggnghflcpaa
open Go.RowKit
set_option maxHeartbeats 1000000
set_option linter.unusedVariables false
set_option linter.unusedSimpArgs false

theorem act_any {w : World} {S : Nat} {l : Ls} {c : Array Value} {F G : Nat → Prop} (h : AB w S l c F G) (s : Ac) (hfit : s.Ok) (bv : Value) (hbv : NumsIn .u8 w bv s.b) (hbl : s.b.length ≤ 100000) (sepb : ∀ k, rdBlk bv = some k → ¬ F k) :
    Calls Try.prog 13 #[.pointer (some ⟨S, 0, none⟩), .agg c, .agg #[.int .i64 s.k, .int .i64 s.ln, bv, .int .u8 s.y, .int .u32 s.x, .bool s.up]] w fun e w' => ∃ c', e = .returned (.tuple #[.agg c', .bool true]) ∧ ActC w S (l.act s) F G c' w' := by
  obtain ⟨k, ln, b, y, x, up⟩ := s
  have hy := hfit.y
  have hx := hfit.x
  simp only at hbv hbl hy hx ⊢
  by_cases k0 : k = 0
  · subst k0; exact act0 h ln bv y x up
  by_cases k1 : k = 1
  · subst k1
    by_cases hle : l.wt.length + b.length ≤ 256
    · exact act1a h ln bv b y x up hbv hbl sepb hle
    · exact act1b h ln bv b y x up hbv hbl sepb hle
  by_cases k2 : k = 2
  · subst k2; exact act2 h ln bv y x up
  by_cases k3 : k = 3
  · subst k3; exact act3 h ln bv y x up hy
  by_cases k4 : k = 4
  · subst k4; exact act4 h ln bv y x up hx
  have e : l.act ⟨k, ln, b, y, x, up⟩ = l.raise ln up := by simp [Ls.act, k0, k1, k2, k3, k4]
  rw [e]
  exact act5 h k ln bv y x up k0 k1 k2 k3 k4
/-- Lines behind calls. -/
def plL (xs : List Ac) : Ls := xs.foldl Ls.act L0
theorem plL_step {xs : List Ac} {k : Nat} {s : Ac} (h : xs[k]? = some s) : plL (xs.take (k + 1)) = (plL (xs.take k)).act s := by
  rw [take_snoc h]; simp [plL]
theorem plL_ok : ∀ {xs : List Ac}, (∀ s ∈ xs, s.Ok) → (plL xs).Ok := by
  intro xs
  have main : ∀ (ys : List Ac) (l : Ls), l.Ok → (∀ s ∈ ys, s.Ok) → (ys.foldl Ls.act l).Ok := by
    intro ys
    induction ys with
    | nil => intro l hl _; exact hl
    | cons a r ih => intro l hl hs; exact ih _ (hl.act (hs a (by simp))) (fun s h => hs s (by simp [h]))
  exact main xs L0 ok_L0
theorem plL_sz (xs : List Ac) : (plL xs).sz ≤ cost xs := by
  have main : ∀ (ys : List Ac) (l : Ls), (ys.foldl Ls.act l).sz ≤ l.sz + cost ys := by
    intro ys
    induction ys with
    | nil => intro l; simp [cost]
    | cons a r ih =>
      intro l
      have h1 := ih (l.act a)
      have h2 := l.sz_act a
      simp only [List.foldl_cons, cost]
      omega
  have := main xs L0
  simpa [plL, L0, Ls.sz] using this
theorem cost_take (xs : List Ac) (k : Nat) : cost (xs.take k) ≤ cost xs := by
  conv => rhs; rw [← List.take_append_drop k xs, cost_append]
  omega
theorem ActsIn.oks {w : World} {v : Value} {xs : List Ac} (h : ActsIn w v xs) : ∀ s ∈ xs, s.Ok := fun s hs => by
  obtain ⟨i, hi, rfl⟩ := List.getElem_of_mem hs
  rcases h with ⟨_, rfl⟩ | ⟨a, c, _, _, _, h4⟩
  · simp at hi
  · exact (h4 i _ (List.getElem?_eq_getElem hi)).1.ok
/-- Behind some calls by both, in played. -/
structure Pl (w : World) (l : Ls) (c : Array Value) (F G : Nat → Prop) (W : World) : Prop where
  at_ : At W (w.heap.size + 1) l F
  rv : Rv W l c G
  sep : ∀ k, F k → ¬ G k
  loF : ∀ k, F k → k = w.heap.size + 1 ∨ w.heap.size + 1 + 1 + 1 ≤ k
  loG : ∀ k, G k → w.heap.size + 1 + 1 + 1 ≤ k
  res : Rf W w.heap.size zR
  box : Rf W (w.heap.size + 1 + 1) c
  below : Below w.heap.size w W
def PlE (w : World) (l : Ls) (W : World) : Prop := ∃ c F G, Pl w l c F G W
theorem Pl.drew {w W : World} {l : Ls} {c : Array Value} {F G : Nat → Prop} (h : Pl w l c F G W) : Pl w l c F G W.drew :=
  ⟨h.at_.keep fun _ _ => rfl, h.rv.keep fun _ _ => rfl, h.sep, h.loF, h.loG, h.res.drew, h.box.drew, h.below.drew⟩
theorem pl_start (w : World) : Pl w L0 zR (atF (w.heap.size + 1) (.slice none 0 0) (.slice none 0 0)) (rvG (.slice none 0 0) (.slice none 0 0)) (((w.alloc (.cells zR 30)).alloc (.cells (pcL L0 (.slice none 0 0) (.slice none 0 0)) 71)).alloc (.cells zR 30)) := by
  have h1 := at_new (w.alloc (.cells zR 30))
  have h2 := blk_new ((w.alloc (.cells zR 30)).alloc (.cells (pcL L0 (.slice none 0 0) (.slice none 0 0)) 71)) zR 30
  simp only [World.size_alloc] at h1 h2
  refine ⟨h1.keep fun k hk => Below.heap_alloc _ _ _ (h1.lt k hk), Rv.none _, fun k _ hg => ?_, fun k hk => ?_, fun k hk => ?_, ⟨((blk_new _ _ _).alloc _).alloc _, zR_ok.1, zR_ok.2⟩, ⟨h2, zR_ok.1, zR_ok.2⟩, (((Below.refl _ _).alloc (Nat.le_refl _) _).alloc (by simp) _).alloc (by simp <;> omega) _⟩
  · rcases hg with e | e <;> simp [rdBlk] at e
  · rcases hk with e | e | e
    · exact .inl e
    · simp [blkOf] at e
    · simp [blkOf] at e
  · rcases hk with e | e <;> simp [rdBlk] at e
theorem Pl.ab {w W : World} {l : Ls} {c : Array Value} {F G : Nat → Prop} (h : Pl w l c F G W) (hok : l.Ok) (hsz : l.sz ≤ 100000) : AB W (w.heap.size + 1) l c F G := ⟨h.at_, h.rv, h.sep, hok, hsz⟩
/-- A call by both behind it; its answer is stored. -/
theorem Pl.step {w W W' : World} {l l' : Ls} {c c' : Array Value} {F G : Nat → Prop} (h : Pl w l c F G W) (hc : ActC W (w.heap.size + 1) l' F G c' W') : Rf W' (w.heap.size + 1 + 1) c ∧ Below w.heap.size w W' ∧ c'.size = 9 ∧ c'.all (·.oneCell') = true ∧ PlE w l' (W'.setRow (w.heap.size + 1 + 1) c') := by
  obtain ⟨F', G', hp⟩ := hc
  have hbox := h.box.turned hp.t (fun e => by have := h.loF _ e; omega)
  have hres := h.res.turned hp.t (fun e => by have := h.loF _ e; omega)
  have hz := h.box.lt
  have hb : Below w.heap.size w W' := h.below.trans (hp.t.below h.below.size (fun k hk => by have := h.loF k hk; omega))
  have ht := turned_setRow W' (w.heap.size + 1 + 1) c'
  refine ⟨hbox, hb, hp.rv.size, hp.rv.one, c', F', G', hp.at_.turned ht (fun k hk e => ?_), hp.rv.turned ht (fun k hk e => ?_), hp.sep, fun k hk => ?_, fun k hk => ?_, hres.setOther (by omega) _, hbox.set hp.rv.size hp.rv.one, below_setRow hb (by omega) _⟩
  · rcases hp.fF k hk with e' | e'
    · have := h.loF k e'; omega
    · omega
  · rcases hp.gG k hk with e' | e'
    · have := h.loG k e'; omega
    · omega
  · rcases hp.fF k hk with e' | e'
    · exact h.loF k e'
    · exact .inr (by omega)
  · rcases hp.gG k hk with e' | e'
    · exact h.loG k e'
    · omega
theorem o_load_R {op : Oper} {a : Act} {w : World} {K : Act → World → Prop} {Q : Exit → Act → World → Prop} {x : Operand} {R : Nat} {c : Array Value} (hr : Rf w R c) (ho : op.op = .load 30 x) (hx : a.eval x = .pointer (some ⟨R, 0, none⟩))
    (h : K (a.put op.dst (.agg c)) w) : op.wp Try.prog a w K Q :=
  wp_load_row 30 x ho R hx 30 c (0, 0) _ hr.blk Try.underlying30 rfl (infoR' hr.size) h
theorem Pl.after {w W W' : World} {l : Ls} {c : Array Value} {F G : Nat → Prop} (h : Pl w l c F G W) (hb : Below W.heap.size W W') : Pl w l c F G W' :=
  ⟨h.at_.below hb, h.rv.below hb, h.sep, h.loF, h.loG, h.res.below hb, h.box.below hb, h.below.trans (hb.mono h.below.size)⟩
/-- What played gives. -/
structure PlR (w : World) (l : Ls) (c : Array Value) (F G : Nat → Prop) (W : World) : Prop where
  at_ : At W (w.heap.size + 1) l F
  rv : Rv W l c G
  sep : ∀ k, F k → ¬ G k
  loF : ∀ k, F k → w.heap.size ≤ k
  loG : ∀ k, G k → w.heap.size ≤ k
  below : Below w.heap.size w W
def PlRE (w : World) (l : Ls) (c : Array Value) (W : World) : Prop := ∃ F G, PlR w l c F G W
theorem Pl.stored {w W : World} {l : Ls} {c : Array Value} {F G : Nat → Prop} (h : Pl w l c F G W) (c' : Array Value) : PlRE w l c (W.setRow w.heap.size c') := by
  have ht := turned_setRow W w.heap.size c'
  exact ⟨F, G, h.at_.turned ht (fun k hk e => by have := h.loF k hk; omega), h.rv.turned ht (fun k hk e => by have := h.loG k hk; omega), h.sep, fun k hk => by have := h.loF k hk; omega, fun k hk => by have := h.loG k hk; omega, below_setRow h.below (Nat.le_refl _) _⟩
/-- At the end: the result's box, whatever it holds. -/
structure Pz (w : World) (l : Ls) (c : Array Value) (F G : Nat → Prop) (W : World) : Prop where
  at_ : At W (w.heap.size + 1) l F
  rv : Rv W l c G
  box : Rf W (w.heap.size + 1 + 1) c
  fs : ∀ k, F k → k ≠ w.heap.size
  gs : ∀ k, G k → k ≠ w.heap.size
theorem Pl.pz {w W : World} {l : Ls} {c : Array Value} {F G : Nat → Prop} (h : Pl w l c F G W) : Pz w l c F G W := ⟨h.at_, h.rv, h.box, fun k hk => by have := h.loF k hk; omega, fun k hk => by have := h.loG k hk; omega⟩
theorem Pz.ressed {w W : World} {l : Ls} {c : Array Value} {F G : Nat → Prop} (h : Pz w l c F G W) (c' : Array Value) : Pz w l c F G (W.setRow w.heap.size c') := by
  have ht := turned_setRow W w.heap.size c'
  exact ⟨h.at_.turned ht (fun k hk => h.fs k hk), h.rv.turned ht (fun k hk => h.gs k hk), h.box.setOther (by omega) _, h.fs, h.gs⟩
set_option maxRecDepth 100000 in
theorem played_any {w : World} {v : Value} {xs : List Ac} (h : ActsIn w v xs) (hcost : cost xs ≤ 5000) : Calls Try.prog 11 #[v] w fun e w' =>
    ∃ c, e = .returned (.tuple #[.pointer (some ⟨w.heap.size + 1, 0, none⟩), .agg c, .bool true]) ∧ PlRE w (plL xs) c w' := by
  have hoks := h.oks
  obtain ⟨o, cc, rfl, hc, hm, hat⟩ := h.form
  unfold maxLen at hm
  have hlen := cost_len xs
  have HA := Lib.hid hat
  have HOKS := Lib.hid hoks
  have HCost := Lib.hid hcost
  have H0 : Hid (PlE w L0 (((w.alloc (.cells zR 30)).alloc (.cells (pcL L0 (.slice none 0 0) (.slice none 0 0)) 71)).alloc (.cells zR 30))) := ⟨_, _, _, pl_start w⟩
  clear h hat hoks
  go_enter Try.func11, Try.ntmps11
  go_wp2_with fail
  refine (New_any _).mono ?_
  rintro e w1 ⟨rfl, rfl⟩
  go_wp2_with fail
  show Code.wp Try.prog _ _ _ (((w.alloc (.cells zR 30)).alloc (.cells (pcL L0 (.slice none 0 0) (.slice none 0 0)) 71)).alloc (.cells zR 30))
  generalize ((w.alloc (.cells zR 30)).alloc (.cells (pcL L0 (.slice none 0 0) (.slice none 0 0)) 71)).alloc (.cells zR 30) = W0 at H0 ⊢
  go_loopw [7, 8] (fun f q wr => ∃ k : Nat, k ≤ xs.length ∧ f = .bool true ∧ q = .int .i64 (k : Int) ∧ Hid (PlE w (plL (xs.take k)) wr)) (fun _ q _ => xs.length + 1 - (intOf q).toNat)
  case atStart => exact ⟨0, by omega, rfl, rfl, H0.out⟩
  case round =>
    obtain ⟨k, hk, rfl, rfl, HP⟩ := hrel
    obtain ⟨c, F, G, hP⟩ := HP.out
    have HPl := Lib.hid hP
    by_cases hlt : k < xs.length
    · have hi : (k : Int) < (xs.length : Int) := by omega
      obtain ⟨a, s, bv, rfl, hs, hfit, h6⟩ := HA.out k hlt
      have HT := Lib.hid (plL_step hs)
      have hok := plL_ok (xs := xs.take k) (fun s hs => HOKS.out s (List.mem_of_mem_take hs))
      have hsz : (plL (xs.take k)).sz ≤ 100000 := by have := plL_sz (xs.take k); have := cost_take xs k; omega
      have hbl : s.b.length ≤ 100000 := by have := cost_mem (List.mem_of_getElem? hs); omega
      have HC := Lib.hid (act_any (hP.drew.ab hok hsz) s hfit.ok bv (h6.nb.below hP.below.drew) hbl (fun k hk hF => by have := h6.nb.lt hk; have := hP.loF k hF; omega))
      have HK := Lib.hid (show At6 wr.drew (a.add (k * 6)) s bv from h6.below hP.below.drew)
      have H6 := Lib.hid h6
      clear hP hs hfit hok hsz hbl h6 H0
      go_wp2
      have hK0 := HK.out
      refine wp_region_held_drew (S := fun W => At6 W (a.add (k * 6)) s bv) (by kernel_rfl) hK0 (fun _ => ?_)
      have hS := hK0
      refine take_d (i := 0) (d := some 21) (v := ?_) rfl rfl (by kernel_rfl) (by kernel_rfl) (by kernel_rfl) (fun _ _ _ h => h) (.inl ⟨by rfl, ?_⟩) hS ?_
      rotate_left
      · intro W hW
        go_simp
        try with_reducible rfl
      try simp only [Act.put, List.setIfInBounds_toArray, List.set_cons_zero, List.set_cons_succ]
      refine take_d (i := 2) (d := some 23) (v := ?_) rfl rfl (by kernel_rfl) (by kernel_rfl) (by kernel_rfl) (fun _ _ _ h => h) (.inl ⟨by rfl, ?_⟩) hS ?_
      rotate_left
      · intro W hW
        go_simp
        try with_reducible rfl
      try simp only [Act.put, List.setIfInBounds_toArray, List.set_cons_zero, List.set_cons_succ]
      refine take_d (i := 3) (d := some 24) (v := ?_) rfl rfl (by kernel_rfl) (by kernel_rfl) (by kernel_rfl) (fun _ _ _ h => h) (.inl ⟨by rfl, ?_⟩) hS ?_
      rotate_left
      · intro W hW
        go_simp
        try with_reducible rfl
      try simp only [Act.put, List.setIfInBounds_toArray, List.set_cons_zero, List.set_cons_succ]
      refine take_d (i := 4) (d := some 25) (v := ?_) rfl rfl (by kernel_rfl) (by kernel_rfl) (by kernel_rfl) (fun _ _ _ h => h) (.inl ⟨by rfl, ?_⟩) hS ?_
      rotate_left
      · intro W hW
        go_simp
        try with_reducible rfl
      try simp only [Act.put, List.setIfInBounds_toArray, List.set_cons_zero, List.set_cons_succ]
      refine take_d (i := 5) (d := some 26) (v := ?_) rfl rfl (by kernel_rfl) (by kernel_rfl) (by kernel_rfl) (fun _ _ _ h => h) (.inl ⟨by rfl, ?_⟩) hS ?_
      rotate_left
      · intro W hW
        have p1 := hW.k; have p2 := hW.ln; have p3 := hW.b; have p4 := hW.y; have p5 := hW.x; have p6 := hW.up
        go_simp
        try with_reducible rfl
      try simp only [Act.put, List.setIfInBounds_toArray, List.set_cons_zero, List.set_cons_succ]
      refine wpAnyH_all (rs := [1]) (by kernel_rfl) (by simp) (fun i hi => ?_)
      simp only [List.mem_cons, List.not_mem_nil, or_false] at hi
      subst hi
      refine .inl ?_
      refine o_load_R HPl.out.box.drew rfl rfl ?_
      refine ⟨hS, ?_⟩
      try simp only [Act.put, List.setIfInBounds_toArray, List.set_cons_zero, List.set_cons_succ]
      refine wpAnyH_all (rs := [6]) (by kernel_rfl) (by simp) (fun i hi => ?_)
      simp only [List.mem_cons, List.not_mem_nil, or_false] at hi
      subst hi
      refine .inl ?_
      go_simp
      refine (HC.out).mono ?_
      rintro e wc ⟨c', rfl, hact⟩
      obtain ⟨hbox, hbw, hc9, hc1, hp2⟩ := HPl.out.drew.step hact
      have hS : (fun W => At6 W (a.add (k * 6)) s bv) wc := H6.out.below hbw
      clear hact
      refine ⟨hS, ?_⟩
      try simp only [Act.put, List.setIfInBounds_toArray, List.set_cons_zero, List.set_cons_succ]
      refine take_d (i := 7) (d := some 20) (v := ?_) rfl rfl (by kernel_rfl) (by kernel_rfl) (by kernel_rfl) (fun _ _ _ h => h) (.inl ⟨by rfl, ?_⟩) hS ?_
      rotate_left
      · intro W hW
        go_simp
        try with_reducible rfl
      try simp only [Act.put, List.setIfInBounds_toArray, List.set_cons_zero, List.set_cons_succ]
      refine take_d (i := 8) (d := some 28) (v := ?_) rfl rfl (by kernel_rfl) (by kernel_rfl) (by kernel_rfl) (fun _ _ _ h => h) (.inl ⟨by rfl, ?_⟩) hS ?_
      rotate_left
      · intro W hW
        go_simp
        try with_reducible rfl
      try simp only [Act.put, List.setIfInBounds_toArray, List.set_cons_zero, List.set_cons_succ]
      refine take_d (i := 9) (d := some 29) (v := ?_) rfl rfl (by kernel_rfl) (by kernel_rfl) (by kernel_rfl) (fun _ _ _ h => h) (.inl ⟨by rfl, ?_⟩) hS ?_
      rotate_left
      · intro W hW
        go_simp
        try with_reducible rfl
      try simp only [Act.put, List.setIfInBounds_toArray, List.set_cons_zero, List.set_cons_succ]
      refine wpAnyH_all (rs := [10]) (by kernel_rfl) (by simp) (fun i hi => ?_)
      simp only [List.mem_cons, List.not_mem_nil, or_false] at hi
      subst hi
      refine .inl ?_
      refine o_store_R c' hbox ⟨hc9, hc1⟩ rfl rfl rfl ?_
      have hS : (fun W => At6 W (a.add (k * 6)) s bv) (World.setRow wc (w.heap.size + 1 + 1) c') := H6.out.below (below_setRow hbw (by omega) _)
      refine ⟨hS, ?_⟩
      try simp only [Act.put, List.setIfInBounds_toArray, List.set_cons_zero, List.set_cons_succ]
      refine take_d (i := 11) (d := some 7) (v := ?_) rfl rfl (by kernel_rfl) (by kernel_rfl) (by kernel_rfl) (fun _ _ _ h => h) (.inl ⟨by rfl, ?_⟩) hS ?_
      rotate_left
      · intro W hW
        go_simp
        try with_reducible rfl
      try simp only [Act.put, List.setIfInBounds_toArray, List.set_cons_zero, List.set_cons_succ]
      refine wpAnyH_done (by kernel_rfl) ?_ _
      have HP2 := Lib.hid hp2
      clear hS hK0 hp2 HPl HC HK
      generalize (plL (xs.take k)).act s = l' at HT HP2
      go_wp2
      go_roundw
      case rel => exact ⟨k + 1, by omega, rfl, by go_num, by rw [HT.out]; exact HP2.out⟩
      case measure => simp [intOf]; omega
    · obtain rfl : k = xs.length := by omega
      have hlt' : ¬ ((xs.length : Nat) : Int) < (xs.length : Int) := by omega
      have e1 : xs.take xs.length = xs := List.take_length
      rw [e1] at HPl hP
      have hok := plL_ok HOKS.out
      have hsz : (plL xs).sz ≤ 200000 := by have := plL_sz xs; omega
      have HIs := Lib.hid (fun W (ha : At W (w.heap.size + 1) (plL xs) F) (hr : Rv W (plL xs) c G) => is_any ha hr hok hsz)
      have HK := Lib.hid (show Pl w (plL xs) c F G wr.drew from hP.drew)
      have HOK := Lib.hid (show c.size = 9 ∧ c.all (·.oneCell') = true from ⟨hP.rv.size, hP.rv.one⟩)
      clear hP hok hsz HP HPl H0 e1
      go_wp2
      have hK0 := HK.out
      have hP := hK0
      have hK0 : Pz w (plL xs) c F G wr.drew := hP.pz
      refine wp_region_held_drew (S := Pz w (plL xs) c F G) (by kernel_rfl) hK0 (fun _ => ?_)
      have hS := hK0
      refine take_d (i := 0) (d := some 30) (v := ?_) rfl rfl (by kernel_rfl) (by kernel_rfl) (by kernel_rfl) (fun _ _ _ h => h) (.inl ⟨by rfl, ?_⟩) hS ?_
      rotate_left
      · intro W hW
        go_simp
        try with_reducible rfl
      try simp only [Act.put, List.setIfInBounds_toArray, List.set_cons_zero, List.set_cons_succ]
      refine take_d (i := 1) (d := some 31) (v := .agg c) rfl rfl (by kernel_rfl) (by kernel_rfl) (by kernel_rfl) (fun _ _ _ h => h) (y_R (by kernel_rfl) rfl rfl (fun W hW => hW.box) HOK.out.1) hS ?_
      try simp only [Act.put, List.setIfInBounds_toArray, List.set_cons_zero, List.set_cons_succ]
      refine take_d (i := 2) (d := some 32) (v := ?_) rfl rfl (by kernel_rfl) (by kernel_rfl) (by kernel_rfl) (fun _ _ _ h => h) (.inl ⟨by rfl, ?_⟩) hS ?_
      rotate_left
      · intro W hW
        go_simp
        try with_reducible rfl
      try simp only [Act.put, List.setIfInBounds_toArray, List.set_cons_zero, List.set_cons_succ]
      refine take_d (i := 3) (d := some 33) (v := ?_) rfl rfl (by kernel_rfl) (by kernel_rfl) (by kernel_rfl) (fun _ _ _ h => h) (.inl ⟨by rfl, ?_⟩) hS ?_
      rotate_left
      · intro W hW
        go_simp
        try with_reducible rfl
      try simp only [Act.put, List.setIfInBounds_toArray, List.set_cons_zero, List.set_cons_succ]
      refine take_d (i := 4) (d := some 34) (v := ?_) rfl rfl (by kernel_rfl) (by kernel_rfl) (by kernel_rfl) (fun _ _ _ h => h) (.inl ⟨by rfl, ?_⟩) hS ?_
      rotate_left
      · intro W hW
        go_simp
        try with_reducible rfl
      try simp only [Act.put, List.setIfInBounds_toArray, List.set_cons_zero, List.set_cons_succ]
      refine take_d (i := 5) (d := some 35) (v := .agg c) rfl rfl (by kernel_rfl) (by kernel_rfl) (by kernel_rfl) (fun _ _ _ h => h) (y_R (by kernel_rfl) rfl rfl (fun W hW => hW.box) HOK.out.1) hS ?_
      try simp only [Act.put, List.setIfInBounds_toArray, List.set_cons_zero, List.set_cons_succ]
      refine wpAnyH_all (rs := [6]) (by kernel_rfl) (by simp) (fun i hi => ?_)
      simp only [List.mem_cons, List.not_mem_nil, or_false] at hi
      subst hi
      refine .inl ?_
      go_simp
      refine (HIs.out _ hS.at_ hS.rv).mono ?_
      rintro e wc ⟨rfl, hb⟩
      have hP := hP.after hb
      have hS : Pz w (plL xs) c F G wc := hP.pz
      clear hb
      refine ⟨hS, ?_⟩
      try simp only [Act.put, List.setIfInBounds_toArray, List.set_cons_zero, List.set_cons_succ]
      refine take_d (i := 7) (d := some 37) (v := ?_) rfl rfl (by kernel_rfl) (by kernel_rfl) (by kernel_rfl) (fun _ _ _ h => h) (.inl ⟨by rfl, ?_⟩) hS ?_
      rotate_left
      · intro W hW
        go_simp
        try with_reducible rfl
      try simp only [Act.put, List.setIfInBounds_toArray, List.set_cons_zero, List.set_cons_succ]
      refine take_d (i := 8) (d := some 2) (v := ?_) rfl rfl (by kernel_rfl) (by kernel_rfl) (by kernel_rfl) (fun _ _ _ h => h) (.inl ⟨by rfl, ?_⟩) hS ?_
      rotate_left
      · intro W hW
        go_simp
        try with_reducible rfl
      try simp only [Act.put, List.setIfInBounds_toArray, List.set_cons_zero, List.set_cons_succ]
      refine wpAnyH_all (rs := [9]) (by kernel_rfl) (by simp) (fun i hi => ?_)
      simp only [List.mem_cons, List.not_mem_nil, or_false] at hi
      subst hi
      refine .inl ?_
      refine o_store_R c hP.res HOK.out rfl rfl rfl ?_
      have HR := Lib.hid (hP.res.set HOK.out.1 HOK.out.2)
      have hend := hP.stored c
      have hS := hS.ressed c
      refine ⟨hS, ?_⟩
      try simp only [Act.put, List.setIfInBounds_toArray, List.set_cons_zero, List.set_cons_succ]
      refine take_d (i := 10) (d := some 4) (v := ?_) rfl rfl (by kernel_rfl) (by kernel_rfl) (by kernel_rfl) (fun _ _ _ h => h) (.inl ⟨by rfl, ?_⟩) hS ?_
      rotate_left
      · intro W hW
        go_simp
        try with_reducible rfl
      try simp only [Act.put, List.setIfInBounds_toArray, List.set_cons_zero, List.set_cons_succ]
      refine wpAnyH_done (by kernel_rfl) ?_ _
      have HE := Lib.hid hend
      clear hS hK0 hend HK HIs
      go_wp2
      refine bodyPost_ret (res_sRs (fn := Try.f11) rfl _ HR.out rfl) rfl ⟨c, rfl, HE.out⟩
end Go.Proofs.Ytmnkggnghflcpaa

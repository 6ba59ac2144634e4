/-
  Layer 7: act of the statements: a call by both: walks, by what is called. Written by gen_act.py.
-/
import Derived.Test.YtmnkggnghflcpaaRef3
import Derived.Test.YtmnkggnghflcpaaWorks
import Derived.Test.YtmnkggnghflcpaaArgs
namespace Go.Proofs.Ytmnkggnghflcpaa
open Go.RowKit
set_option maxHeartbeats 1000000
set_option linter.unusedVariables false
set_option linter.unusedSimpArgs false

/-- Behind a call by both: lines and the document's stand alike, apart; z: whatever lies below it and was made by the call is neither's. -/
structure PP (w : World) (S : Nat) (l' : Ls) (c' : Array Value) (F G : Nat → Prop) (z : Nat) (F' G' : Nat → Prop) (W : World) : Prop where
  at_ : At W S l' F'
  rv : Rv W l' c' G'
  fF : ∀ k, F' k → F k ∨ z ≤ k
  gG : ∀ k, G' k → G k ∨ z ≤ k
  sep : ∀ k, F' k → ¬ G' k
  t : Turned F w W
/-- What a call by both makes. -/
def ActC (w : World) (S : Nat) (l' : Ls) (F G : Nat → Prop) (c' : Array Value) (w' : World) : Prop := ∃ F' G', PP w S l' c' F G w.heap.size F' G' w'
section
variable {w W W' : World} {S z : Nat} {l l' : Ls} {c c' : Array Value} {F G F' G' : Nat → Prop}
theorem PP.keep {B : Nat → Prop} (h : PP w S l' c' F G z F' G' W) (ht : Turned B W W') (hB : ∀ k, B k → w.heap.size ≤ k ∧ k < z) (hF : ∀ k, F k → k < w.heap.size) (hG : ∀ k, G k → k < w.heap.size) : PP w S l' c' F G z F' G' W' :=
  ⟨h.at_.turned ht (fun k hk hb => by have := hB k hb; rcases h.fF k hk with e | e; have := hF k e; omega; omega), h.rv.turned ht (fun k hk hb => by have := hB k hb; rcases h.gG k hk with e | e; have := hG k e; omega; omega), h.fF, h.gG, h.sep,
    h.t.trans ht (fun k hk => .inr (hB k hk).1)⟩
theorem PP.drew (h : PP w S l' c' F G z F' G' W) : PP w S l' c' F G z F' G' W.drew := ⟨h.at_.keep fun _ _ => rfl, h.rv.keep fun _ _ => rfl, h.fF, h.gG, h.sep, h.t.drew⟩
theorem PP.actc (h : PP w S l' c' F G z F' G' W) (hz : w.heap.size ≤ z) : ActC w S l' F G c' W :=
  ⟨F', G', h.at_, h.rv, fun k hk => (h.fF k hk).imp id (fun e => by omega), fun k hk => (h.gG k hk).imp id (fun e => by omega), h.sep, h.t⟩
end
/-- The boxes of act. -/
structure A3 (w : World) (c ac : Array Value) (W : World) : Prop where
  a : Rf W w.heap.size c
  x : Blk W (w.heap.size + 1) ac 39
  r : Rf W (w.heap.size + 1 + 1) zR
  z : w.heap.size + 1 + 1 + 1 ≤ W.heap.size
theorem A3.turned {w W W' : World} {c ac : Array Value} {F : Nat → Prop} (h : A3 w c ac W) (ht : Turned F W W') (hF : ∀ k, F k → k < w.heap.size ∨ w.heap.size + 1 + 1 + 1 ≤ k) : A3 w c ac W' :=
  ⟨h.a.turned ht (fun e => by have := hF _ e; omega), h.x.turned ht (fun e => by have := hF _ e; omega), h.r.turned ht (fun e => by have := hF _ e; omega), Nat.le_trans h.z ht.size⟩
theorem A3.below {w W W' : World} {c ac : Array Value} (h : A3 w c ac W) (hb : Below W.heap.size W W') : A3 w c ac W' := ⟨h.a.below hb, h.x.below hb, h.r.below hb, Nat.le_trans h.z hb.size⟩
theorem a3_start (w : World) (c ac : Array Value) (hc : c.size = 9 ∧ c.all (·.oneCell') = true) : A3 w c ac (((w.alloc (.cells c 30)).alloc (.cells ac 39)).alloc (.cells zR 30)) ∧ Below w.heap.size w (((w.alloc (.cells c 30)).alloc (.cells ac 39)).alloc (.cells zR 30)) := by
  have h1 := blk_new (w.alloc (.cells c 30)) ac 39
  have h2 := blk_new ((w.alloc (.cells c 30)).alloc (.cells ac 39)) zR 30
  simp only [World.size_alloc] at h1 h2
  exact ⟨⟨⟨((blk_new _ _ _).alloc _).alloc _, hc.1, hc.2⟩, h1.alloc _, ⟨h2, zR_ok.1, zR_ok.2⟩, by simp⟩, (((Below.refl _ _).alloc (Nat.le_refl _) _).alloc (by simp) _).alloc (by simp <;> omega) _⟩
abbrev aC (k ln : Int) (bv : Value) (y x : Int) (up : Bool) : Array Value := #[.int .i64 k, .int .i64 ln, bv, .int .u8 y, .int .u32 x, .bool up]
theorem ac_cells {W : World} {N : Nat} {k ln y x : Int} {up : Bool} {bv : Value} (h : Blk W N (aC k ln bv y x up) 39) : W.cell? ⟨N, 0, none⟩ = some (.int .i64 k) ∧ W.cell? ⟨N, 1, none⟩ = some (.int .i64 ln) ∧ W.cell? ⟨N, 2, none⟩ = some bv ∧ W.cell? ⟨N, 3, none⟩ = some (.int .u8 y) ∧ W.cell? ⟨N, 4, none⟩ = some (.int .u32 x) ∧ W.cell? ⟨N, 5, none⟩ = some (.bool up) := by
  refine ⟨?_, ?_, ?_, ?_, ?_, ?_⟩ <;> (rw [h.cell]; rfl)
/-- Lines and the document's, apart, ahead of a call by both. -/
structure AB (w : World) (S : Nat) (l : Ls) (c : Array Value) (F G : Nat → Prop) : Prop where
  at_ : At w S l F
  rv : Rv w l c G
  sep : ∀ k, F k → ¬ G k
  ok : l.Ok
  sz : l.sz ≤ 100000
section
variable {w W W' : World} {S : Nat} {l l' l'' : Ls} {c c' : Array Value} {F G : Nat → Prop}
/-- The program's call first. -/
theorem AB.pd (h : AB w S l c F G) (hb : Below w.heap.size w W) (hc : Chg W S l' F W') : ∃ F', At W' S l' F' ∧ Rv W' l c G ∧ (∀ k, F' k → F k ∨ W.heap.size ≤ k) ∧ (∀ k, F' k → ¬ G k) ∧ Turned F w W' ∧ Turned F W W' := by
  obtain ⟨F', a, b, t⟩ := hc
  have hs := hb.size
  refine ⟨F', a, (h.rv.below hb).turned t (fun k hk hF => h.sep k hF hk), b, fun k hk hG => ?_, (Turned.of_below hb F).trans t (fun k hk => .inl hk), t⟩
  rcases b k hk with e | e
  · exact h.sep k e hG
  · have := h.rv.lt k hG; omega
theorem AB.fin1 {F' G' : Nat → Prop} {z : Nat} (h : AB w S l c F G) (a : At W S l' F') (b : ∀ k, F' k → F k ∨ z ≤ k) (s : ∀ k, F' k → ¬ G k) (t : Turned F w W) (hzs : z ≤ W.heap.size) (rv : Rv W' l' c' G') (gG : ∀ k, G' k → G k ∨ W.heap.size ≤ k) (hb : Below W.heap.size W W') : PP w S l' c' F G z F' G' W' :=
  ⟨a.below hb, rv, b, fun k hk => (gG k hk).imp id (fun e => by omega), fun k hk hG => by
    rcases gG k hG with e | e
    · exact s k hk e
    · have := a.lt k hk; omega, t.trans (Turned.of_below hb F) (fun k hk => .inl hk)⟩
/-- The document's first. -/
theorem AB.fin2 {G' : Nat → Prop} {z : Nat} {Z : World} (h : AB w S l c F G) (hbz : Below w.heap.size w Z) (hz : z ≤ Z.heap.size) (rv : Rv W l' c' G') (gG : ∀ k, G' k → G k ∨ z ≤ k) (hbZ : Below Z.heap.size Z W) (hwz : w.heap.size ≤ z) (hc : Chg W S l' F W') : ∃ F', PP w S l' c' F G z F' G' W' ∧ Turned F W W' := by
  obtain ⟨F', a, b, t⟩ := hc
  have hF := h.at_.lt
  have h1 := hbz.size
  have h2 := hbZ.size
  have nG : ∀ k, G' k → ¬ F k := fun k hk hF' => by
    rcases gG k hk with e | e
    · exact h.sep k hF' e
    · have := hF k hF'; omega
  refine ⟨F', ⟨a, rv.turned t nG, fun k hk => (b k hk).imp id (fun e => by omega), gG, fun k hk hG => ?_, ((Turned.of_below hbz F).trans (Turned.of_below hbZ F) (fun k hk => .inl hk)).trans t (fun k hk => .inl hk)⟩, t⟩
  rcases b k hk with e | e
  · exact nG k hG e
  · have := rv.lt k hG; omega
end

/-! ### SetAlarm, SetMask -/
set_option maxRecDepth 100000 in
theorem act0 {w : World} {S : Nat} {l : Ls} {c : Array Value} {F G : Nat → Prop} (h : AB w S l c F G) (ln : Int) (bv : Value) (y x : Int) (up : Bool) :
    Calls Try.prog 13 #[.pointer (some ⟨S, 0, none⟩), .agg c, .agg #[.int .i64 0, .int .i64 ln, bv, .int .u8 y, .int .u32 x, .bool up]] w fun e w' => ∃ c', e = .returned (.tuple #[.agg c', .bool true]) ∧ ActC w S { l with al := x } F G c' w' := by
  obtain ⟨hA, hb⟩ := a3_start w c (aC 0 ln bv y x up) ⟨h.rv.size, h.rv.one⟩
  have HAB := Lib.hid h
  have HF := Lib.hid h.at_.lt
  have HG := Lib.hid h.rv.lt
  have HA := Lib.hid hA
  have HB := Lib.hid hb
  have HAt := Lib.hid (h.at_.below hb)
  clear h hA hb
  go_enter Try.func13, Try.ntmps13
  go_wp2_with fail
  refine (SetAlarm_any HAt.out x).mono ?_
  rintro e w1 ⟨rfl, hc⟩
  obtain ⟨F', a1, r1, b1, s1, t1, t1'⟩ := HAB.out.pd HB.out hc
  have H1 := Lib.hid (HA.out.turned t1' (fun k hk => .inl (HF.out k hk)))
  obtain ⟨pv, tv, ec, eG, r2⟩ := r1
  subst ec
  have HP : Hid (PP w S { l with al := x } (rcL { l with al := x } pv tv) F G (w.heap.size + 1 + 1 + 1) F' G w1) :=
    ⟨a1, ⟨pv, tv, rfl, eG, r2.p, r2.t⟩, fun k hk => (b1 k hk).imp id (fun e => by have := HA.out.z; omega), fun k hk => .inl hk, s1, t1⟩
  have hx := H1.out.x
  have q4 : w1.cell? ⟨w.heap.size + 1, 4, none⟩ = some (.int .u32 x) := by rw [hx.cell]; rfl
  obtain ⟨c0, _⟩ := H1.out.a.cells
  have f0 := H1.out.a.blk.frozen 0
  have HN : Hid (Rf (w1.setCell ⟨w.heap.size, 0, none⟩ (.int .u32 x)) w.heap.size (rcL { l with al := x } pv tv)) := ⟨H1.out.a.blk.setCell 0 (.int .u32 x), (r2.ok _).1, (r2.ok _).2⟩
  have hr : Rf (w1.setCell ⟨w.heap.size, 0, none⟩ (.int .u32 x)) (w.heap.size + 1 + 1) zR := H1.out.r.keep (Below.heap_setCell _ _ _ _ (by simp; omega))
  have HC := Lib.hid (show _ ∧ (rcL { l with al := x } pv tv).size = 9 ∧ (rcL { l with al := x } pv tv).all (·.oneCell') = true from ⟨hr, (r2.ok _).1, (r2.ok _).2⟩)
  have ht : Turned (fun k => k = w.heap.size ∨ k = w.heap.size + 1 + 1) w1 ((w1.setCell ⟨w.heap.size, 0, none⟩ (.int .u32 x)).setRow (w.heap.size + 1 + 1) (rcL { l with al := x } pv tv)) :=
    ((Turned.refl _ w1).setCell (.inl (.inl rfl)) _).trans (turned_setRow _ _ _) (fun k e => .inl (.inr e))
  have HT := Lib.hid ((HP.out.keep ht (by rintro k (e | e) <;> omega) HF.out HG.out).actc (by omega))
  clear hc a1 b1 s1 t1 t1' r2 hx hr ht eG HA HAt HP
  go_wp2_with (first | ((with_reducible apply wp_load_R); (exact HN.out); (rfl)) | ((with_reducible apply wp_store_R _); (exact HC.out); (rfl); (rfl)))
  refine bodyPost_ret (res_R_tmp (fn := Try.f13) rfl _ (HC.out.1.set HC.out.2.1 HC.out.2.2) rfl) rfl ⟨rcL { l with al := x } pv tv, rfl, HT.out⟩
set_option maxRecDepth 100000 in
theorem act4 {w : World} {S : Nat} {l : Ls} {c : Array Value} {F G : Nat → Prop} (h : AB w S l c F G) (ln : Int) (bv : Value) (y x : Int) (up : Bool) (hx : W32 x) :
    Calls Try.prog 13 #[.pointer (some ⟨S, 0, none⟩), .agg c, .agg #[.int .i64 4, .int .i64 ln, bv, .int .u8 y, .int .u32 x, .bool up]] w fun e w' => ∃ c', e = .returned (.tuple #[.agg c', .bool true]) ∧ ActC w S { l with ms := x % 16 } F G c' w' := by
  obtain ⟨hA, hb⟩ := a3_start w c (aC 4 ln bv y x up) ⟨h.rv.size, h.rv.one⟩
  have HAB := Lib.hid h
  have HF := Lib.hid h.at_.lt
  have HG := Lib.hid h.rv.lt
  have HA := Lib.hid hA
  have HB := Lib.hid hb
  have HAt := Lib.hid (h.at_.below hb)
  have HX := Lib.hid hx
  clear h hA hb hx
  go_enter Try.func13, Try.ntmps13
  go_wp2_with fail
  refine (SetMask_any HAt.out x HX.out).mono ?_
  rintro e w1 ⟨rfl, hc⟩
  obtain ⟨F', a1, r1, b1, s1, t1, t1'⟩ := HAB.out.pd HB.out hc
  have H1 := Lib.hid (HA.out.turned t1' (fun k hk => .inl (HF.out k hk)))
  have hx := H1.out.x
  have q4 : w1.cell? ⟨w.heap.size + 1, 4, none⟩ = some (.int .u32 x) := by rw [hx.cell]; rfl
  have HM := Lib.hid (RSetMask_any r1 x HX.out)
  have HP1 := Lib.hid (show _ ∧ _ ∧ _ ∧ _ from ⟨a1, b1, s1, t1⟩)
  have HZ := Lib.hid HA.out.z
  have hsz := t1'.size
  clear hc a1 r1 b1 s1 t1 t1' hx HA HAt
  go_wp2_with ((with_reducible apply wp_load_R); (exact H1.out.a); (rfl))
  refine HM.out.mono ?_
  rintro e w2 ⟨c', rfl, G', rv, gG, hb2⟩
  have HP := Lib.hid (HAB.out.fin1 HP1.out.1 (fun k hk => (HP1.out.2.1 k hk).imp id (fun e => by have := HZ.out; omega)) HP1.out.2.2.1 HP1.out.2.2.2 (Nat.le_trans HZ.out hsz) rv gG hb2)
  have HC := Lib.hid (show _ ∧ c'.size = 9 ∧ c'.all (·.oneCell') = true from ⟨H1.out.r.below hb2, rv.size, rv.one⟩)
  have HT := Lib.hid ((HP.out.keep (turned_setRow w2 (w.heap.size + 1 + 1) c') (by intro k e; omega) HF.out HG.out).actc (by omega))
  clear rv gG hb2 HP HM HP1
  go_wp2_with ((with_reducible apply wp_store_R _); (exact HC.out); (rfl); (rfl))
  refine bodyPost_ret (res_R_tmp (fn := Try.f13) rfl _ (HC.out.1.set HC.out.2.1 HC.out.2.2) rfl) rfl ⟨c', rfl, HT.out⟩
end Go.Proofs.Ytmnkggnghflcpaa

/-
  Layer 16: the document's numbers: walks.
-/
import Derived.Test.YtjffclcjijpmiaaG01
import Derived.Test.YtjffclcjijpmiaaG04
import Derived.WalkKit
import Derived.Lib.Hide
import Derived.Deep.RegionWith
import Derived.LoopN
set_option linter.unusedVariables false
set_option linter.unusedSimpArgs false
namespace Go.Proofs.Ytjffclcjijpmiaa.LG
open Go.RowKit
set_option maxHeartbeats 4000000
set_option maxRecDepth 100000
set_option linter.unusedVariables false
set_option linter.unusedSimpArgs false

/-- Bytes that are read; bytes of one's own that grow. -/
def By8 (l : List Int) : Prop := ∀ x ∈ l, 0 ≤ x ∧ x < 256
abbrev u8s (l : List Int) : List Value := l.map (Value.int .u8)
def Bs (w : World) (v : Value) (l : List Int) : Prop := Rd 1 w v l.length (u8s l) ∧ By8 l
def Og (w : World) (v : Value) (l : List Int) : Prop := Gs 5 1 w v l.length (u8s l)
section
variable {w w' : World} {v : Value} {l : List Int}
theorem Bs.below (h : Bs w v l) (hb : Below w.heap.size w w') : Bs w' v l := ⟨h.1.below hb, h.2⟩
theorem Og.below (h : Og w v l) (hb : Below w.heap.size w w') : Og w' v l := Gs.below h hb
theorem Og.bs (h : Og w v l) (hl : By8 l) : Bs w v l := ⟨Gs.rd h, hl⟩
theorem Og.nil (w : World) : Og w (.slice none 0 0) [] := Gs.nil _ _ w
theorem Bs.shape (h : Bs w v l) : ∃ ao c, v = .slice ao l.length c ∧ l.length ≤ c ∧ l.length ≤ maxLen := h.1.shape
theorem Og.shape (h : Og w v l) : ∃ ao c, v = .slice ao l.length c ∧ l.length ≤ c ∧ l.length ≤ maxLen := Gs.shape h
theorem u8s_sz (l : List Int) : u8s l = l.flatMap fun x => [Value.int .u8 x] := by
  induction l with
  | nil => rfl
  | cons x r ih => rw [u8s, List.map_cons, List.flatMap_cons, ← ih]; rfl
theorem Bs.at_ (h : Bs w v l) {k : Nat} (hk : k < l.length) : ∃ g o c x, v = .slice (some ⟨g, o, none⟩) l.length c ∧ l[k]? = some x ∧ (0 ≤ x ∧ x < 256) ∧ w.cell? ⟨g, o + k, none⟩ = some (.int .u8 x) := by
  obtain ⟨g, o, c, e, _, hr⟩ := Rd.elem h.1 hk
  have hp : l[k]? = some l[k] := List.getElem?_eq_getElem hk
  rw [u8s_sz, flat_at (fun x => [Value.int .u8 x]) (fun _ => rfl) l k _ hp] at hr
  exact ⟨g, o, c, _, e, hp, h.2 _ (List.getElem_mem hk), by have := hr 0 _ rfl; simpa using this⟩
end
theorem infoU8 : (Try.prog.info? 5).map (fun i => (i.zero, i.size, i.bytes)) = some (some (.int .u8 0), 1, 1) := by kernel_rfl
theorem b_src (w : World) (x : Int) : Src Try.prog 1 34 (.slice (some ⟨w.heap.size, 0, none⟩) 1 1) 1 [.int .u8 x] (w.alloc (.cells #[.int .u8 x] 5)) := by
  refine Src.ofSlice _ Try.underlying34 _ 1 1 _ rfl (fun j u hj => ?_) (fun u hu => ?_)
  · rw [add_lit, (blk_new w _ _).cell, Nat.zero_add]
    simpa using hj
  · simp at hu
    subst hu; rfl

theorem bel1 (w : World) (o : Obj) : Below w.heap.size w (w.alloc o) := (Below.refl _ _).alloc (Nat.le_refl _) o
theorem belT {a b c : World} (h : Below a.heap.size a b) (k : Below b.heap.size b c) : Below a.heap.size a c := h.trans (k.mono h.size)

/-! ### within -/
theorem within_any (n a b : Int) (w : World) : Calls Try.prog 29 #[.int .i64 n, .int .i64 a, .int .i64 b] w fun e w' => e = .returned (.bool (decide (a ≤ n ∧ n ≤ b))) ∧ w = w' := by
  by_cases h1 : a ≤ n
  · by_cases h2 : n ≤ b
    · rw [decide_eq_true ⟨h1, h2⟩]
      go_enter Try.func29, Try.ntmps29
      go_wp2
      go_ret
      exact ⟨rfl, rfl⟩
    · have h2' : b < n := by omega
      rw [decide_eq_false (fun h => h2 h.2)]
      go_enter Try.func29, Try.ntmps29
      go_wp2
      go_ret
      exact ⟨rfl, rfl⟩
  · have h1' : n < a := by omega
    rw [decide_eq_false (fun h => h1 h.1)]
    go_enter Try.func29, Try.ntmps29
    go_wp2
    go_ret
    exact ⟨rfl, rfl⟩

/-! ### number -/
/-- What is told of a number so far. -/
structure NuI (w : World) (ov : Value) (out : List Int) (W : World) : Prop where
  b : Below w.heap.size w W
  g : Og W ov out
  lo : ∀ k, blkOf ov = some k → w.heap.size ≤ k
section
variable {w W W' : World} {ov v' : Value} {out : List Int} {x : Int}
theorem NuI.app (h : NuI w ov out W) (hg : Gs 5 1 W' v' (out.length + 1) (u8s out ++ [.int .u8 x])) (ht : Turned (fun k => blkOf ov = some k) (W.alloc (.cells #[.int .u8 x] 5)) W') (hn : ∀ k, blkOf v' = some k → blkOf ov = some k ∨ (W.alloc (.cells #[.int .u8 x] 5)).heap.size ≤ k) : NuI w v' (out ++ [x]) W' := by
  have hz := h.b.size
  have hb1 := bel1 W (.cells #[.int .u8 x] 5)
  have hz1 := hb1.size
  refine ⟨(h.b.trans (hb1.mono hz)).trans (ht.below (by omega) (fun k e => h.lo k e)), ?_, fun k hk => ?_⟩
  · show Gs 5 1 W' v' (out ++ [x]).length (u8s (out ++ [x]))
    rw [List.length_append, List.length_singleton, u8s, List.map_append]; exact hg
  · rcases hn k hk with e | e
    · exact h.lo k e
    · omega
end
theorem number_any (m : Nat) (hm : m < 2 ^ 63) (w : World) : Calls Try.prog 37 #[.int .i64 m] w fun e w' => ∃ v, e = .returned v ∧ Og w' v (num m) ∧ Below w.heap.size w w' ∧ ∀ k, blkOf v = some k → w.heap.size ≤ k := by
  have H0 : Hid (NuI w (.slice none 0 0) [] w) := ⟨Below.refl _ _, Og.nil w, fun k hk => by simp [blkOf] at hk⟩
  have hm' : m < 9223372036854775808 := hm
  have HL := Lib.hid (num_len 8 (n := m) (by omega))
  go_enter Try.func37, Try.ntmps37
  go_wp2
  go_loopw [0, 3] (fun nv ov wr => ∃ (n : Nat) (out : List Int), n ≤ m ∧ nv = .int .i64 (n : Int) ∧ Hid (NuI w ov out wr) ∧ Hid (num m = out ++ num n)) (fun nv _ _ => (intOf nv).toNat)
  case atStart => exact ⟨m, [], by omega, rfl, H0.out, Lib.hid rfl⟩
  case round =>
    obtain ⟨n, out, hn, rfl, HP, HQ⟩ := hrel
    have hl : out.length ≤ 20 := by
      have h1 := congrArg List.length HQ.out
      rw [List.length_append] at h1
      have h2 := HL.out
      omega
    obtain ⟨oo, co, eo, _⟩ := HP.out.g.shape
    subst eo
    by_cases h : 128 ≤ n
    · have h' : (128 : Int) ≤ (n : Int) := by omega
      have HSr := Lib.hid (b_src wr ((n : Int) % 128 + 128))
      have HG := Lib.hid (HP.out.g.below (bel1 wr (.cells #[.int .u8 ((n : Int) % 128 + 128)] 5)))
      have HQ2 : Hid (num m = (out ++ [(n : Int) % 128 + 128]) ++ num (n / 128)) := by
        have := HQ.out
        rw [num_big h, show (((n % 128 : Nat) : Int)) = (n : Int) % 128 by omega] at this
        rw [this]
        exact Lib.hid (by simp)
      go_wp2_with (refine wp_append_g rfl _ _ rfl Try.underlying34 infoU8 rfl (by omega) (by omega) rfl rfl HG.out HSr.out (by omega) ?_)
      intro v6 w6 hg6 ht6 hn6
      have HP6 := Lib.hid (HP.out.app hg6 ht6 (by simp only [World.size_alloc]; exact hn6))
      clear hg6 ht6 hn6 HG HSr HP HQ
      go_wp2
      refine ⟨⟨n / 128, _, by omega, by go_num, HP6, HQ2⟩, ?_⟩
      simp [intOf]; omega
    · have h' : (n : Int) < 128 := by omega
      have HSr := Lib.hid (b_src wr (n : Int))
      have HG := Lib.hid (HP.out.g.below (bel1 wr (.cells #[.int .u8 (n : Int)] 5)))
      have HQ2 : Hid (num m = (out ++ [(n : Int)])) := by
        have := HQ.out
        rw [num_small (n := n) (by omega)] at this
        exact Lib.hid this
      go_wp2_with (refine wp_append_g rfl _ _ rfl Try.underlying34 infoU8 rfl (by omega) (by omega) rfl rfl HG.out HSr.out (by omega) ?_)
      intro v6 w6 hg6 ht6 hn6
      have HP6 := Lib.hid (HP.out.app hg6 ht6 (by simp only [World.size_alloc]; exact hn6))
      clear hg6 ht6 hn6 HG HSr HP HQ
      go_wp2
      go_ret
      exact ⟨_, rfl, by rw [HQ2.out]; exact HP6.out.g, HP6.out.b, HP6.out.lo⟩

/-! ### take -/
theorem pw_succ : ∀ k : Nat, k < 8 → (128 : Int) ^ (k + 1) = 128 ^ k * 128 ∧ (128 : Int) ^ (k + 1) ≤ 72057594037927936 := by
  intro k hk
  refine ⟨Int.pow_succ _ _, ?_⟩
  have : ∀ k : Fin 8, (128 : Int) ^ (k.val + 1) ≤ 72057594037927936 := by decide
  exact this ⟨k, hk⟩
/-- Where a number ends that begins at a place: behind it; or it goes on (0), or is none (-1). -/
def endAt (at_ : Int) (j : Int) : Int := if 0 < j then at_ + j else j
theorem tk_sign : ∀ (b : List Int) (k : Nat) (u n : Int), -1 ≤ (tk k u n b).2
  | [], _, _, _ => by simp [tk]
  | x :: r, k, u, n => by
    rw [tk_cons]
    split
    · simp
    · split
      · simp only; omega
      · exact tk_sign r _ _ _
theorem take_any {w : World} {v : Value} {l : List Int} (hv : Bs w v l) {at_ : Nat} (ha : at_ ≤ l.length) : Calls Try.prog 47 #[v, .int .i64 at_] w fun e w' => e = .returned (.tuple #[.int .i64 (tk 0 1 0 (l.drop at_)).1, .int .i64 (endAt at_ (tk 0 1 0 (l.drop at_)).2)]) ∧ w = w' := by
  obtain ⟨res, hr⟩ : ∃ res, Hid (res = tk 0 1 0 (l.drop at_)) := ⟨_, rfl⟩
  rw [← hr.out]
  obtain ⟨oa, ca, rfl, _, hla⟩ := hv.shape
  unfold maxLen at hla
  have HV := Lib.hid hv
  clear hv
  go_enter Try.func47, Try.ntmps47
  go_wp2
  go_loopw [6, 7, 8] (fun nv uv iv wr => ∃ (k : Nat) (n u : Int), at_ + k ≤ l.length ∧ k ≤ 8 ∧ nv = .int .i64 n ∧ uv = .int .i64 u ∧ iv = .int .i64 ((at_ : Int) + k) ∧ 0 ≤ n ∧ n < u ∧ Hid (u = 128 ^ k) ∧ w = wr ∧ Hid (res = tk k u n (l.drop (at_ + k)))) (fun _ _ iv _ => l.length + 1 - (intOf iv).toNat)
  case atStart => exact ⟨0, 0, 1, by omega, by omega, rfl, rfl, by go_num, by omega, by omega, Lib.hid rfl, rfl, Lib.hid (by rw [hr.out]; rfl)⟩
  case round =>
    obtain ⟨k, n, u, hk, hk8, rfl, rfl, rfl, hn0, hnu, HU, rfl, HR⟩ := hrel
    have hu56 : u ≤ 72057594037927936 := by
      rw [HU.out]
      exact (by decide : ∀ k : Fin 9, (128 : Int) ^ k.val ≤ 72057594037927936) ⟨k, by omega⟩
    by_cases hlt : at_ + k < l.length
    · have hi : (at_ : Int) + k < (l.length : Int) := by omega
      obtain ⟨g1, o1, c1, x, e1, l1, hx, q1⟩ := HV.out.at_ hlt
      simp at e1
      obtain ⟨rfl, rfl⟩ := e1
      have hdrop : l.drop (at_ + k) = x :: l.drop (at_ + (k + 1)) := by
        obtain ⟨h1, h2⟩ := List.getElem?_eq_some_iff.1 l1
        rw [List.drop_eq_getElem_cons h1, h2]; rfl
      have HR2 : Hid (res = if k = 8 ∧ 128 ≤ x ∨ 0 < k ∧ x = 0 then (0, -1) else if x < 128 then (n + x % 128 * u, (k : Int) + 1) else tk (k + 1) (u * 128) (n + x % 128 * u) (l.drop (at_ + (k + 1)))) := by
        have := HR.out; rw [hdrop, tk_cons] at this; exact Lib.hid this
      have hm1 : x % 128 * u ≤ 127 * u := Int.mul_le_mul_of_nonneg_right (by omega) (by omega)
      have hm0 : 0 ≤ x % 128 * u := Int.mul_nonneg (by omega) (by omega)
      have hdx : n + x % 128 * u < u * 128 := by omega
      clear hdrop l1 HR
      have c1 : ((at_ : Int) + k).toNat = at_ + k := by omega
      have c2 : o1 + ((at_ : Int) + k).toNat = o1 + (at_ + k) := by omega
      have stop : k = 8 ∧ 128 ≤ x ∨ 0 < k ∧ x = 0 → Hid (res = (0, -1)) := fun hb => by have := HR2.out; rw [if_pos hb] at this; exact Lib.hid this
      have last : ¬ (k = 8 ∧ 128 ≤ x ∨ 0 < k ∧ x = 0) → x < 128 → Hid (res = (n + x % 128 * u, (k : Int) + 1)) := fun hb hx => by have := HR2.out; rw [if_neg hb, if_pos hx] at this; exact Lib.hid this
      have more : ¬ (k = 8 ∧ 128 ≤ x ∨ 0 < k ∧ x = 0) → ¬ x < 128 → Hid (res = tk (k + 1) (u * 128) (n + x % 128 * u) (l.drop (at_ + (k + 1)))) := fun hb hx => by have := HR2.out; rw [if_neg hb, if_neg hx] at this; exact Lib.hid this
      clear HR2
      have hk0 : (0 : Int) ≤ k := by omega
      have hfit : n + x % 128 * u ≤ 9223372036854775807 := by omega
      by_cases h8 : k = 8
      · subst h8
        by_cases hx1 : 128 ≤ x
        · obtain ⟨r1, r2⟩ := res
          have e := (stop (by omega)).out
          simp at e
          obtain ⟨rfl, rfl⟩ := e
          clear stop last more
          go_wp2
          go_ret2
          exact ⟨rfl, rfl⟩
        · by_cases hx0 : x = 0
          · subst hx0
            obtain ⟨r1, r2⟩ := res
            have e := (stop (by omega)).out
            simp at e
            obtain ⟨rfl, rfl⟩ := e
            clear stop last more
            go_wp2
            go_ret2
            exact ⟨rfl, rfl⟩
          · have hx2 : x < 128 := by omega
            have hx3 : 0 < x := by omega
            obtain ⟨r1, r2⟩ := res
            have e := (last (by omega) (by omega)).out
            simp only [Prod.mk.injEq] at e
            obtain ⟨rfl, rfl⟩ := e
            have HE : Hid (endAt at_ (((8 : Nat) : Int) + 1) = (at_ : Int) + 8 + 1) := Lib.hid (by unfold endAt; rw [if_pos (by omega)]; omega)
            clear stop last more
            go_wp2
            go_ret2
            refine ⟨?_, rfl⟩
            show Ending.returned (.tuple #[.int .i64 (n + x % 128 * u), .int .i64 ((at_ : Int) + 8 + 1)]) = Ending.returned (.tuple #[.int .i64 (n + x % 128 * u), .int .i64 (endAt at_ (((8 : Nat) : Int) + 1))])
            rw [HE.out]
      · have h8' : (k : Int) < 8 := by omega
        by_cases hk1 : k = 0
        · have hkz : (k : Int) = 0 := by omega
          have q1' : w.cell? ⟨g1, o1 + at_, none⟩ = some (.int .u8 x) := by rw [hk1] at q1; exact q1
          by_cases hx1 : 128 ≤ x
          · have HR3 := more (by omega) (by omega)
            clear stop last more
            have hp := pw_succ k (by omega)
            have HU2 : Hid (u * 128 = 128 ^ (k + 1)) := by rw [hp.1, ← HU.out]; exact Lib.hid rfl
            have hu128 : u * 128 ≤ 72057594037927936 := by rw [HU.out, ← hp.1]; exact hp.2
            clear hp
            go_wp2
            refine ⟨⟨k + 1, n + x % 128 * u, u * 128, by omega, by omega, by first | rfl | go_num, by first | rfl | go_num, by go_num, by omega, by omega, HU2, by first | rfl | trivial, HR3⟩, ?_⟩
            simp [intOf]; omega
          · have hx2 : x < 128 := by omega
            obtain ⟨r1, r2⟩ := res
            have e := (last (by omega) (by omega)).out
            simp only [Prod.mk.injEq] at e
            obtain ⟨rfl, rfl⟩ := e
            have HE : Hid (endAt at_ ((0 : Int) + 1) = (at_ : Int) + 1) := Lib.hid (by unfold endAt; rw [if_pos (by omega)]; omega)
            clear stop last more
            go_wp2
            go_ret2
            refine ⟨?_, rfl⟩
            show Ending.returned (.tuple #[.int .i64 (n + x % 128 * u), .int .i64 ((at_ : Int) + 1)]) = Ending.returned (.tuple #[.int .i64 (n + x % 128 * u), .int .i64 (endAt at_ ((0 : Int) + 1))])
            rw [HE.out]
        · have hk2 : (0 : Int) < k := by omega
          by_cases hx0 : x = 0
          · subst hx0
            obtain ⟨r1, r2⟩ := res
            have e := (stop (by omega)).out
            simp at e
            obtain ⟨rfl, rfl⟩ := e
            clear stop last more
            go_wp2
            go_ret2
            exact ⟨rfl, rfl⟩
          · have hx3 : 0 < x := by omega
            by_cases hx1 : 128 ≤ x
            · have HR3 := more (by omega) (by omega)
              clear stop last more
              have hp := pw_succ k (by omega)
              have HU2 : Hid (u * 128 = 128 ^ (k + 1)) := by rw [hp.1, ← HU.out]; exact Lib.hid rfl
              have hu128 : u * 128 ≤ 72057594037927936 := by rw [HU.out, ← hp.1]; exact hp.2
              clear hp
              go_wp2
              refine ⟨⟨k + 1, n + x % 128 * u, u * 128, by omega, by omega, by first | rfl | go_num, by first | rfl | go_num, by go_num, by omega, by omega, HU2, by first | rfl | trivial, HR3⟩, ?_⟩
              simp [intOf]; omega
            · have hx2 : x < 128 := by omega
              obtain ⟨r1, r2⟩ := res
              have e := (last (by omega) (by omega)).out
              simp only [Prod.mk.injEq] at e
              obtain ⟨rfl, rfl⟩ := e
              have HE : Hid (endAt at_ ((k : Int) + 1) = (at_ : Int) + k + 1) := Lib.hid (by unfold endAt; rw [if_pos (by omega)]; omega)
              clear stop last more
              go_wp2
              go_ret2
              refine ⟨?_, rfl⟩
              show Ending.returned (.tuple #[.int .i64 (n + x % 128 * u), .int .i64 ((at_ : Int) + k + 1)]) = Ending.returned (.tuple #[.int .i64 (n + x % 128 * u), .int .i64 (endAt at_ ((k : Int) + 1))])
              rw [HE.out]
    · obtain hk : at_ + k = l.length := by omega
      have HR2 : Hid (res = (0, 0)) := by
        have := HR.out; rw [hk, List.drop_length] at this; exact Lib.hid this
      obtain ⟨r1, r2⟩ := res
      have e := HR2.out
      simp at e
      obtain ⟨rfl, rfl⟩ := e
      go_wp2
      go_ret2
      exact ⟨rfl, rfl⟩
end Go.Proofs.Ytjffclcjijpmiaa.LG

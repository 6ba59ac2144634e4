/-
  Layer 3: as XIter, for rounds whose turned blocks grow: walk.
-/
import Derived.Test.YtepmndadbikijaaIter
import Derived.Test.YtepmndadbikijaaOver2
namespace Go.Proofs.Ytepmndadbikijaa
open Go.RowKit Go.Shelf
attribute [local go_sem] Oper.semAt_some
attribute [local go_sem] Oper.semAt_some
set_option maxHeartbeats 1000000
theorem eachP1_gives2 {w : World} {S mb P : Nat} {l : List Int} {G : Nat → Nat} {D : DataW Unit} (h : ShIs w S mb P l G D) (B : Nat) (hB : w.heap[B]? = some (.cells #[.pointer (some ⟨S, 0, none⟩)] 22 (0, 0))) :
    Gives2 Try.prog 47 #[.pointer (some ⟨B, 0, none⟩)] (pEnc G) (fun k => shB S mb l G k ∨ k = B) (privs l P) w := fun n ll J Jx N0 W hW hJ hJx hNl hY hN0 h0 => by
  refine callsIn_of_wp Try.func47 rfl trivial ?_ rfl
  simp only [Try.ntmps47, List.size_toArray, List.length_cons, List.length_nil, Nat.reduceAdd, Nat.reduceSub, Array.replicate_succ, Array.replicate_zero, List.push_toArray, List.append_toArray, List.nil_append, List.cons_append]
  have hBl : B < w.heap.size := (Array.getElem?_eq_some_iff.1 hB).1
  have hBW : W.heap[B]? = some (.cells #[.pointer (some ⟨S, 0, none⟩)] 22 (0, 0)) := (hW.block B hBl).trans hB
  have hSW : ShIs W S mb P l G D := h.kept' fun k hk => hW.block k (h.lt k hk)
  obtain ⟨c1, _⟩ := boxed_cell hBW
  obtain ⟨c2, c3, _⟩ := hSW.cells
  have hlo := h.bytes.lo
  have hhi := h.bytes.hi
  have HLt := Lib.hid h.lt
  gi_wp2_with (refine ⟨trivial, fun hd => (by cases hd), ?_⟩; gi_at_call 41; refine (callsIn_wide.2 (none_some S P _ c2 hlo)).mono ?_; rintro e w1 ⟨rfl, rfl⟩)
  gi_loopw [12] (fun k wr => ∃ j : Nat, j ≤ P ∧ k = .int .i64 j ∧ ∃ N, Hid (J (privs l j) N wr) ∧ Hid (∀ k, shB S mb l G k ∨ k = B → ¬ N k) ∧ Hid (wr.heap[B]? = some (.cells #[.pointer (some ⟨S, 0, none⟩)] 22 (0, 0))) ∧ Hid (ShIs wr S mb P l G D)) (fun k _ => P - (intOf k).toNat)
  case atStart => exact ⟨0, by omega, rfl, N0, h0, fun k hk hn => (hN0 k hn).2 hk, hBW, hSW⟩
  case round =>
    obtain ⟨j, hj, rfl, N, hJ0, hKN, hb0, hs0⟩ := hrel
    clear c1 c2 c3
    by_cases hlt : j < P
    · obtain ⟨c1, _⟩ := boxed_cell hb0.out
      obtain ⟨c2, c3, _⟩ := hs0.out.cells
      cases hq : priv l j with
      | true =>
        have hlk := (hs0.out.look_yes hq).1
        obtain ⟨r, hr⟩ := privs_mid hlt hq
        have hYj := fun m => hY m (privs l j) j r N wr hr hJ0.out
        have HL := Lib.hid (privs_yes hq)
        have HR := Lib.hid hr
        clear hq hr
        obtain ⟨f0, t0, a0, b0, hy0, hR0⟩ := hYj 0
        have HRa := Lib.hid (fun m' : Nat => (show RoundIn Fence.wide m' Try.prog ll f0 t0 a0 b0 wr _ from ⟨hR0.1, fun c cs _ => hR0.2 c cs (room_wide _)⟩))
        clear hR0 hYj
        gi_wp2
        refine ⟨fun hd => (by cases hd), (HRa.out _).mono ?_⟩
        rintro e W0 ⟨N', (⟨rfl, hj0⟩ | ⟨rfl, hx0⟩), hk0, hn0⟩
        · gi_wp2
          refine ⟨⟨j + 1, by omega, by go_num, N', by rw [HL.out]; exact hj0, fun k hk hn => (hn0 k hn).elim (hKN.out k hk) (fun hge => by rcases hk with hk | rfl; (have := hs0.out.lt k hk; omega); (have := (Array.getElem?_eq_some_iff.1 hb0.out).1; omega)), (hk0.2 B (Array.getElem?_eq_some_iff.1 hb0.out).1 (by rintro (hm | hm); exact hKN.out B (.inr rfl) hm; omega)).trans hb0.out, hs0.out.kept' fun k hk => hk0.2 k (hs0.out.lt k hk) (by rintro (hm | hm); exact hKN.out k (.inl hk) hm; have := HLt.out k hk; omega)⟩, ?_⟩
          simp [intOf]; omega
        · gi_wp2
          refine bodyPost_ret (results_none rfl _ _ _) rfl ?_
          refine ⟨⟨_, rfl⟩, .inr ⟨privs l j ++ [j], r, N', by rw [HR.out]; simp, hx0⟩⟩
      | false =>
        have hlk := (hs0.out.look_no (k := (j : Int)) (wf_i64 (by omega) (by omega)) (by simp [hq])).1
        have HL := Lib.hid (privs_no hq)
        clear hq
        gi_wp2
        all_goals refine ⟨fun _ h => (by cases h), ?_⟩
        all_goals gi_wp2
        all_goals refine ⟨⟨j + 1, by omega, by go_num, N, by rw [HL.out]; exact hJ0.out, hKN.out, hb0.out, hs0.out⟩, ?_⟩
        all_goals simp [intOf]
        all_goals omega
    · gi_wp2
      go_end0
      obtain rfl : j = P := by omega
      exact ⟨⟨_, rfl⟩, .inl ⟨N, hJ0.out⟩⟩
end Go.Proofs.Ytepmndadbikijaa

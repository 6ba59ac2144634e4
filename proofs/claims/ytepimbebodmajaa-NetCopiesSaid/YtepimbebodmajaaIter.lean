/-
  Layer 9: the iterator over a stream's packets: the list that it gives.
-/
import Derived.Test.YtepimbebodmajaaBxs
import Derived.Test.YtepimbebodmajaaOver3
import Derived.Test.YtepimbebodmajaaPut
namespace Go.Proofs.Ytepimbebodmajaa
open Go.RowKit Go.Shelf
attribute [local go_sem] Oper.semAt_some
set_option maxHeartbeats 1000000
set_option linter.unusedVariables false
set_option linter.unusedSimpArgs false

abbrev encP (p : Pk) : Array Value := #[.agg #[p.v, .int .i64 (p.f : Int)]]
theorem take_next {α : Type} {l : List α} {j : Nat} (h : j < l.length) : l = l.take j ++ l[j] :: l.drop (j + 1) := by
  rw [← List.drop_eq_getElem_cons h, List.take_append_drop]
theorem take_more {α : Type} {l : List α} {j : Nat} (h : j < l.length) : l.take (j + 1) = l.take j ++ [l[j]] := List.take_succ_eq_append_getElem h
set_option maxRecDepth 100000 in
theorem each1_gives {w : World} {B : Nat} {v : Value} {nx : Int} {l : List Pk} (hB : Blk w B #[v, .int .i64 nx] 59) (h : PsIs w v l) (M : Nat → Prop) (hM : ∀ k, blkOf v = some k → ¬ M k) :
    Gives3 Try.prog 49 #[.pointer (some ⟨B, 0, none⟩)] encP M l w := fun n ll J Jx W hW hJ hJx hY h0 => by
  refine callsIn_of_wp Try.func49 rfl trivial ?_ rfl
  simp only [Try.ntmps49, List.size_toArray, List.length_cons, List.length_nil, Nat.reduceAdd, Nat.reduceSub, Array.replicate_succ, Array.replicate_zero, List.push_toArray, List.append_toArray, List.nil_append, List.cons_append]
  have c1 := (hB.below hW).cell 0
  simp only [List.getElem?_toArray, List.getElem?_cons_zero] at c1
  have HSh := Lib.hid (fun p (hp : p ∈ l) => (show ∃ ao n c, p.v = .slice ao n c from by obtain ⟨ao, c, e, _⟩ := (h.q p hp).shape; exact ⟨ao, _, c, e⟩))
  have HG := Lib.hid (h.g.below hW)
  have HLt := Lib.hid (fun k (hk : blkOf v = some k) => (show k < w.heap.size from h.g.lt hk))
  have HMM := Lib.hid hM
  have HJ := Lib.hid hJ
  have HZ := Lib.hid hW.size
  obtain ⟨ao, c, rfl, hc, hml⟩ := h.g.shape
  unfold maxLen at hml
  clear h hB hM
  gi_wp2
  gi_loopw [8] (fun k wr => ∃ j : Nat, j ≤ l.length ∧ k = .int .i64 j ∧ Hid (J (l.take j) wr) ∧ Hid (Gs 71 2 wr (.slice ao l.length c) l.length (pcs l)) ∧ Hid (W.heap.size ≤ wr.heap.size)) (fun k _ => l.length - (intOf k).toNat)
  case atStart => exact ⟨0, by omega, rfl, (show J (l.take 0) W from by simpa using h0), HG.out, Nat.le_refl _⟩
  case round =>
    obtain ⟨j, hj, rfl, hJ0, hg0, hz0⟩ := hrel
    clear c1
    by_cases hlt : j < l.length
    · have hi : (j : Int) < (l.length : Int) := by omega
      have hlj : l[j]? = some l[j] := List.getElem?_eq_getElem hlt
      obtain ⟨k1, k2⟩ := pcs_at hlj
      obtain ⟨g, o, c', e1, r1, _⟩ := hg0.out.cell k1
      obtain ⟨g2, o2, c2, e2, r2, _⟩ := hg0.out.cell k2
      simp at e1
      obtain ⟨rfl, rfl⟩ := e1
      simp at e2
      obtain ⟨⟨rfl, rfl⟩, rfl⟩ := e2
      have hr' := take_next hlt
      have HL := Lib.hid (take_more hlt)
      obtain ⟨va, vn, vc, hv⟩ := HSh.out l[j] (List.getElem_mem hlt)
      generalize l[j] = p at hlj hr' HL r1 r2 k1 k2 hv
      obtain ⟨pv, pf, px⟩ := p
      simp only at hv r1 r2
      subst hv
      rw [show o + 2 * j = o + j * 2 by omega] at r1
      rw [show o + (2 * j + 1) = o + j * 2 + 1 by omega] at r2
      have s1 : wr.cell? ((⟨g, o, none⟩ : Addr).add (j * 2)) = some (.slice va vn vc) := by rw [add_lit]; exact r1
      have s2 : wr.cell? ⟨((⟨g, o, none⟩ : Addr).add (j * 2)).block, ((⟨g, o, none⟩ : Addr).add (j * 2)).off + 1, none⟩ = some (.int .i64 (pf : Int)) := by rw [add_lit]; exact r2
      have HJ1 := Lib.hid (HJ.out.alloc (.cells #[(.slice va vn vc), .int .i64 (pf : Int)] 71) hJ0.out)
      have hYj := fun m => hY m (l.take j) ⟨.slice va vn vc, pf, px⟩ (l.drop (j + 1)) (wr.alloc (.cells #[(.slice va vn vc), .int .i64 (pf : Int)] 71)) hr' HJ1.out
      have HR := Lib.hid hr'
      simp only [encP] at hYj
      clear hr' hlj k1 k2
      obtain ⟨f0, t0, a0, b0, hy0, hR0⟩ := hYj 0
      have HRa := Lib.hid (fun m' : Nat => (show RoundIn Fence.wide m' Try.prog ll f0 t0 a0 b0 (wr.alloc (.cells #[(.slice va vn vc), .int .i64 (pf : Int)] 71)) _ from ⟨hR0.1, fun c cs _ => hR0.2 c cs (room_wide _)⟩))
      clear hR0 hYj
      have HR0 := Lib.hid (hg0.out.below ((Below.refl _ _).alloc (Nat.le_refl _) (.cells #[(.slice va vn vc), .int .i64 (pf : Int)] 71)))
      gi_wp2
      refine ⟨fun hd => (by cases hd), (HRa.out _).mono ?_⟩
      rintro e W0 ⟨(⟨rfl, hj0⟩ | ⟨rfl, hx0⟩), hk0⟩
      · have HJJ := Lib.hid hj0
        have HK := Lib.hid hk0
        clear hj0 hk0 r1 r2 s1 s2
        gi_wp2
        refine ⟨⟨j + 1, by omega, by go_num, by rw [HL.out]; exact HJJ.out, HR0.out.keep fun k hk => HK.out.2 k (HR0.out.lt hk) (by rintro (hm | hm); exact HMM.out k hk hm; have := HLt.out k hk; omega), Nat.le_trans hz0.out (Nat.le_trans (by simp) HK.out.1)⟩, ?_⟩
        simp [intOf]; omega
      · have HXX := Lib.hid hx0
        clear hx0 hk0 r1 r2 s1 s2
        gi_wp2
        refine bodyPost_ret (results_none rfl _ _ _) rfl ?_
        refine ⟨⟨_, rfl⟩, .inr ⟨l.take j ++ [⟨.slice va vn vc, pf, px⟩], l.drop (j + 1), ?_, HXX.out⟩⟩
        rw [List.append_assoc]
        exact HR.out
    · obtain rfl : j = l.length := by omega
      have HJ4 := Lib.hid hJ0.out
      gi_wp2
      go_end0
      refine ⟨⟨_, rfl⟩, .inl ?_⟩
      have := HJ4.out
      rwa [List.take_length] at this
end Go.Proofs.Ytepimbebodmajaa

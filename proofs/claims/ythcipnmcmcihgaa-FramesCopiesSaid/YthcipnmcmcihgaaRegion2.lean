/-
  Layer 5: what holds at each world of a drawn region, whatever it is; append of any bytes onto bytes of one's own.
-/
import Derived.Test.YthcipnmcmcihgaaRegion
import Derived.Laws.AppendOwnNone
namespace Go.Proofs.Ythcipnmcmcihgaa
open Go.RowKit
set_option maxHeartbeats 1000000
set_option linter.unusedVariables false

/-- Whatever is made above leaves it as it is. -/
def Stable (I : World → Prop) : Prop := ∀ W W', I W → Below W.heap.size W W' → I W'
structure HeldG (I : World → Prop) (L : List (Value × List Int)) (W : World) : Prop where
  st : Stable I
  i : I W
  reads : Reads L W
section
variable {I : World → Prop} {L : List (Value × List Int)} {W W' : World}
theorem HeldG.after (h : HeldG I L W) (hb : Below W.heap.size W W') : HeldG I L W' := ⟨h.st, h.st _ _ h.i hb, h.reads.below hb⟩
theorem HeldG.cons (h : HeldG I L W) {v : Value} {x : List Int} (hn : NumsIn .u8 W v x) : HeldG I ((v, x) :: L) W := ⟨h.st, h.i, h.reads.cons hn⟩
theorem HeldG.tail {p : Value × List Int} (h : HeldG I (p :: L) W) : HeldG I L W := ⟨h.st, h.i, h.reads.tail⟩
theorem HeldG.drew (h : HeldG I L W) : HeldG I L W.drew := h.after (Below.refl _ _).drew
theorem anyH_heldG {P : Program} {md : Region.Mode} {ops : Array Oper} {Q : Exit → Act → World → Prop} {p : Value × List Int} {w0 : World} (_h : HeldG I (p :: L) w0) {fuel : Nat} {listed : Array Bool} {a : Act}
    (h : wpAnyH P md ops Q (HeldG I (p :: L)) fuel listed a W) : wpAnyH P md ops Q (HeldG I L) fuel listed a W := anyH_more (fun _ h => h.tail) _ _ _ _ h
end
theorem stable_frs (w : World) (S : Nat) (l : List Int) (F : Nat → Prop) : Stable fun W => Below w.heap.size w W ∧ Fr W S l F :=
  fun W W' h hb => ⟨h.1.trans (hb.mono h.1.size), h.2.below hb⟩
theorem Fr.bytesN {w : World} {S : Nat} {l : List Int} {F : Nat → Prop} (h : Fr w S l F) : Calls Try.prog 15 #[.pointer (some ⟨S, 0, none⟩)] w fun e w' => ∃ v, e = .returned v ∧ NumsIn .u8 w' v l ∧ Below w.heap.size w w' :=
  (Bytes_any h).mono fun e W' ⟨g, c, he, _, _, _, hn, hb⟩ => ⟨_, he, hn, hb⟩

theorem wpList_append_nums {ops : Array Oper} {rest : List Oper} {o : Oper} {a : Act} {Q : Exit → Act → World → Prop} (w : World) (hgd : o.guard = none) (s x : Operand)
    (ho : o.op = .call { callee := .builtin .append, args := #[s, x], argTypes := #[22, 22] })
    (base : Nat) (v : Value) (n : Nat) (l : List Int) (hs : a.eval s = v) (hown : w.ownsRow base 5 1 v n (bv l)) (vx : Value) (xs : List Int) (hx : a.eval x = vx) (hin : NumsIn .u8 w vx xs) (hm : n + xs.length ≤ 1000000) (hbase : base ≤ w.heap.size)
    (hK : ∀ v' w', w'.ownsRow base 5 1 v' (n + xs.length) (bv (l ++ xs)) → w.grownBy w' v.ownBlock → (v' = .slice none 0 0 ↔ v = .slice none 0 0 ∧ xs.length = 0) → wpList Try.prog ops Q rest (a.put o.dst v') w') : wpList Try.prog ops Q (o :: rest) a w := by
  obtain ⟨i0, hi, hz0, hz1, hz2⟩ := info_parts A.infoB
  rcases hin with ⟨rfl, rfl⟩ | ⟨ad, c, rfl, hc, hl, hcell, hwf⟩
  · refine wpList_append_own_none hgd s x 22 ho base 5 i0 1 Try.underlying22 hi v n (bv l) hs hown hx ?_
    exact hK v w (by simpa using hown) ⟨rfl, rfl, rfl, Nat.le_refl _, fun _ _ _ => rfl⟩ (by simp)
  · refine wpList_append_own w hgd s x 22 ho base 5 i0 (.int .u8 0) 1 1 Try.underlying22 hi hz0 hz1 hz2 rfl (by decide) v n (bv l) hs hown ad xs.length c (bv xs) hx (by simp [bv]) (fun j u hj => ?_) (bv_one xs) (by unfold maxLen; omega) (by omega) hbase ?_
    · rw [bv_at] at hj
      obtain ⟨y, hy, rfl⟩ := Option.map_eq_some_iff.1 hj
      exact hcell j y hy
    · intro v' w' h1 h2 h3
      exact hK v' w' (by rw [bv_append]; exact h1) h2 h3
/-- Bytes copied into memory of one's own. -/
theorem own_slice {w : World} {base n : Nat} {l : List Int} {v : Value} (h : w.ownsRow base 5 1 v n (bv l)) (hne : v ≠ .slice none 0 0) : ∃ g c, v = .slice (some ⟨g, 0, none⟩) n c ∧ RowAt w g l ∧ base ≤ g ∧ n ≤ c ∧ l.length = n ∧ c ≤ maxLen := by
  rcases h.2 with ⟨h0, _⟩ | ⟨g, cap, cur, rfl, _⟩
  · exact absurd h0 hne
  · exact ⟨g, cap, rfl, rowAt_of_own h⟩
/-- Whatever is stored in one block. -/
structure Inc (W0 : World) (g n : Nat) (W : World) : Prop where
  t : Turned (fun j => j = g) W0 W
  row : ∃ m, RowAt W g m ∧ m.length = n ∧ Byt m
theorem Inc.step {W0 W : World} {g n : Nat} (h : Inc W0 g n W) {i : Nat} (hi : i < n) {x : Int} (hx : 0 ≤ x ∧ x < 256) : Inc W0 g n (W.setCell ⟨g, i, none⟩ (.int .u8 x)) := by
  obtain ⟨m, h1, h2, h3⟩ := h.row
  obtain ⟨s1, _, s3⟩ := row_step h1 (i := i) (by omega) x rfl
  exact ⟨h.t.trans s3 (fun _ e => .inl e), _, s1, by rw [List.length_set]; exact h2, h3.set _ hx⟩
theorem Inc.cell {W0 W : World} {g n : Nat} (h : Inc W0 g n W) {i : Nat} (hi : i < n) : ∃ x : Int, W.cell? ⟨g, i, none⟩ = some (.int .u8 x) ∧ W.frozen? ⟨g, i, none⟩ = false ∧ 0 ≤ x ∧ x < 256 := by
  obtain ⟨m, h1, h2, h3⟩ := h.row
  obtain ⟨c, f⟩ := h1.cell (i := i) (by omega)
  exact ⟨_, c, f, h3.at0 i⟩
theorem Inc.bytes {W0 W : World} {g n : Nat} (h : Inc W0 g n W) : ∃ m, RowAt W g m ∧ m.length = n ∧ Byt m := h.row
end Go.Proofs.Ythcipnmcmcihgaa

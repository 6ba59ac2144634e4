/-
  Layer 16: a log's bytes, told and read: numbers. Plain lists, no program. Layer 16: a log's bytes, told and read: records, a head, a whole log. Plain lists, no program. Layer 16: a whole log's bytes: there and back, cut off, and told again. Plain lists, no program. Layer 16: a whole log, its head too: what it says is read back. Plain lists, no program.
-/
import Init
set_option linter.unusedVariables false
set_option linter.unusedSimpArgs false
namespace Go.Proofs.Ytjffclcjijpmiaa.LG
set_option linter.unusedVariables false

/-- A number's bytes. -/
def num (n : Nat) : List Int := if h : 128 ≤ n then (((n % 128 : Nat) : Int) + 128) :: num (n / 128) else [(n : Int)]
termination_by n
decreasing_by omega
theorem num_big {n : Nat} (h : 128 ≤ n) : num n = (((n % 128 : Nat) : Int) + 128) :: num (n / 128) := by rw [num, dif_pos h]
theorem num_small {n : Nat} (h : n < 128) : num n = [(n : Int)] := by rw [num, dif_neg (by omega)]
theorem num_pos (n : Nat) : 0 < (num n).length := by
  rw [num]; split <;> simp
/-- How great a number's rest may be behind k bytes. -/
def lim (k : Nat) : Nat := 2 ^ (63 - 7 * k)
theorem lim_succ {k : Nat} (h : k ≤ 8) : lim k = 128 * lim (k + 1) := by
  unfold lim
  rw [show 63 - 7 * k = 7 + (63 - 7 * (k + 1)) by omega, Nat.pow_add]
/-- The bytes of a number that is below 128^k. -/
theorem num_len : ∀ (k : Nat) {n : Nat}, n < 128 ^ (k + 1) → (num n).length ≤ k + 1
  | 0, n, h => by rw [num_small (by omega)]; simp
  | k + 1, n, h => by
    by_cases h1 : 128 ≤ n
    · rw [num_big h1, List.length_cons]
      have : n / 128 < 128 ^ (k + 1) := by rw [Nat.pow_succ] at h; omega
      have := num_len k this
      omega
    · rw [num_small (by omega)]; simp
theorem num_byte (n : Nat) : ∀ x ∈ num n, 0 ≤ x ∧ x < 256 := by
  induction n using Nat.strongRecOn with
  | ind n ih =>
    intro x hx
    by_cases h : 128 ≤ n
    · rw [num_big h] at hx
      rcases List.mem_cons.1 hx with rfl | hx
      · omega
      · exact ih _ (by omega) _ hx
    · rw [num_small (by omega)] at hx
      obtain rfl : x = (n : Int) := by simpa using hx
      omega

/-- A number off the beginning of a list, k bytes of it taken: it, and how many bytes it has; 0: it goes on; -1: none. -/
def tk : Nat → Int → Int → List Int → Int × Int
  | _, _, _, [] => (0, 0)
  | k, u, n, b :: r => if k = 8 ∧ 128 ≤ b ∨ 0 < k ∧ b = 0 then (0, -1) else if b < 128 then (n + b % 128 * u, k + 1) else tk (k + 1) (u * 128) (n + b % 128 * u) r
theorem tk_cons (k : Nat) (u n b : Int) (r : List Int) : tk k u n (b :: r) = if k = 8 ∧ 128 ≤ b ∨ 0 < k ∧ b = 0 then (0, -1) else if b < 128 then (n + b % 128 * u, (k : Int) + 1) else tk (k + 1) (u * 128) (n + b % 128 * u) r := rfl
theorem split_mul (m : Nat) (u n : Int) : n + ((m % 128 : Nat) : Int) * u + ((m / 128 : Nat) : Int) * (u * 128) = n + (m : Int) * u := by
  have h : (m : Int) = ((m % 128 : Nat) : Int) + ((m / 128 : Nat) : Int) * 128 := by omega
  rw [show (m : Int) * u = (((m % 128 : Nat) : Int) + ((m / 128 : Nat) : Int) * 128) * u by rw [← h], Int.add_mul, Int.mul_assoc, Int.mul_comm 128 u]
  omega
theorem tk_num (m : Nat) : ∀ (k : Nat) (u n : Int) (rest : List Int), k ≤ 8 → m < lim k → (0 < k → 0 < m) → tk k u n (num m ++ rest) = (n + m * u, (k : Int) + (num m).length) := by
  induction m using Nat.strongRecOn with
  | ind m ih =>
    intro k u n rest hk hm hp
    by_cases h : 128 ≤ m
    · have h8 : k ≠ 8 := by rintro rfl; have : lim 8 = 128 := rfl; omega
      have := lim_succ hk
      rw [num_big h, List.cons_append, tk_cons, if_neg (by omega), if_neg (by omega), show ((((m % 128 : Nat) : Int)) + 128) % 128 = ((m % 128 : Nat) : Int) by omega, ih (m / 128) (by omega) (k + 1) _ _ rest (by omega) (by omega) (by omega), split_mul, List.length_cons]
      congr 1; push_cast; omega
    · rw [num_small (by omega), List.cons_append, tk_cons, if_neg (by omega), if_pos (by omega), show ((m : Int)) % 128 = (m : Int) by omega]
      rfl
/-- A part of a number's bytes goes on. -/
theorem tk_part (m : Nat) : ∀ (k : Nat) (u n : Int) (j : Nat), k ≤ 8 → m < lim k → (0 < k → 0 < m) → j < (num m).length → tk k u n ((num m).take j) = (0, 0) := by
  induction m using Nat.strongRecOn with
  | ind m ih =>
    intro k u n j hk hm hp hj
    cases j with
    | zero => rfl
    | succ j =>
      by_cases h : 128 ≤ m
      · have h8 : k ≠ 8 := by rintro rfl; have : lim 8 = 128 := rfl; omega
        have := lim_succ hk
        rw [num_big h] at hj ⊢
        rw [List.take_succ_cons, tk_cons, if_neg (by omega), if_neg (by omega)]
        exact ih (m / 128) (by omega) (k + 1) _ _ j (by omega) (by omega) (by omega) (by simpa using hj)
      · rw [num_small (by omega)] at hj
        simp at hj
/-- What is read is a number's bytes. -/
theorem tk_inv : ∀ (b : List Int) (k : Nat) (u n v j : Int), (∀ x ∈ b, 0 ≤ x ∧ x < 256) → k ≤ 8 → tk k u n b = (v, j) → 0 < j → ∃ (m : Nat) (rest : List Int), b = num m ++ rest ∧ v = n + m * u ∧ j = (k : Int) + (num m).length ∧ m < lim k ∧ (0 < k → 0 < m)
  | [], k, u, n, v, j, _, _, h, hj => by cases h; omega
  | b :: r, k, u, n, v, j, hb, hk, h, hj => by
    have hb0 := hb b (by simp)
    rw [tk_cons] at h
    have hl := lim_succ hk
    have hl1 : 0 < lim (k + 1) := Nat.pow_pos (by omega)
    split at h
    · cases h; omega
    · rename_i h1
      split at h
      · rename_i h2
        cases h
        refine ⟨b.toNat, r, ?_, ?_, ?_, ?_, ?_⟩
        · rw [num_small (by omega)]; simp; omega
        · rw [show b % 128 = ((b.toNat : Nat) : Int) by omega]
        · rw [num_small (by omega)]; simp
        · omega
        · omega
      · rename_i h2
        obtain ⟨m, rest, e1, e2, e3, e4, e5⟩ := tk_inv r (k + 1) _ _ v j (fun x hx => hb x (by simp [hx])) (by omega) h hj
        have e5 := e5 (by omega)
        have hq : (128 * m + (b - 128).toNat) / 128 = m := by omega
        have hr : (128 * m + (b - 128).toNat) % 128 = (b - 128).toNat := by omega
        have hn : num (128 * m + (b - 128).toNat) = b :: num m := by rw [num_big (by omega), hq, hr]; congr 1; omega
        refine ⟨128 * m + (b - 128).toNat, rest, ?_, ?_, ?_, ?_, ?_⟩
        · rw [hn, e1]; rfl
        · have := split_mul (128 * m + (b - 128).toNat) u n
          rw [hq, hr] at this
          rw [e2, ← this, show b % 128 = (((b - 128).toNat : Nat) : Int) by omega]
        · rw [hn, List.length_cons, e3]; push_cast; omega
        · have := e4; omega
        · omega
theorem tk0_num {m : Nat} (h : m < 2 ^ 63) (rest : List Int) : tk 0 1 0 (num m ++ rest) = ((m : Int), ((num m).length : Int)) := by
  rw [tk_num m 0 1 0 rest (by omega) h (by omega)]
  congr 1 <;> simp
theorem tk0_inv {b : List Int} (hb : ∀ x ∈ b, 0 ≤ x ∧ x < 256) (h : 0 < (tk 0 1 0 b).2) : ∃ (m : Nat) (rest : List Int), b = num m ++ rest ∧ (tk 0 1 0 b).1 = m ∧ (tk 0 1 0 b).2 = (num m).length ∧ m < 2 ^ 63 := by
  obtain ⟨m, rest, h1, h2, h3, h4, _⟩ := tk_inv b 0 1 0 _ _ hb (by omega) rfl h
  exact ⟨m, rest, h1, by rw [h2]; simp, by rw [h3]; simp, h4⟩
end Go.Proofs.Ytjffclcjijpmiaa.LG
namespace Go.Proofs.Ytjffclcjijpmiaa.LG
set_option linter.unusedVariables false

structure Rc where
  tm : Int
  kind : Int
  n : Int
  bs : List Int
  deriving DecidableEq
def two62 : Int := 4611686018427387904
/-- May a record of that kind be? -/
def rOk (k n : Int) (b : Nat) : Bool :=
  if k = 1 then decide (0 ≤ n ∧ n ≤ 65535 ∧ b ≤ 2048)
  else if k = 2 then decide (0 ≤ n ∧ n ≤ 255 ∧ b ≤ 64)
  else if k = 3 then decide (n = 0 ∧ b ≤ 256)
  else if k = 4 then decide (n = 0 ∧ b ≤ 64)
  else if k = 5 ∨ k = 6 then decide (1 ≤ n ∧ n ≤ 4 ∧ b = 2)
  else if k = 7 then decide (n = 0 ∧ b = 2)
  else false
theorem rOk_b {k n : Int} {b : Nat} (h : rOk k n b = true) : 1 ≤ k ∧ k ≤ 7 ∧ 0 ≤ n ∧ n ≤ 65535 ∧ b ≤ 2048 := by
  unfold rOk at h
  repeat' split at h
  all_goals first | (simp at h; done) | (simp at h; omega)
def Rc.right (r : Rc) : Bool := decide (0 ≤ r.tm ∧ r.tm ≤ two62) && rOk r.kind r.n r.bs.length
/-- The record that ends a log. -/
def endR (t : Int) : Rc := ⟨t, 8, 0, []⟩
/-- A record that may stand in a log's bytes. -/
def Rc.May (r : Rc) : Prop := 0 ≤ r.tm ∧ r.tm ≤ two62 ∧ (rOk r.kind r.n r.bs.length = true ∨ r.kind = 8 ∧ r.n = 0 ∧ r.bs = []) ∧ ∀ x ∈ r.bs, 0 ≤ x ∧ x < 256
theorem Rc.May.b {r : Rc} (h : r.May) : 1 ≤ r.kind ∧ r.kind ≤ 8 ∧ 0 ≤ r.n ∧ r.n ≤ 65535 ∧ r.bs.length ≤ 2048 := by
  rcases h.2.2.1 with e | e
  · have := rOk_b e; omega
  · rw [e.1, e.2.1, e.2.2]; simp
theorem endR_may {t : Int} (h0 : 0 ≤ t) (h1 : t ≤ two62) : (endR t).May := ⟨h0, h1, Or.inr ⟨rfl, rfl, rfl⟩, by simp [endR]⟩
/-- A record's bytes behind how many there are. -/
def bd (r : Rc) (last : Int) : List Int := r.kind :: (num (r.tm - last).toNat ++ (num r.n.toNat ++ r.bs))
/-- A record's bytes. -/
def rb (r : Rc) (last : Int) : List Int := num (bd r last).length ++ bd r last
/-- The record, if it may stand in a log's bytes. -/
def Rc.fin (r : Rc) : Option Rc := if r.right = true ∨ r.kind = 8 ∧ r.n = 0 ∧ r.bs = [] then some r else none
/-- The record that bytes are, behind a time. -/
def body (b : List Int) (last : Int) : Option Rc :=
  if b.length < 3 then none
  else if (tk 0 1 0 (b.drop 1)).2 ≤ 0 ∨ two62 - last < (tk 0 1 0 (b.drop 1)).1 then none
  else if (tk 0 1 0 (b.drop (1 + (tk 0 1 0 (b.drop 1)).2.toNat))).2 ≤ 0 ∨ 65535 < (tk 0 1 0 (b.drop (1 + (tk 0 1 0 (b.drop 1)).2.toNat))).1 then none
  else Rc.fin ⟨last + (tk 0 1 0 (b.drop 1)).1, b.headD 0, (tk 0 1 0 (b.drop (1 + (tk 0 1 0 (b.drop 1)).2.toNat))).1, (b.drop (1 + (tk 0 1 0 (b.drop 1)).2.toNat)).drop (tk 0 1 0 (b.drop (1 + (tk 0 1 0 (b.drop 1)).2.toNat))).2.toNat⟩
theorem may_of {r : Rc} (h : r.right = true ∨ r.kind = 8 ∧ r.n = 0 ∧ r.bs = []) (h0 : 0 ≤ r.tm) (h1 : r.tm ≤ two62) (hb : ∀ x ∈ r.bs, 0 ≤ x ∧ x < 256) : r.May := by
  refine ⟨h0, h1, ?_, hb⟩
  rcases h with h | h
  · unfold Rc.right at h
    simp at h
    exact Or.inl h.2
  · exact Or.inr h
theorem Rc.May.of {r : Rc} (h : r.May) : r.right = true ∨ r.kind = 8 ∧ r.n = 0 ∧ r.bs = [] := by
  rcases h.2.2.1 with e | e
  · left; unfold Rc.right; simp [e, h.1, h.2.1]
  · exact Or.inr e
theorem body_bd {r : Rc} {last : Int} (h : r.May) (h0 : 0 ≤ last) (h1 : last ≤ r.tm) : body (bd r last) last = some r := by
  have hm := h.b
  have h62 : two62 = 4611686018427387904 := rfl
  have ht := h.2.1
  have p1 := num_pos (r.tm - last).toNat
  have p2 := num_pos r.n.toNat
  have e1 : tk 0 1 0 ((bd r last).drop 1) = (((r.tm - last).toNat : Int), ((num (r.tm - last).toNat).length : Int)) := tk0_num (by omega) _
  have d1 : (bd r last).drop (1 + ((num (r.tm - last).toNat).length)) = num r.n.toNat ++ r.bs := by
    rw [Nat.add_comm]
    unfold bd
    rw [List.drop_succ_cons, List.drop_left]
  have e2 : tk 0 1 0 (num r.n.toNat ++ r.bs) = ((r.n.toNat : Int), ((num r.n.toNat).length : Int)) := tk0_num (by omega) _
  unfold body
  rw [if_neg (by unfold bd; simp; omega)]
  simp only [e1, Int.toNat_natCast, d1, e2]
  rw [if_neg (by omega), if_neg (by omega)]
  have er : (⟨last + ((r.tm - last).toNat : Int), (bd r last).headD 0, (r.n.toNat : Int), (num r.n.toNat ++ r.bs).drop (num r.n.toNat).length⟩ : Rc) = r := by
    rw [List.drop_left, show last + ((r.tm - last).toNat : Int) = r.tm by omega, show ((r.n.toNat : Int)) = r.n by omega]
    rfl
  rw [er]
  exact if_pos h.of
theorem body_inv {b : List Int} {last : Int} {r : Rc} (hb : ∀ x ∈ b, 0 ≤ x ∧ x < 256) (h0 : 0 ≤ last) (h1 : last ≤ two62) (h : body b last = some r) : b = bd r last ∧ r.May ∧ last ≤ r.tm := by
  unfold body at h
  split at h
  · cases h
  · rename_i h3
    split at h
    · cases h
    · rename_i h4
      split at h
      · cases h
      · rename_i h5
        match b, hb with
        | [], _ => simp at h3
        | k :: t, hb =>
          simp only [List.drop_succ_cons, List.drop_zero] at h4 h5 h
          obtain ⟨m, c, e1, e2, e3, e4⟩ := tk0_inv (b := t) (fun x hx => hb x (by simp [hx])) (by omega)
          rw [e2, e3] at h4
          rw [e3] at h5
          rw [e2, e3] at h
          have hd : (k :: t).drop (1 + (num m).length) = c := by rw [Nat.add_comm, List.drop_succ_cons, e1, List.drop_left]
          simp only [Int.toNat_natCast, hd] at h5 h
          obtain ⟨m', c', f1, f2, f3, f4⟩ := tk0_inv (b := c) (fun x hx => hb x (by rw [e1]; simp [hx])) (by omega)
          rw [f2, f3] at h h5
          rw [Int.toNat_natCast, f1, List.drop_left] at h
          unfold Rc.fin at h
          split at h
          · rename_i h6
            cases h
            refine ⟨?_, may_of h6 (by dsimp only; omega) (by dsimp only; omega) (fun x hx => hb x (by rw [e1, f1]; simp [show x ∈ c' from hx])), by dsimp only; omega⟩
            unfold bd
            dsimp only
            rw [show (last + (m : Int) - last).toNat = m by omega, Int.toNat_natCast, ← f1, ← e1]
            rfl
          · cases h
theorem bd_byte {r : Rc} (h : r.May) (last : Int) : ∀ x ∈ bd r last, 0 ≤ x ∧ x < 256 := by
  intro x hx
  have := h.b
  rcases List.mem_cons.1 hx with rfl | hx
  · omega
  · rcases List.mem_append.1 hx with hx | hx
    · exact num_byte _ _ hx
    · rcases List.mem_append.1 hx with hx | hx
      · exact num_byte _ _ hx
      · exact h.2.2.2 x hx
theorem bd_len {r : Rc} (h : r.May) {last : Int} (h0 : 0 ≤ last) : 3 ≤ (bd r last).length ∧ (bd r last).length ≤ 13 + r.bs.length := by
  have hm := h.b
  have h62 : two62 = 4611686018427387904 := rfl
  have ht := h.2.1
  have p1 := num_pos (r.tm - last).toNat
  have p2 := num_pos r.n.toNat
  have q1 := num_len 8 (n := (r.tm - last).toNat) (by omega)
  have q2 := num_len 2 (n := r.n.toNat) (by omega)
  unfold bd
  simp only [List.length_cons, List.length_append]
  omega
theorem rb_len {r : Rc} (h : r.May) {last : Int} (h0 : 0 ≤ last) : 4 ≤ (rb r last).length ∧ (rb r last).length ≤ 15 + r.bs.length := by
  have hm := h.b
  have := bd_len h h0
  have q1 := num_len 1 (n := (bd r last).length) (by omega)
  have q2 := num_pos (bd r last).length
  unfold rb
  rw [List.length_append]
  omega

/-- The records off bytes: what is there (records, whole, the end), and how many bytes are read; none: what may not stand there. -/
def dec (wh : Bool) (en last : Int) (rs : List Rc) (at_ : Nat) (b : List Int) : Option (List Rc × Bool × Int × Nat) :=
  if hb : b = [] then some (rs, wh, en, at_)
  else if wh = true ∨ (tk 0 1 0 b).2 < 0 then none
  else if h0 : (tk 0 1 0 b).2 = 0 ∨ (b.length : Int) - (tk 0 1 0 b).2 < (tk 0 1 0 b).1 then some (rs, wh, en, at_)
  else match body ((b.drop (tk 0 1 0 b).2.toNat).take (tk 0 1 0 b).1.toNat) last with
    | none => none
    | some r =>
      if r.kind = 8 then dec true r.tm r.tm rs (at_ + ((tk 0 1 0 b).2.toNat + (tk 0 1 0 b).1.toNat)) (b.drop ((tk 0 1 0 b).2.toNat + (tk 0 1 0 b).1.toNat))
      else dec wh en r.tm (rs ++ [r]) (at_ + ((tk 0 1 0 b).2.toNat + (tk 0 1 0 b).1.toNat)) (b.drop ((tk 0 1 0 b).2.toNat + (tk 0 1 0 b).1.toNat))
termination_by b.length
decreasing_by
  all_goals
    have : 0 < b.length := List.length_pos_iff.2 hb
    simp only [List.length_drop]
    omega
theorem dec_nil (wh : Bool) (en last : Int) (rs : List Rc) (at_ : Nat) : dec wh en last rs at_ [] = some (rs, wh, en, at_) := by rw [dec, dif_pos rfl]
theorem dec_rb {r : Rc} {en last : Int} {rs : List Rc} {at_ : Nat} {rest : List Int} (h : r.May) (h0 : 0 ≤ last) (h1 : last ≤ r.tm) : dec false en last rs at_ (rb r last ++ rest) = if r.kind = 8 then dec true r.tm r.tm rs (at_ + (rb r last).length) rest else dec false en r.tm (rs ++ [r]) (at_ + (rb r last).length) rest := by
  have hl := bd_len h h0
  have hm := h.b
  have ht : tk 0 1 0 (rb r last ++ rest) = (((bd r last).length : Int), ((num (bd r last).length).length : Int)) := by
    unfold rb
    rw [List.append_assoc]
    exact tk0_num (by omega) _
  have hp := num_pos (bd r last).length
  have hlen : (rb r last).length = (num (bd r last).length).length + (bd r last).length := by unfold rb; rw [List.length_append]
  rw [dec, dif_neg (by intro e; have := congrArg List.length e; rw [List.length_append, List.length_nil] at this; omega)]
  simp only [ht, Int.toNat_natCast]
  rw [if_neg (by simp), dif_neg (by rw [List.length_append]; omega)]
  have e1 : ((rb r last ++ rest).drop (num (bd r last).length).length).take (bd r last).length = bd r last := by
    unfold rb
    rw [List.append_assoc, List.drop_left, List.take_left]
  rw [e1, body_bd h h0 h1, ← hlen, List.drop_left]
/-- A record that is cut off is not read. -/
theorem dec_part {r : Rc} {en last : Int} {rs : List Rc} {at_ j : Nat} (h : r.May) (h0 : 0 ≤ last) (hj : j < (rb r last).length) : dec false en last rs at_ ((rb r last).take j) = some (rs, false, en, at_) := by
  have hl := bd_len h h0
  have hm := h.b
  have hlen : (rb r last).length = (num (bd r last).length).length + (bd r last).length := by unfold rb; rw [List.length_append]
  by_cases hz : j = 0
  · subst hz; rw [List.take_zero, dec_nil]
  · rw [dec, dif_neg (by intro e; have := congrArg List.length e; rw [List.length_take, List.length_nil] at this; omega)]
    by_cases hc : j < (num (bd r last).length).length
    · have ht : tk 0 1 0 ((rb r last).take j) = (0, 0) := by
        unfold rb
        rw [List.take_append_of_le_length (by omega)]
        exact tk_part _ 0 1 0 j (by omega) (by have : lim 0 = 2 ^ 63 := rfl; omega) (by omega) hc
      rw [ht, if_neg (by simp), dif_pos (by simp)]
    · have ht : tk 0 1 0 ((rb r last).take j) = (((bd r last).length : Int), ((num (bd r last).length).length : Int)) := by
        unfold rb
        rw [List.take_append, List.take_of_length_le (by omega)]
        exact tk0_num (by omega) _
      have hp := num_pos (bd r last).length
      rw [ht, if_neg (by simp), dif_pos (by right; simp only [List.length_take]; omega)]
end Go.Proofs.Ytjffclcjijpmiaa.LG
namespace Go.Proofs.Ytjffclcjijpmiaa.LG
set_option linter.unusedVariables false

/-- Records that may be, one behind the other. -/
def Chain : Int → List Rc → Prop
  | _, [] => True
  | last, r :: t => (r.tm ≤ two62 ∧ 0 ≤ r.tm ∧ rOk r.kind r.n r.bs.length = true ∧ ∀ x ∈ r.bs, 0 ≤ x ∧ x < 256) ∧ last ≤ r.tm ∧ Chain r.tm t
def lastOf : Int → List Rc → Int
  | last, [] => last
  | _, r :: t => lastOf r.tm t
def encR : Int → List Rc → List Int
  | _, [] => []
  | last, r :: t => rb r last ++ encR r.tm t
theorem may_chain {r : Rc} (h : r.tm ≤ two62 ∧ 0 ≤ r.tm ∧ rOk r.kind r.n r.bs.length = true ∧ ∀ x ∈ r.bs, 0 ≤ x ∧ x < 256) : r.May ∧ r.kind ≠ 8 := ⟨⟨h.2.1, h.1, Or.inl h.2.2.1, h.2.2.2⟩, by have := rOk_b h.2.2.1; omega⟩
theorem lastOf_snoc : ∀ (l : List Rc) (last : Int) (r : Rc), lastOf last (l ++ [r]) = r.tm
  | [], _, _ => rfl
  | x :: t, _, r => lastOf_snoc t x.tm r
theorem encR_snoc : ∀ (l : List Rc) (last : Int) (r : Rc), encR last (l ++ [r]) = encR last l ++ rb r (lastOf last l)
  | [], last, r => by show rb r last ++ [] = _; rw [List.append_nil]; rfl
  | x :: t, last, r => by show rb x last ++ encR x.tm (t ++ [r]) = rb x last ++ encR x.tm t ++ rb r (lastOf x.tm t); rw [encR_snoc t, List.append_assoc]
theorem chain_snoc : ∀ (l : List Rc) (last : Int) (r : Rc), Chain last (l ++ [r]) ↔ Chain last l ∧ (r.tm ≤ two62 ∧ 0 ≤ r.tm ∧ rOk r.kind r.n r.bs.length = true ∧ ∀ x ∈ r.bs, 0 ≤ x ∧ x < 256) ∧ lastOf last l ≤ r.tm
  | [], last, r => by
    show (_ ∧ _ ∧ True) ↔ True ∧ _
    simp [lastOf]
  | x :: t, last, r => by
    show (_ ∧ _ ∧ Chain x.tm (t ++ [r])) ↔ (_ ∧ _ ∧ Chain x.tm t) ∧ _ ∧ lastOf x.tm t ≤ r.tm
    rw [chain_snoc t]
    constructor
    · rintro ⟨h1, h2, h3, h4, h5⟩; exact ⟨⟨h1, h2, h3⟩, h4, h5⟩
    · rintro ⟨⟨h1, h2, h3⟩, h4, h5⟩; exact ⟨h1, h2, h3, h4, h5⟩
theorem chain_last : ∀ (l : List Rc) (last : Int), Chain last l → last ≤ two62 → last ≤ lastOf last l ∧ lastOf last l ≤ two62
  | [], last, _, h => ⟨Int.le_refl _, h⟩
  | x :: t, last, h, _ => by
    have := chain_last t x.tm h.2.2 h.1.1
    have e := h.2.1
    exact ⟨by show last ≤ lastOf x.tm t; omega, this.2⟩
/-- Records are read back. -/
theorem dec_enc : ∀ (l : List Rc) (last en : Int) (acc : List Rc) (at_ : Nat) (rest : List Int), Chain last l → 0 ≤ last → dec false en last acc at_ (encR last l ++ rest) = dec false en (lastOf last l) (acc ++ l) (at_ + (encR last l).length) rest
  | [], last, en, acc, at_, rest, _, _ => by simp [encR, lastOf]
  | r :: t, last, en, acc, at_, rest, h, h0 => by
    show dec false en last acc at_ ((rb r last ++ encR r.tm t) ++ rest) = dec false en (lastOf r.tm t) (acc ++ r :: t) (at_ + (rb r last ++ encR r.tm t).length) rest
    obtain ⟨hm, hk⟩ := may_chain h.1
    rw [List.append_assoc, dec_rb hm h0 h.2.1, if_neg hk, dec_enc t r.tm en (acc ++ [r]) _ rest h.2.2 hm.1, List.length_append]
    simp [Nat.add_assoc]
/-- The bytes of the record that ends a log. -/
def encE (last : Int) (wh : Bool) (en : Int) : List Int := if wh then rb (endR en) last else []
theorem dec_end {last en : Int} {acc : List Rc} {at_ : Nat} (wh : Bool) (h0 : 0 ≤ last) (h1 : wh = true → last ≤ en ∧ en ≤ two62) (h2 : wh = false → en = 0) : dec false 0 last acc at_ (encE last wh en) = some (acc, wh, en, at_ + (encE last wh en).length) := by
  cases wh with
  | false => rw [h2 rfl]; simp [encE, dec_nil]
  | true =>
    have := h1 rfl
    have hm : (endR en).May := endR_may (by omega) this.2
    show dec false 0 last acc at_ (rb (endR en) last) = some (acc, true, en, at_ + (rb (endR en) last).length)
    have := dec_rb (en := 0) (rs := acc) (at_ := at_) (rest := []) hm h0 this.1
    rw [List.append_nil] at this
    rw [this, if_pos (show (endR en).kind = 8 from rfl), dec_nil]
    rfl
/-- A beginning of records' bytes is read as a beginning of the records. -/
theorem dec_cut : ∀ (l : List Rc) (last : Int) (acc : List Rc) (at_ j : Nat) (wh : Bool) (en : Int), Chain last l → 0 ≤ last → (wh = true → lastOf last l ≤ en ∧ en ≤ two62) → j < (encR last l ++ encE (lastOf last l) wh en).length → ∃ k m, k ≤ l.length ∧ m ≤ j ∧ dec false 0 last acc at_ ((encR last l ++ encE (lastOf last l) wh en).take j) = some (acc ++ l.take k, false, 0, at_ + m)
  | [], last, acc, at_, j, wh, en, _, h0, h1, hj => by
    refine ⟨0, 0, Nat.le_refl _, Nat.zero_le _, ?_⟩
    show dec false 0 last acc at_ ((encE last wh en).take j) = _
    cases wh with
    | false => simp [encR, encE] at hj
    | true =>
      have hen := h1 rfl
      have hm : (endR en).May := endR_may (by have : lastOf last [] = last := rfl; omega) hen.2
      have := dec_part (en := 0) (rs := acc) (at_ := at_) (j := j) hm h0 (by simpa [encR, encE, lastOf] using hj)
      simpa [encE] using this
  | r :: t, last, acc, at_, j, wh, en, h, h0, h1, hj => by
    obtain ⟨hm, hk⟩ := may_chain h.1
    have e : encR last (r :: t) ++ encE (lastOf last (r :: t)) wh en = rb r last ++ (encR r.tm t ++ encE (lastOf r.tm t) wh en) := by
      show (rb r last ++ encR r.tm t) ++ encE (lastOf r.tm t) wh en = _
      rw [List.append_assoc]
    rw [e] at hj ⊢
    by_cases hc : j < (rb r last).length
    · refine ⟨0, 0, Nat.zero_le _, Nat.zero_le _, ?_⟩
      rw [List.take_append_of_le_length (by omega), dec_part hm h0 hc]
      simp
    · rw [List.length_append] at hj
      obtain ⟨k, m, k1, k2, k3⟩ := dec_cut t r.tm (acc ++ [r]) (at_ + (rb r last).length) (j - (rb r last).length) wh en h.2.2 hm.1 h1 (by omega)
      refine ⟨k + 1, (rb r last).length + m, by simp; omega, by omega, ?_⟩
      rw [List.take_append, List.take_of_length_le (by omega), dec_rb hm h0 h.2.1, if_neg hk, k3]
      simp [Nat.add_assoc]
/-- What is read is told in the same bytes. -/
theorem dec_inv : ∀ (N : Nat) (b : List Int) (last : Int) (acc rs : List Rc) (at_ n : Nat) (wh : Bool) (en : Int), b.length ≤ N → (∀ x ∈ b, 0 ≤ x ∧ x < 256) → 0 ≤ last → last ≤ two62 → dec false 0 last acc at_ b = some (rs, wh, en, n) →
    ∃ l k, rs = acc ++ l ∧ Chain last l ∧ n = at_ + k ∧ k ≤ b.length ∧ b.take k = encR last l ++ encE (lastOf last l) wh en ∧ (wh = true → lastOf last l ≤ en ∧ en ≤ two62) ∧ (wh = false → en = 0)
  | 0, b, last, acc, rs, at_, n, wh, en, hN, hb, h0, h1, h => by
    obtain rfl : b = [] := List.eq_nil_of_length_eq_zero (by omega)
    rw [dec_nil] at h
    cases h
    exact ⟨[], 0, by simp, trivial, rfl, Nat.le_refl _, rfl, (fun h => by cases h), fun _ => rfl⟩
  | N + 1, b, last, acc, rs, at_, n, wh, en, hN, hb, h0, h1, h => by
    have stop : some (acc, false, (0 : Int), at_) = some (rs, wh, en, n) → ∃ l k, rs = acc ++ l ∧ Chain last l ∧ n = at_ + k ∧ k ≤ b.length ∧ b.take k = encR last l ++ encE (lastOf last l) wh en ∧ (wh = true → lastOf last l ≤ en ∧ en ≤ two62) ∧ (wh = false → en = 0) := by
      intro h
      cases h
      exact ⟨[], 0, by simp, trivial, rfl, Nat.zero_le _, rfl, (fun h => by cases h), fun _ => rfl⟩
    rw [dec] at h
    split at h
    · exact stop h
    · rename_i hne
      split at h
      · cases h
      · rename_i h2
        split at h
        · exact stop h
        · rename_i h3
          obtain ⟨m, c, e1, e2, e3, e4⟩ := tk0_inv (b := b) hb (by omega)
          rw [e2, e3] at h3 h
          simp only [Int.toNat_natCast] at h
          have hlen := congrArg List.length e1
          rw [List.length_append] at hlen
          have ed : b.drop (num m).length = c := by rw [e1, List.drop_left]
          rw [ed] at h
          have hcb : ∀ x ∈ c, 0 ≤ x ∧ x < 256 := fun x hx => hb x (by rw [e1]; simp [hx])
          split at h
          · cases h
          · rename_i r hr
            obtain ⟨q1, q2, q3⟩ := body_inv (fun x hx => hcb x (List.mem_of_mem_take hx)) h0 h1 hr
            have hbl : (bd r last).length = m := by rw [← q1, List.length_take]; omega
            have erb : b.take ((num m).length + m) = rb r last := by
              rw [e1, List.take_append, List.take_of_length_le (by omega), show (num m).length + m - (num m).length = m by omega, q1]
              unfold rb
              rw [hbl]
            have hdl : (b.drop ((num m).length + m)).length = b.length - ((num m).length + m) := List.length_drop
            have hp := num_pos m
            have hdb : ∀ x ∈ b.drop ((num m).length + m), 0 ≤ x ∧ x < 256 := fun x hx => hb x (List.mem_of_mem_drop hx)
            have app : ∀ k, b.take ((num m).length + m + k) = rb r last ++ (b.drop ((num m).length + m)).take k := fun k => by rw [List.take_add, erb]
            split at h
            · rename_i h8
              have hr8 : r = endR r.tm := by
                rcases q2.2.2.1 with e | e
                · have := rOk_b e; omega
                · obtain ⟨tm, k, n', bs⟩ := r
                  simp only at e
                  obtain ⟨rfl, rfl, rfl⟩ := e
                  rfl
              have hnil : b.drop ((num m).length + m) = [] := by
                rw [dec] at h
                split at h
                · assumption
                · rw [if_pos (by simp)] at h; cases h
              rw [hnil, dec_nil] at h
              cases h
              refine ⟨[], (num m).length + m, by simp, trivial, rfl, by omega, ?_, (fun _ => ⟨q3, q2.2.1⟩), (fun h => by cases h)⟩
              rw [erb]
              show rb r last = [] ++ rb (endR r.tm) last
              rw [List.nil_append, ← hr8]
            · rename_i h8
              have hok : rOk r.kind r.n r.bs.length = true := by
                rcases q2.2.2.1 with e | e
                · exact e
                · exact absurd e.1 h8
              obtain ⟨l, k, z1, z2, z3, z4, z5, z6, z7⟩ := dec_inv N _ r.tm _ rs _ n wh en (by omega) hdb q2.1 q2.2.1 h
              refine ⟨r :: l, (num m).length + m + k, by rw [z1]; simp, ⟨⟨q2.2.1, q2.1, hok, q2.2.2.2⟩, q3, z2⟩, by omega, by omega, ?_, z6, z7⟩
              rw [app, z5]
              show _ = (rb r last ++ encR r.tm l) ++ encE (lastOf r.tm l) wh en
              rw [List.append_assoc]
theorem encR_len : ∀ (l : List Rc) (last : Int), Chain last l → 0 ≤ last → ((encR last l).length : Int) ≤ l.foldl (fun n r => n + 16 + (r.bs.length : Int)) 0
  | [], _, _, _ => by simp [encR]
  | r :: t, last, h, h0 => by
    obtain ⟨hm, hk⟩ := may_chain h.1
    have e1 := rb_len hm h0
    have e2 := encR_len t r.tm h.2.2 hm.1
    have sh : ∀ (l : List Rc) (a : Int), l.foldl (fun n r => n + 16 + (r.bs.length : Int)) a = a + l.foldl (fun n r => n + 16 + (r.bs.length : Int)) 0 := by
      intro l
      induction l with
      | nil => intro a; simp
      | cons x l ih => intro a; rw [List.foldl_cons, List.foldl_cons, ih, ih (0 + 16 + (x.bs.length : Int))]; omega
    show ((rb r last ++ encR r.tm t).length : Int) ≤ _
    rw [List.foldl_cons, sh, List.length_append]
    omega
end Go.Proofs.Ytjffclcjijpmiaa.LG
namespace Go.Proofs.Ytjffclcjijpmiaa.LG
set_option linter.unusedVariables false

structure Lg where
  fr : Int
  se : Int
  mo : Int
  rs : List Rc
  wh : Bool
  en : Int
  deriving DecidableEq
def Lg.zero : Lg := ⟨0, 0, 0, [], false, 0⟩
def headOk (fr se mo : Int) : Bool := decide ((1 ≤ fr ∧ fr ≤ 32) ∧ (1 ≤ se ∧ se ≤ 32) ∧ 1 ≤ mo ∧ mo ≤ 65536)
/-- Are the records right, one not below the other? -/
def rsOk : Int → List Rc → Bool
  | _, [] => true
  | last, r :: t => r.right && decide (last ≤ r.tm) && rsOk r.tm t
def Lg.ok (l : Lg) : Bool := headOk l.fr l.se l.mo && decide (0 ≤ l.en ∧ l.en ≤ two62) && (l.wh || decide (l.en = 0)) && rsOk 0 l.rs && (!l.wh || decide (lastOf 0 l.rs ≤ l.en))
def Lg.By (l : Lg) : Prop := ∀ r ∈ l.rs, ∀ x ∈ r.bs, 0 ≤ x ∧ x < 256
theorem chain_iff : ∀ (l : List Rc) (last : Int), (∀ r ∈ l, ∀ x ∈ r.bs, 0 ≤ x ∧ x < 256) → (rsOk last l = true ↔ Chain last l)
  | [], last, _ => by simp [rsOk, Chain]
  | r :: t, last, h => by
    have ih := chain_iff t r.tm fun x hx => h x (by simp [hx])
    have hb := h r (by simp)
    simp only [rsOk, Chain, Bool.and_eq_true, ih, Rc.right, decide_eq_true_eq]
    constructor
    · rintro ⟨⟨⟨⟨h1, h2⟩, h3⟩, h4⟩, h5⟩; exact ⟨⟨h2, h1, h3, hb⟩, h4, h5⟩
    · rintro ⟨⟨h2, h1, h3, _⟩, h4, h5⟩; exact ⟨⟨⟨⟨h1, h2⟩, h3⟩, h4⟩, h5⟩
theorem chain_by : ∀ (l : List Rc) (last : Int), Chain last l → ∀ r ∈ l, ∀ x ∈ r.bs, 0 ≤ x ∧ x < 256
  | [], _, _ => by simp
  | r :: t, last, h => by
    intro q hq
    rcases List.mem_cons.1 hq with rfl | hq
    · exact h.1.2.2.2
    · exact chain_by t r.tm h.2.2 q hq
def pmdr : List Int := [80, 77, 68, 82]
def encH (fr se mo : Int) : List Int := pmdr ++ (num fr.toNat ++ (num se.toNat ++ num mo.toNat))
/-- A log's bytes. -/
def Lg.enc (l : Lg) : List Int := encH l.fr l.se l.mo ++ (encR 0 l.rs ++ encE (lastOf 0 l.rs) l.wh l.en)
def Lg.bound (l : Lg) : Int := l.rs.foldl (fun n r => n + 16 + (r.bs.length : Int)) 32
/-- A head's number: it, and what is behind it. -/
def hn (b : List Int) : Option (Int × List Int) := if (tk 0 1 0 b).2 ≤ 0 ∨ 65536 < (tk 0 1 0 b).1 then none else some ((tk 0 1 0 b).1, b.drop (tk 0 1 0 b).2.toNat)
/-- What bytes tell: a log, how many are read, an error. -/
def dcL (b : List Int) : Lg × Int × Int :=
  if b.take 4 ≠ pmdr then (Lg.zero, 0, 261)
  else match hn (b.drop 4) with
    | none => (Lg.zero, 0, 261)
    | some (fr, b1) => match hn b1 with
      | none => (Lg.zero, 0, 261)
      | some (se, b2) => match hn b2 with
        | none => (Lg.zero, 0, 261)
        | some (mo, b3) =>
          if headOk fr se mo = false then (Lg.zero, 0, 261)
          else match dec false 0 0 [] (b.length - b3.length) b3 with
            | none => (Lg.zero, 0, 260)
            | some (rs, wh, en, n) => (⟨fr, se, mo, rs, wh, en⟩, n, 0)
theorem hn_num {m : Nat} (h : m ≤ 65536) (rest : List Int) : hn (num m ++ rest) = some ((m : Int), rest) := by
  unfold hn
  have hp := num_pos m
  rw [tk0_num (by omega), if_neg (by omega), Int.toNat_natCast, List.drop_left]
theorem hn_inv {b c : List Int} {v : Int} (hb : ∀ x ∈ b, 0 ≤ x ∧ x < 256) (h : hn b = some (v, c)) : ∃ m : Nat, v = m ∧ m ≤ 65536 ∧ b = num m ++ c := by
  unfold hn at h
  split at h
  · cases h
  · rename_i h1
    obtain ⟨m, rest, e1, e2, e3, e4⟩ := tk0_inv hb (by omega)
    rw [e2, e3] at h
    rw [e2] at h1
    rw [Int.toNat_natCast] at h
    have : b.drop (num m).length = rest := by rw [e1, List.drop_left]
    rw [this] at h
    cases h
    exact ⟨m, rfl, by omega, e1⟩
theorem headOk_b {fr se mo : Int} (h : headOk fr se mo = true) : (1 ≤ fr ∧ fr ≤ 32) ∧ (1 ≤ se ∧ se ≤ 32) ∧ 1 ≤ mo ∧ mo ≤ 65536 := by simpa [headOk] using h
theorem dcL_head {fr se mo : Int} (h : headOk fr se mo = true) (rest : List Int) : dcL (encH fr se mo ++ rest) = match dec false 0 0 [] (encH fr se mo).length rest with
    | none => (Lg.zero, 0, 260)
    | some (rs, wh, en, n) => (⟨fr, se, mo, rs, wh, en⟩, n, 0) := by
  have hb := headOk_b h
  unfold dcL
  have e : encH fr se mo ++ rest = pmdr ++ (num fr.toNat ++ (num se.toNat ++ (num mo.toNat ++ rest))) := by unfold encH; simp [List.append_assoc]
  have e4 : (encH fr se mo ++ rest).take 4 = pmdr := by rw [e]; rfl
  have d4 : (encH fr se mo ++ rest).drop 4 = num fr.toNat ++ (num se.toNat ++ (num mo.toNat ++ rest)) := by rw [e]; rfl
  rw [if_neg (by rw [e4]; simp), d4, hn_num (by omega)]
  simp only [hn_num (show se.toNat ≤ 65536 by omega), hn_num (show mo.toNat ≤ 65536 by omega)]
  rw [show ((fr.toNat : Int)) = fr by omega, show ((se.toNat : Int)) = se by omega, show ((mo.toNat : Int)) = mo by omega, if_neg (by rw [h]; simp), show (encH fr se mo ++ rest).length - rest.length = (encH fr se mo).length by rw [List.length_append]; omega]
theorem Lg.ok_b {l : Lg} (h : l.ok = true) (hb : l.By) : headOk l.fr l.se l.mo = true ∧ Chain 0 l.rs ∧ (l.wh = true → lastOf 0 l.rs ≤ l.en ∧ l.en ≤ two62) ∧ (l.wh = false → l.en = 0) := by
  unfold Lg.ok at h
  simp only [Bool.and_eq_true, Bool.or_eq_true, decide_eq_true_eq, chain_iff l.rs 0 hb, Bool.not_eq_true'] at h
  obtain ⟨⟨⟨⟨h1, h2⟩, h3⟩, h4⟩, h5⟩ := h
  refine ⟨h1, h4, fun e => ⟨?_, h2.2⟩, fun e => ?_⟩
  · rcases h5 with h5 | h5
    · rw [e] at h5; cases h5
    · exact h5
  · rcases h3 with h3 | h3
    · rw [e] at h3; cases h3
    · exact h3
/-- THERE AND BACK. -/
theorem dcL_enc {l : Lg} (h : l.ok = true) (hb : l.By) : dcL l.enc = (l, (l.enc.length : Int), 0) := by
  obtain ⟨h1, h2, h3, h4⟩ := Lg.ok_b h hb
  have h0 := (chain_last l.rs 0 h2 (by decide)).1
  unfold Lg.enc
  rw [dcL_head h1, dec_enc l.rs 0 0 [] _ _ h2 (by omega), dec_end l.wh h0 h3 h4]
  simp only [List.nil_append, List.length_append]
  obtain ⟨fr, se, mo, rs, wh, en⟩ := l
  congr 2
  push_cast
  omega
/-- CUT OFF behind the head, or in it. -/
theorem dcL_cut {l : Lg} (h : l.ok = true) (hb : l.By) {j : Nat} (hj : j < l.enc.length) : (∃ k m, k ≤ l.rs.length ∧ m ≤ j ∧ dcL (l.enc.take j) = (⟨l.fr, l.se, l.mo, l.rs.take k, false, 0⟩, ((m : Nat) : Int), 0)) ∨ (j < 10 ∧ dcL (l.enc.take j) = (Lg.zero, 0, 261)) := by
  obtain ⟨h1, h2, h3, h4⟩ := Lg.ok_b h hb
  have hh := headOk_b h1
  by_cases hc : (encH l.fr l.se l.mo).length ≤ j
  · left
    unfold Lg.enc at hj ⊢
    rw [List.length_append] at hj
    obtain ⟨k, m, k1, k2, k3⟩ := dec_cut l.rs 0 [] (encH l.fr l.se l.mo).length (j - (encH l.fr l.se l.mo).length) l.wh l.en h2 (by omega) h3 (by omega)
    refine ⟨k, (encH l.fr l.se l.mo).length + m, k1, by omega, ?_⟩
    rw [List.take_append, List.take_of_length_le (by omega), dcL_head h1, k3]
    simp
  · right
    have l1 : num l.fr.toNat = [l.fr] := by rw [num_small (by omega), show ((l.fr.toNat : Nat) : Int) = l.fr by omega]
    have l2 : num l.se.toNat = [l.se] := by rw [num_small (by omega), show ((l.se.toNat : Nat) : Int) = l.se by omega]
    have l3 := num_len 2 (n := l.mo.toNat) (by omega)
    have hl : (encH l.fr l.se l.mo).length = 6 + (num l.mo.toNat).length := by unfold encH; rw [l1, l2]; simp [pmdr]; omega
    refine ⟨by omega, ?_⟩
    have e : l.enc.take j = (pmdr ++ ([l.fr] ++ ([l.se] ++ num l.mo.toNat))).take j := by
      unfold Lg.enc
      rw [List.take_append_of_le_length (by omega)]
      unfold encH
      rw [l1, l2]
    have tl : ∀ x, 1 ≤ x → x ≤ 32 → ∀ r : List Int, hn (x :: r) = some (x, r) := by
      intro x hx hx2 r
      have := hn_num (m := x.toNat) (by omega) r
      rw [num_small (by omega)] at this
      rw [show ((x.toNat : Nat) : Int) = x by omega] at this
      exact this
    have t0 : hn [] = none := rfl
    rw [e]
    match j, hc with
    | 0, _ => rfl
    | 1, _ => rfl
    | 2, _ => rfl
    | 3, _ => rfl
    | 4, _ => rfl
    | 5, _ =>
      unfold dcL
      rw [if_neg (by simp [pmdr])]
      simp [pmdr, tl l.fr hh.1.1 hh.1.2, t0]
    | n + 6, hc =>
      unfold dcL
      rw [if_neg (by simp [pmdr])]
      have tp : hn ((num l.mo.toNat).take n) = none := by
        unfold hn
        rw [tk_part _ 0 1 0 n (by omega) (by have : lim 0 = 2 ^ 63 := rfl; omega) (by omega) (by omega), if_pos (by left; simp)]
      have ed : ((pmdr ++ ([l.fr] ++ ([l.se] ++ num l.mo.toNat))).take (n + 6)).drop 4 = l.fr :: l.se :: (num l.mo.toNat).take n := rfl
      rw [ed, tl l.fr hh.1.1 hh.1.2]
      simp only [tl l.se hh.2.1.1 hh.2.1.2, tp]
/-- WHAT IS READ is told in the same bytes. -/
theorem dcL_inv {b : List Int} (hb : ∀ x ∈ b, 0 ≤ x ∧ x < 256) {l : Lg} {n : Int} (h : dcL b = (l, n, 0)) : l.ok = true ∧ l.By ∧ ∃ k : Nat, n = k ∧ k ≤ b.length ∧ l.enc = b.take k := by
  unfold dcL at h
  split at h
  · cases h
  · rename_i h4
    have h4 : b.take 4 = pmdr := by simpa using h4
    have hb4 : ∀ x ∈ b.drop 4, 0 ≤ x ∧ x < 256 := fun x hx => hb x (List.mem_of_mem_drop hx)
    split at h
    · cases h
    · rename_i fr b1 g1
      obtain ⟨m1, rfl, q1, r1⟩ := hn_inv hb4 g1
      split at h
      · cases h
      · rename_i se b2 g2
        obtain ⟨m2, rfl, q2, r2⟩ := hn_inv (fun x hx => hb4 x (by rw [r1]; simp [hx])) g2
        split at h
        · cases h
        · rename_i mo b3 g3
          obtain ⟨m3, rfl, q3, r3⟩ := hn_inv (fun x hx => hb4 x (by rw [r1, r2]; simp [hx])) g3
          split at h
          · cases h
          · rename_i hok
            have hok : headOk m1 m2 m3 = true := by simpa using hok
            split at h
            · cases h
            · rename_i rs wh en n' hd
              cases h
              have eb : b = encH m1 m2 m3 ++ b3 := by
                rw [← List.take_append_drop 4 b, h4, r1, r2, r3]
                unfold encH
                simp [List.append_assoc]
              have hlen := congrArg List.length eb
              rw [List.length_append] at hlen
              obtain ⟨l, k, z1, z2, z3, z4, z5, z6, z7⟩ := dec_inv _ b3 0 [] rs _ n' wh en (Nat.le_refl _) (fun x hx => hb4 x (by rw [r1, r2, r3]; simp [hx])) (by omega) (by decide) hd
              rw [List.nil_append] at z1
              subst z1
              have hc := chain_last rs 0 z2 (by decide)
              refine ⟨?_, chain_by rs 0 z2, (encH m1 m2 m3).length + k, by rw [z3]; congr 1; omega, by omega, ?_⟩
              · unfold Lg.ok
                simp only [Bool.and_eq_true, Bool.or_eq_true, decide_eq_true_eq, chain_iff rs 0 (chain_by rs 0 z2), Bool.not_eq_true']
                refine ⟨⟨⟨⟨hok, ?_⟩, ?_⟩, z2⟩, ?_⟩
                · cases wh with
                  | true => have := z6 rfl; omega
                  | false => rw [z7 rfl]; decide
                · cases wh with
                  | true => exact Or.inl rfl
                  | false => exact Or.inr (z7 rfl)
                · cases wh with
                  | true => exact Or.inr (z6 rfl).1
                  | false => exact Or.inl rfl
              · unfold Lg.enc
                dsimp only
                rw [← z5]
                conv => rhs; rw [eb]
                exact (List.take_length_add_append k).symm
theorem Lg.bound_eq (l : Lg) : l.bound = 32 + l.rs.foldl (fun n r => n + 16 + (r.bs.length : Int)) 0 := by
  have sh : ∀ (l : List Rc) (a : Int), l.foldl (fun n r => n + 16 + (r.bs.length : Int)) a = a + l.foldl (fun n r => n + 16 + (r.bs.length : Int)) 0 := by
    intro l
    induction l with
    | nil => intro a; simp
    | cons x l ih => intro a; rw [List.foldl_cons, List.foldl_cons, ih, ih (0 + 16 + (x.bs.length : Int))]; omega
  exact sh l.rs 32
/-- NO MORE than its bound. -/
theorem enc_bound {l : Lg} (h : l.ok = true) (hb : l.By) : (l.enc.length : Int) ≤ l.bound := by
  obtain ⟨h1, h2, h3, h4⟩ := Lg.ok_b h hb
  have hh := headOk_b h1
  have e1 := num_len 2 (n := l.fr.toNat) (by omega)
  have e2 := num_len 2 (n := l.se.toNat) (by omega)
  have e3 := num_len 2 (n := l.mo.toNat) (by omega)
  have e4 := encR_len l.rs 0 h2 (by omega)
  have h0 := (chain_last l.rs 0 h2 (by decide)).1
  have e5 : (encE (lastOf 0 l.rs) l.wh l.en).length ≤ 16 := by
    unfold encE
    split
    · rename_i hw
      have hen := h3 hw
      have := rb_len (endR_may (t := l.en) (by omega) hen.2) h0
      simp [endR] at this ⊢
      omega
    · simp
  rw [Lg.bound_eq]
  unfold Lg.enc encH
  simp only [List.length_append]
  have : pmdr.length = 4 := rfl
  push_cast
  omega
/-- The log of works. -/
def workL : Lg := ⟨2, 1, 4, [⟨300, 3, 0, [104, 105]⟩], true, 301⟩
theorem work_enc : workL.enc = [80, 77, 68, 82, 2, 1, 4, 6, 3, 172, 2, 0, 104, 105, 3, 8, 1, 0] := by decide +kernel
theorem work_ok : workL.ok = true := by decide +kernel
theorem work_dec : dcL [80, 77, 68, 82, 2, 1, 4, 6, 3, 172, 2, 0, 104, 105, 3, 8, 1, 0] = (workL, 18, 0) := by decide +kernel
theorem work_cut : dcL [80, 77, 68, 82, 2, 1, 4, 6, 3, 172, 2, 0, 104, 105, 3, 8, 1] = (⟨2, 1, 4, [⟨300, 3, 0, [104, 105]⟩], false, 0⟩, 14, 0) := by decide +kernel
end Go.Proofs.Ytjffclcjijpmiaa.LG

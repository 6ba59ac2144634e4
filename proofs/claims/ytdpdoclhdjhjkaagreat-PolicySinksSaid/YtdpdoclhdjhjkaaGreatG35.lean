/-
  Layer 13: which rules may be, does it stop, which alerts there are, by the document: walks.
-/
import Derived.Test.YtdpdoclhdjhjkaaGreatG31
import Derived.Test.YtdpdoclhdjhjkaaGreatG32
import Derived.Test.YtdpdoclhdjhjkaaGreatG33
import Derived.Test.YtdpdoclhdjhjkaaGreatG34
set_option linter.unusedVariables false
set_option linter.unusedSimpArgs false
namespace Go.Proofs.YtdpdoclhdjhjkaaGreat
open Go.RowKit
set_option maxHeartbeats 8000000
set_option maxRecDepth 100000
set_option linter.unusedVariables false
set_option linter.unusedSimpArgs false

/-- May the sets ahead of k be? -/
def mayK (r : Ru) (k : Nat) : Bool := (List.range k).all fun i => decide (r i < 65536) && decide (r (5 + i) < 65536)
theorem mayK_succ (r : Ru) (k : Nat) : mayK r (k + 1) = (mayK r k && (decide (r k < 65536) && decide (r (5 + k) < 65536))) := by
  unfold mayK
  rw [List.range_succ, List.all_append]; simp
def mayH (r : Ru) : Bool := decide (r 0 = 0) && (decide (r 5 = 0) && decide (r 10 < 65536))
theorem mayR_eq (r : Ru) : mayR r = (mayH r && mayK r 5) := by
  have e : ∀ o, (l5 r o).all setB = (setB (r o) && (setB (r (o + 1)) && (setB (r (o + 2)) && (setB (r (o + 3)) && setB (r (o + 4)))))) := fun o => by simp [l5]
  unfold mayR mayH mayK
  rw [e, e, show List.range 5 = [0, 1, 2, 3, 4] from rfl]
  unfold setB
  simp only [List.all_cons, List.all_nil, Bool.and_true, Nat.zero_add, Nat.add_zero, Nat.reduceAdd]
  rw [Bool.eq_iff_iff]
  simp only [Bool.and_eq_true, decide_eq_true_eq]
  constructor
  · rintro ⟨⟨⟨⟨a, b⟩, c1, c2, c3, c4, c5⟩, d1, d2, d3, d4, d5⟩, f⟩
    exact ⟨⟨a, b, f⟩, ⟨c1, d1⟩, ⟨c2, d2⟩, ⟨c3, d3⟩, ⟨c4, d4⟩, c5, d5⟩
  · rintro ⟨⟨a, b, f⟩, ⟨c1, d1⟩, ⟨c2, d2⟩, ⟨c3, d3⟩, ⟨c4, d4⟩, c5, d5⟩
    exact ⟨⟨⟨⟨a, b⟩, c1, c2, c3, c4, c5⟩, d1, d2, d3, d4, d5⟩, f⟩
theorem ruC_atR (r : Ru) {j : Nat} (h : j < 11) : (ruC r)[j]? = some (.int .u32 (r j)) := by
  rcases (show j = 0 ∨ j = 1 ∨ j = 2 ∨ j = 3 ∨ j = 4 ∨ j = 5 ∨ j = 6 ∨ j = 7 ∨ j = 8 ∨ j = 9 ∨ j = 10 by omega) with rfl | rfl | rfl | rfl | rfl | rfl | rfl | rfl | rfl | rfl | rfl <;> rfl
theorem MayRules_any (r : Ru) (w : World) : Calls Tryz.prog 26 #[.agg (ruC r)] w fun e w' => e = .returned (.bool (mayR r)) ∧ Below w.heap.size w w' := by
  have hbk := blk_new w (ruC r) 67
  have HB := Lib.hid (bel1 w (.cells (ruC r) 67))
  have HK := Lib.hid (fun j (hj : j < 11) => (hbk.cell j).trans (ruC_atR r hj))
  have c0 := HK.out 0 (by omega)
  have c5 := HK.out 5 (by omega)
  have c10 := HK.out 10 (by omega)
  obtain ⟨q, hq⟩ : ∃ q, Hid (q = mayR r) := ⟨_, rfl⟩
  rw [← hq.out]
  clear hbk
  go_enter Tryz.func26, Tryz.ntmps26
  by_cases z0 : r 0 = 0
  · by_cases z5 : r 5 = 0
    · have HH : Hid (mayH r = decide (r 10 < 65536)) := Lib.hid (by unfold mayH; rw [decide_eq_true z0, decide_eq_true z5]; rfl)
      go_wp2
      clear c0 c5 c10
      go_loopw [3, 4] (fun a i wr => ∃ (k : Nat) (b : Bool), k ≤ 5 ∧ i = .int .i64 (k : Int) ∧ .bool b = a ∧ wr = w.alloc (.cells (ruC r) 67) ∧ Hid (b = (mayH r && mayK r k))) (fun _ i _ => 6 - natI i)
      case atStart => exact ⟨0, mayH r, by omega, rfl, by first | rfl | (rw [HH.out]; done) | (rw [HH.out]; rfl), rfl, Lib.hid (by unfold mayK; simp)⟩
      case round =>
        obtain ⟨k, b, hk, rfl, rfl, rfl, HQ⟩ := hrel
        by_cases hlt : k < 5
        · have hi : (k : Int) < 5 := by omega
          have hi0 : (0 : Int) ≤ (k : Int) := by omega
          have x0 := HK.out k (by omega)
          have x1 := HK.out (5 + k) (by omega)
          have HN := Lib.hid (mayK_succ r k)
          cases b with
          | false =>
            have HQ2 : Hid (false = (mayH r && mayK r (k + 1))) := Lib.hid (by rw [HN.out, ← Bool.and_assoc, ← HQ.out]; rfl)
            go_wp2
            exact ⟨⟨k + 1, false, by omega, by go_num, by first | rfl | trivial, by first | rfl | trivial, HQ2⟩, by simp [natI]; omega⟩
          | true =>
            by_cases h1 : r k < 65536
            · have hd1 : decide (r k < 65536) = true := decide_eq_true h1
              by_cases h2 : r (5 + k) < 65536
              · have hd2 : decide (r (5 + k) < 65536) = true := decide_eq_true h2
                have HQ2 : Hid (true = (mayH r && mayK r (k + 1))) := Lib.hid (by rw [HN.out, ← Bool.and_assoc, ← HQ.out, hd1, hd2]; rfl)
                clear HN
                go_wp2
                exact ⟨⟨k + 1, true, by omega, by go_num, by first | rfl | trivial | simp [hd1, hd2], by first | rfl | trivial, HQ2⟩, by simp [natI]; omega⟩
              · have hd2 : decide (r (5 + k) < 65536) = false := decide_eq_false h2
                have HQ2 : Hid (false = (mayH r && mayK r (k + 1))) := Lib.hid (by rw [HN.out, ← Bool.and_assoc, ← HQ.out, hd1, hd2]; rfl)
                clear HN
                go_wp2
                exact ⟨⟨k + 1, false, by omega, by go_num, by first | rfl | trivial | simp [hd1, hd2], by first | rfl | trivial, HQ2⟩, by simp [natI]; omega⟩
            · have hd1 : decide (r k < 65536) = false := decide_eq_false h1
              have HQ2 : Hid (false = (mayH r && mayK r (k + 1))) := Lib.hid (by rw [HN.out, ← Bool.and_assoc, ← HQ.out, hd1]; rfl)
              clear HN
              go_wp2
              exact ⟨⟨k + 1, false, by omega, by go_num, by first | rfl | trivial | simp [hd1], by first | rfl | trivial, HQ2⟩, by simp [natI]; omega⟩
        · obtain rfl : k = 5 := by omega
          have HQ3 : Hid (b = q) := Lib.hid (by rw [hq.out, mayR_eq]; exact HQ.out)
          go_wp2
          go_ret
          exact ⟨by rw [← HQ3.out]; rfl, HB.out⟩
    · have HH : Hid (mayH r = false) := Lib.hid (by unfold mayH; rw [decide_eq_false z5]; simp)
      go_wp2
      clear c0 c5 c10
      go_loopw [3, 4] (fun a i wr => ∃ (k : Nat) (b : Bool), k ≤ 5 ∧ i = .int .i64 (k : Int) ∧ .bool b = a ∧ wr = w.alloc (.cells (ruC r) 67) ∧ Hid (b = (mayH r && mayK r k))) (fun _ i _ => 6 - natI i)
      case atStart => exact ⟨0, mayH r, by omega, rfl, by first | rfl | (rw [HH.out]; done) | (rw [HH.out]; rfl), rfl, Lib.hid (by unfold mayK; simp)⟩
      case round =>
        obtain ⟨k, b, hk, rfl, rfl, rfl, HQ⟩ := hrel
        by_cases hlt : k < 5
        · have hi : (k : Int) < 5 := by omega
          have hi0 : (0 : Int) ≤ (k : Int) := by omega
          have x0 := HK.out k (by omega)
          have x1 := HK.out (5 + k) (by omega)
          have HN := Lib.hid (mayK_succ r k)
          cases b with
          | false =>
            have HQ2 : Hid (false = (mayH r && mayK r (k + 1))) := Lib.hid (by rw [HN.out, ← Bool.and_assoc, ← HQ.out]; rfl)
            go_wp2
            exact ⟨⟨k + 1, false, by omega, by go_num, by first | rfl | trivial, by first | rfl | trivial, HQ2⟩, by simp [natI]; omega⟩
          | true =>
            by_cases h1 : r k < 65536
            · have hd1 : decide (r k < 65536) = true := decide_eq_true h1
              by_cases h2 : r (5 + k) < 65536
              · have hd2 : decide (r (5 + k) < 65536) = true := decide_eq_true h2
                have HQ2 : Hid (true = (mayH r && mayK r (k + 1))) := Lib.hid (by rw [HN.out, ← Bool.and_assoc, ← HQ.out, hd1, hd2]; rfl)
                clear HN
                go_wp2
                exact ⟨⟨k + 1, true, by omega, by go_num, by first | rfl | trivial | simp [hd1, hd2], by first | rfl | trivial, HQ2⟩, by simp [natI]; omega⟩
              · have hd2 : decide (r (5 + k) < 65536) = false := decide_eq_false h2
                have HQ2 : Hid (false = (mayH r && mayK r (k + 1))) := Lib.hid (by rw [HN.out, ← Bool.and_assoc, ← HQ.out, hd1, hd2]; rfl)
                clear HN
                go_wp2
                exact ⟨⟨k + 1, false, by omega, by go_num, by first | rfl | trivial | simp [hd1, hd2], by first | rfl | trivial, HQ2⟩, by simp [natI]; omega⟩
            · have hd1 : decide (r k < 65536) = false := decide_eq_false h1
              have HQ2 : Hid (false = (mayH r && mayK r (k + 1))) := Lib.hid (by rw [HN.out, ← Bool.and_assoc, ← HQ.out, hd1]; rfl)
              clear HN
              go_wp2
              exact ⟨⟨k + 1, false, by omega, by go_num, by first | rfl | trivial | simp [hd1], by first | rfl | trivial, HQ2⟩, by simp [natI]; omega⟩
        · obtain rfl : k = 5 := by omega
          have HQ3 : Hid (b = q) := Lib.hid (by rw [hq.out, mayR_eq]; exact HQ.out)
          go_wp2
          go_ret
          exact ⟨by rw [← HQ3.out]; rfl, HB.out⟩
  · have HH : Hid (mayH r = false) := Lib.hid (by unfold mayH; rw [decide_eq_false z0]; simp)
    go_wp2
    clear c0 c5 c10
    go_loopw [3, 4] (fun a i wr => ∃ (k : Nat) (b : Bool), k ≤ 5 ∧ i = .int .i64 (k : Int) ∧ .bool b = a ∧ wr = w.alloc (.cells (ruC r) 67) ∧ Hid (b = (mayH r && mayK r k))) (fun _ i _ => 6 - natI i)
    case atStart => exact ⟨0, mayH r, by omega, rfl, by first | rfl | (rw [HH.out]; done) | (rw [HH.out]; rfl), rfl, Lib.hid (by unfold mayK; simp)⟩
    case round =>
      obtain ⟨k, b, hk, rfl, rfl, rfl, HQ⟩ := hrel
      by_cases hlt : k < 5
      · have hi : (k : Int) < 5 := by omega
        have hi0 : (0 : Int) ≤ (k : Int) := by omega
        have x0 := HK.out k (by omega)
        have x1 := HK.out (5 + k) (by omega)
        have HN := Lib.hid (mayK_succ r k)
        cases b with
        | false =>
          have HQ2 : Hid (false = (mayH r && mayK r (k + 1))) := Lib.hid (by rw [HN.out, ← Bool.and_assoc, ← HQ.out]; rfl)
          go_wp2
          exact ⟨⟨k + 1, false, by omega, by go_num, by first | rfl | trivial, by first | rfl | trivial, HQ2⟩, by simp [natI]; omega⟩
        | true =>
          by_cases h1 : r k < 65536
          · have hd1 : decide (r k < 65536) = true := decide_eq_true h1
            by_cases h2 : r (5 + k) < 65536
            · have hd2 : decide (r (5 + k) < 65536) = true := decide_eq_true h2
              have HQ2 : Hid (true = (mayH r && mayK r (k + 1))) := Lib.hid (by rw [HN.out, ← Bool.and_assoc, ← HQ.out, hd1, hd2]; rfl)
              clear HN
              go_wp2
              exact ⟨⟨k + 1, true, by omega, by go_num, by first | rfl | trivial | simp [hd1, hd2], by first | rfl | trivial, HQ2⟩, by simp [natI]; omega⟩
            · have hd2 : decide (r (5 + k) < 65536) = false := decide_eq_false h2
              have HQ2 : Hid (false = (mayH r && mayK r (k + 1))) := Lib.hid (by rw [HN.out, ← Bool.and_assoc, ← HQ.out, hd1, hd2]; rfl)
              clear HN
              go_wp2
              exact ⟨⟨k + 1, false, by omega, by go_num, by first | rfl | trivial | simp [hd1, hd2], by first | rfl | trivial, HQ2⟩, by simp [natI]; omega⟩
          · have hd1 : decide (r k < 65536) = false := decide_eq_false h1
            have HQ2 : Hid (false = (mayH r && mayK r (k + 1))) := Lib.hid (by rw [HN.out, ← Bool.and_assoc, ← HQ.out, hd1]; rfl)
            clear HN
            go_wp2
            exact ⟨⟨k + 1, false, by omega, by go_num, by first | rfl | trivial | simp [hd1], by first | rfl | trivial, HQ2⟩, by simp [natI]; omega⟩
      · obtain rfl : k = 5 := by omega
        have HQ3 : Hid (b = q) := Lib.hid (by rw [hq.out, mayR_eq]; exact HQ.out)
        go_wp2
        go_ret
        exact ⟨by rw [← HQ3.out]; rfl, HB.out⟩
/-! ### Stops -/
theorem rvRF : RowV 59 5 := ⟨.inl ⟨_, Tryz.underlying59⟩, by kernel_rfl⟩
theorem x_load_RR {n R : Nat} {c : Array Value} {ty : TypeId} {x : Operand} {op : Oper} {ev : Operand → Value} {W : World} (ht : RowV ty n) (ho : op.op = .load ty x) (hx : ev x = .pointer (some ⟨R, 0, none⟩)) (hr : Rf ty n W R c) : (execOp ev op).run Tryz.prog W = .ok (.value (.agg c)) W := by
  unfold execOp
  simp only [ho, hx, Instr.loadAt, Instr.sureAddr, Sem.run_bind, Sem.run_pure, Result.andThen_ok, run_load_V ht hr]
/-- What the document's answers know: the rules and the flow in boxes. -/
structure RsS (w : World) (B : Nat) (r : Ru) (c : Array Value) (tv pv : Value) (ps : List T.Pr) (v : Value) (ts : List T.Tc) (W : World) : Prop where
  b : Below w.heap.size w W
  x : Rf 67 11 W B (ruC r)
  y : Rf 59 5 W (B + 1) c
  f : Fa W tv pv ps
  t : TsIn W v ts
theorem RsS.stb (w : World) (B : Nat) (r : Ru) (c : Array Value) (tv pv : Value) (ps : List T.Pr) (v : Value) (ts : List T.Tc) : Free.Stb (RsS w B r c tv pv ps v ts) := fun W W' h hb => ⟨h.b.trans (hb.mono h.b.size), h.x.below hb, h.y.below hb, h.f.below hb, h.t.below hb⟩
theorem RsS.after {w : World} {B : Nat} {r : Ru} {c : Array Value} {tv pv : Value} {ps : List T.Pr} {v : Value} {ts : List T.Tc} {W W' : World} (h : RsS w B r c tv pv ps v ts W) (hb : Below W.heap.size W W') : RsS w B r c tv pv ps v ts W' := RsS.stb _ _ _ _ _ _ _ _ _ _ _ h hb
theorem RsS.at_ {w : World} {B : Nat} {r : Ru} {c : Array Value} {tv pv : Value} {ps : List T.Pr} {v : Value} {ts : List T.Tc} {W : World} (h : RsS w B r c tv pv ps v ts W) {j : Nat} (hj : j < 11) : W.cell? ⟨B, j, none⟩ = some (.int .u32 (r j)) := by
  rw [h.x.blk.cell, ruC_atR r hj]
theorem RsS.start {w : World} {fr se mo : Int} {r : Ru} {tv pv : Value} {ps : List T.Pr} {v : Value} {ts : List T.Tc} (h : Fa w tv pv ps) (ht : TsIn w v ts) :
    RsS w w.heap.size r (rfc fr se mo tv pv) tv pv ps v ts ((w.alloc (.cells (ruC r) 67)).alloc (.cells (rfc fr se mo tv pv) 59)) := by
  have hb := bel2 w (.cells (ruC r) 67) (.cells (rfc fr se mo tv pv) 59)
  have h2 := (rfc_ok fr se mo h.t h.p.one).new 59 (w.alloc (.cells (ruC r) 67))
  rw [World.size_alloc] at h2
  exact ⟨hb, ((ruC_ok r).new _ w).alloc _, h2, h.below hb, ht.below hb⟩
theorem RStops_any (fr se mo : Int) (r : Ru) (hr : S16 (r 10)) {tv pv v : Value} {ps : List T.Pr} {ts : List T.Tc} {w : World} (h : Fa w tv pv ps) (ht : TsIn w v ts) :
    Calls Tryz.prog 31 #[.agg (ruC r), .agg (rfc fr se mo tv pv), v] w fun e w' => e = .returned (.bool (!decide (andI (T.dec ps 0 ts) (r 10) = 0))) ∧ Below w.heap.size w w' := by
  have HS0 := Lib.hid (RsS.start (fr := fr) (se := se) (mo := mo) (r := r) h ht)
  have HD := Lib.hid (dec_bd h.s (s := 0) (by omega) ts)
  have HR := Lib.hid hr
  have HSm := Lib.hid h.s
  obtain ⟨oa, ca, rfl, _, _⟩ := ht.shape
  clear h ht hr
  generalize hdd : T.dec ps 0 ts = dd at HD
  have HDd := Lib.hid hdd
  clear hdd
  go_enter Tryz.func31, Tryz.ntmps31
  go_wp2
  refine Free.any (RsS w w.heap.size r (rfc fr se mo tv pv) tv pv ps (.slice oa ts.length ca) ts) (RsS.stb w w.heap.size r (rfc fr se mo tv pv) tv pv ps (.slice oa ts.length ca) ts) (HS0.out.after (Below.refl _ _).drew) (fun st => ?_)
  refine Free.tk 0 (some 7) (v := .agg (rfc fr se mo tv pv)) ?_ (hy := by intro W hW; exact x_load_RR rvRF rfl rfl hW.y)
  refine Free.tk 1 (some 8) ?_
  refine Free.cl 2 (some 9) (v := .int .u32 dd) st (fun W hW => by have := RDec_any fr se mo hW.f hW.t; rw [HDd.out] at this; exact this) ?_ (hy := by intro W; go_simp; try rfl)
  refine Free.tk 3 (some 10) ?_
  refine Free.tk 4 (some 11) ?_ (hy := by intro W hW; have c := hW.at_ (j := 10) (by omega); go_simp; try with_reducible rfl)
  refine Free.cl 5 (some 12) (v := .int .u32 (andI dd (r 10))) st (fun W hW => (RMeet_any dd (r 10) HD.out HR.out W).mono fun e w' ⟨h1, h2⟩ => ⟨h1, h2 ▸ Below.refl _ _⟩) ?_ (hy := by intro W; go_simp; try rfl)
  by_cases hz : andI dd (r 10) = 0
  · have hd : decide (andI dd (r 10) = 0) = true := decide_eq_true hz
    refine Free.tk 6 (some 13) (v := .bool false) ?_ (hy := by intro W hW; rw [hz]; go_simp; try rfl)
    refine Free.tk 7 (some 6) ?_
    refine Free.done (fun W hb hW => ?_)
    have HW := Lib.hid hW.b
    have HD2 := Lib.hid hd
    clear hb hW hd hz
    go_wp2
    go_ret
    exact ⟨by rw [HD2.out]; rfl, HW.out⟩
  · have hd : decide (andI dd (r 10) = 0) = false := decide_eq_false hz
    refine Free.tk 6 (some 13) (v := .bool true) ?_ (hy := by intro W hW; go_simp; try rfl)
    refine Free.tk 7 (some 6) ?_
    refine Free.done (fun W hb hW => ?_)
    have HW := Lib.hid hW.b
    have HD2 := Lib.hid hd
    clear hb hW hd hz
    go_wp2
    go_ret
    exact ⟨by rw [HD2.out]; rfl, HW.out⟩
/-! ### SameAlerts -/
theorem rowAl : RowT 147 3 := ⟨⟨_, Tryz.underlying147⟩, by kernel_rfl⟩
theorem eq_placeN (p : T.Pl) (w : World) : (Op.equalIn 9999 35 (.agg #[.int .i64 p.1, .int .i64 p.2]) (.agg #[.int .i64 p.1, .int .i64 p.2])).run Tryz.prog w = .ok true w := by
  rw [run_equalIn_struct w 9998 35 _ _ (by kernel_rfl) (by kernel_rfl)]
  simp only [Program.fieldsOf, Tryz.underlying35]
  go_simp
theorem eq_al (x : T.Pr) (w : World) : (Op.equalIn 10000 147 (.agg (prc x).toArray) (.agg (prc x).toArray)).run Tryz.prog w = .ok true w := by
  rw [run_equalIn_struct w 9999 147 _ _ (by kernel_rfl) (by kernel_rfl)]
  have h0 := eq_placeN x.1 w
  have hu : (Op.equalIn 9999 31 (.int .u32 x.2) (.int .u32 x.2)).run Tryz.prog w = .ok (x.2 == x.2) w := eq_u32n 9998 x.2 x.2 w
  have p0 : (part 35 (prc x).toArray 0).run Tryz.prog w = .ok (.agg #[.int .i64 x.1.1, .int .i64 x.1.2]) w := by kernel_rfl
  have p2 : (part 31 (prc x).toArray 2).run Tryz.prog w = .ok (.int .u32 x.2) w := by kernel_rfl
  simp only [Program.fieldsOf, Tryz.underlying147]
  simp [Op.eqFields, Sem.run_bind, Result.andThen_ok, h0, hu, p0, p2]
theorem x_neq_al {x y : Operand} {op : Oper} {ev : Operand → Value} {W : World} {s : T.Pr} {t2 : TypeId} (ho : op.op = .binOp .neq 147 x y t2) (hx : ev x = .agg (prc s).toArray) (hy : ev y = .agg (prc s).toArray) : (execOp ev op).run Tryz.prog W = .ok (.value (.bool false)) W := by
  have h1 : (eqGuard .neq 147 x y (.agg (prc s).toArray) (.agg (prc s).toArray)).run Tryz.prog W = .ok () W := by
    have : Tryz.prog.eqGuardType Tryz.prog.depth 147 = false := by kernel_rfl
    unfold eqGuard
    simp [this]
  have h2 : (binOp .neq 147 (.agg (prc s).toArray) (.agg (prc s).toArray)).run Tryz.prog W = .ok (.bool false) W := by
    simp [binOp, Op.equal, Op.maxDepth, eq_al s, Sem.run_bind, Result.andThen]
  unfold execOp
  simp only [ho, hx, hy, Sem.run_bind, h1, h2, Result.andThen_ok]
  rfl
def PrB (va vb : Value) (l : List T.Pr) (W : World) : Prop := PrIn W va l ∧ PrIn W vb l
theorem SameAl_any {va vb : Value} {l : List T.Pr} {w : World} (ha : PrIn w va l) (hb : PrIn w vb l) : Calls Tryz.prog 32 #[va, vb] w fun e w' => e = .returned (.bool true) ∧ Below w.heap.size w w' := by
  have HA := Lib.hid (fun W (hb' : Below w.heap.size w W) => (show PrB va vb l W from ⟨ha.below hb', hb.below hb'⟩))
  obtain ⟨oa, ca, rfl, _, hla⟩ := ha.shape
  obtain ⟨ob, cb, rfl, _, hlb⟩ := hb.shape
  have hla' : (l.length : Int) ≤ 9223372036854775807 := by have := hla; unfold maxLen at this; omega
  clear ha hb
  go_enter Tryz.func32, Tryz.ntmps32
  go_wp2
  go_loopw [5] (fun i wr => ∃ k : Nat, k ≤ l.length ∧ i = .int .i64 (k : Int) ∧ Hid (Below w.heap.size w wr)) (fun i _ => l.length + 1 - natI i)
  case atStart => exact ⟨0, by omega, rfl, Below.refl _ _⟩
  case round =>
    obtain ⟨k, hk, rfl, HB⟩ := hrel
    by_cases hlt : k < l.length
    · have hi : (k : Int) < (l.length : Int) := by omega
      obtain ⟨h1, h2⟩ := HA.out _ HB.out
      obtain ⟨g1, o1, c1, x, e1, l1, r1⟩ := h1.at_ hlt
      obtain ⟨g2, o2, c2, y, e2, l2, r2⟩ := h2.at_ hlt
      rw [l1] at l2
      cases l2
      simp at e1 e2
      obtain ⟨rfl, rfl⟩ := e1
      obtain ⟨rfl, rfl⟩ := e2
      have HS : Hid ((fun W : World => W.rangeAt g1 (o1 + k * 3) (prc x) ∧ W.rangeAt g2 (o2 + k * 3) (prc x) ∧ Below w.heap.size w W) wr.drew) := ⟨r1, r2, HB.out.drew⟩
      clear h1 h2 l1 r1 r2
      go_wp2
      refine Free.any (fun W : World => W.rangeAt g1 (o1 + k * 3) (prc x) ∧ W.rangeAt g2 (o2 + k * 3) (prc x) ∧ Below w.heap.size w W) (fun W W' h hb => ⟨fun j u hj => cell_below (h.1 j u hj) hb, fun j u hj => cell_below (h.2.1 j u hj) hb, h.2.2.trans (hb.mono h.2.2.size)⟩) HS.out (fun st => ?_)
      refine Free.tk 0 (some 17) ?_
      refine Free.tk 1 (some 18) ?_
      refine Free.tk 2 (some 19) ?_
      refine Free.tk 3 (some 20) (v := .agg (prc x).toArray) ?_ (hy := by intro W hW; exact x_load_V ⟨.inl rowAl.u, rowAl.i⟩ rfl rfl hW.1 rfl)
      refine Free.tk 4 (some 21) ?_
      refine Free.tk 5 (some 22) ?_
      refine Free.tk 6 (some 23) ?_
      refine Free.tk 7 (some 24) (v := .agg (prc x).toArray) ?_ (hy := by intro W hW; exact x_load_V ⟨.inl rowAl.u, rowAl.i⟩ rfl rfl hW.2.1 rfl)
      refine Free.tk 8 (some 25) (v := .bool false) ?_ (hy := by intro W hW; exact x_neq_al rfl rfl rfl)
      refine Free.done (fun W hb hW => ?_)
      have HW := Lib.hid hW.2.2
      clear hb hW st HS
      go_wp2
      exact ⟨⟨k + 1, by omega, by go_num, HW.out⟩, by simp [natI]; omega⟩
    · obtain rfl : k = l.length := by omega
      go_wp2
      go_ret
      exact ⟨rfl, HB.out⟩
/-! ### Alerts -/
/-- A round of the document's Alerts. -/
structure RaS (w : World) (r : Ru) (c : Array Value) (tv pv : Value) (ps : List T.Pr) (v : Value) (ts : List T.Tc) (av : Value) (l : List T.Pr) (W : World) : Prop where
  s : RsS w w.heap.size r c tv pv ps v ts W
  row : Gs 147 3 W av l.length (l.flatMap prc)
  lo : ∀ k, blkOf av = some k → w.heap.size + 2 ≤ k
theorem RaS.after {w : World} {r : Ru} {c : Array Value} {tv pv : Value} {ps : List T.Pr} {v : Value} {ts : List T.Tc} {av : Value} {l : List T.Pr} {W W' : World} (h : RaS w r c tv pv ps v ts av l W) (hb : Below W.heap.size W W') : RaS w r c tv pv ps v ts av l W' := ⟨h.s.after hb, h.row.below hb, h.lo⟩
theorem RaS.app {w : World} {r : Ru} {c : Array Value} {tv pv : Value} {ps : List T.Pr} {v : Value} {ts : List T.Tc} {av av' : Value} {l : List T.Pr} {W W' : World} (h : RaS w r c tv pv ps v ts av l W) (hf : Fa w tv pv ps) (hts : TsIn w v ts) {x : T.Pr} (hg : Gs 147 3 W' av' (l.length + 1) (l.flatMap prc ++ prc x)) (ht : Turned (fun k => blkOf av = some k) W W') (hn : ∀ k, blkOf av' = some k → blkOf av = some k ∨ W.heap.size ≤ k) : RaS w r c tv pv ps v ts av' (l ++ [x]) W' := by
  have hz := h.s.b.size
  have hy := h.s.y.lt
  have hb : Below w.heap.size w W' := h.s.b.trans (ht.below hz (fun k e => by have := h.lo k e; omega))
  refine ⟨⟨hb, h.s.x.turned ht (fun e => by have := h.lo _ e; omega), h.s.y.turned ht (fun e => by have := h.lo _ e; omega), hf.below hb, hts.below hb⟩, by simpa using hg, fun k hk => ?_⟩
  rcases hn k hk with e | e
  · exact h.lo k e
  · omega
theorem RAlerts_any (fr se mo : Int) (r : Ru) (hr : ∀ j, j < 5 → S16 (r (5 + j))) {tv pv v : Value} {ps : List T.Pr} {ts : List T.Tc} {w : World} (h : Fa w tv pv ps) (ht : TsIn w v ts) (hl : ts.length ≤ 900000) :
    Calls Tryz.prog 33 #[.agg (ruC r), .agg (rfc fr se mo tv pv), v] w fun e w' => ∃ av, e = .returned av ∧ PrIn w' av (als r ps ts) ∧ Below w.heap.size w w' := by
  have HS0 := Lib.hid (RsS.start (fr := fr) (se := se) (mo := mo) (r := r) h ht)
  have HR := Lib.hid hr
  have HF := Lib.hid h
  have HT := Lib.hid ht
  obtain ⟨q, hq⟩ : ∃ q, Hid (q = als r ps ts) := ⟨_, rfl⟩
  rw [← hq.out]
  obtain ⟨oa, ca, rfl, _, hla⟩ := ht.shape
  unfold maxLen at hla
  clear h ht hr
  go_enter Tryz.func33, Tryz.ntmps33
  go_wp2
  go_loopw [7, 8] (fun a i wr => ∃ (k : Nat) (av : Value), k ≤ ts.length ∧ av = a ∧ i = .int .i64 (k : Int) ∧ Hid (RaS w r (rfc fr se mo tv pv) tv pv ps (.slice oa ts.length ca) ts av (als r ps (ts.take k)) wr)) (fun _ i _ => ts.length + 1 - natI i)
  case atStart => exact ⟨0, _, by omega, rfl, rfl, by rw [List.take_zero]; exact ⟨HS0.out, Gs.nil _ _ _, fun k hk => by simp [blkOf] at hk⟩⟩
  case round =>
    obtain ⟨k, av, hk, rfl, rfl, HA⟩ := hrel
    clear HS0
    by_cases hlt : k < ts.length
    · have hi : (k : Int) < (ts.length : Int) := by omega
      obtain ⟨g1, o1, c1, t, fv, e1, l1, hpi, hpl, r1⟩ := HT.out.at_ hlt
      simp at e1
      obtain ⟨rfl, rfl⟩ := e1
      obtain ⟨of, cf, rfl, _, _⟩ := hpl.shape
      obtain ⟨z1, z2, z3⟩ := rng3 r1
      have HQ := Lib.hid (fun W (hb : Below w.heap.size w W) => And.intro (cell_below z1 hb) (And.intro (cell_below z2 hb) (cell_below z3 hb)))
      have HPl := Lib.hid (fun W (hb : Below w.heap.size w W) => (show PlsIn W (.slice of t.2.length cf) t.2 from hpl.below hb))
      obtain ⟨q1, q2, q3⟩ := HQ.out wr HA.out.s.b
      have HN := Lib.hid (als_succ r ps l1)
      have htb := HF.out.s.tog (s := 0) (by omega) t.2
      have hln : (als r ps (ts.take k)).length ≤ 900000 := by have := als_len r ps (ts.take k); have := List.length_take_le k ts; omega
      have HC0 := Lib.hid (show cau r ps t = andI (r (5 + snk t.1.1)) (T.tog ps 0 t.2) from rfl)
      generalize htg : T.tog ps 0 t.2 = tg at htb HC0
      have HTg := Lib.hid htg
      have HTb := Lib.hid htb
      obtain ⟨⟨kd, nn⟩, ps2⟩ := t
      simp only at q1 q2 q3 HC0 HTg HQ HPl htg
      clear r1 l1 hpl z1 z2 z3 htg htb
      by_cases k14 : kd = 14
      · subst k14
        have HC := Lib.hid (show cau r ps ((14, nn), ps2) = andI tg (r (5 + 1)) by rw [HC0.out, andI_comm]; rfl)
        have HRj := Lib.hid (HR.out 1 (by omega))
        go_wp2
        refine Free.any (RaS w r (rfc fr se mo tv pv) tv pv ps (.slice (some ⟨g1, o1, none⟩) ts.length ca) ts av (als r ps (ts.take k))) (fun W W' h hb => h.after hb) (HA.out.after (Below.refl _ _).drew) (fun st => ?_)
        refine Free.tk 0 (some 31) (v := .agg (rfc fr se mo tv pv)) ?_ (hy := by intro W hW; exact x_load_RR rvRF rfl rfl hW.s.y)
        refine Free.tk 1 (some 32) ?_
        refine Free.tk 2 (some 33) ?_
        refine Free.tk 3 (some 34) ?_
        refine Free.tk 4 (some 35) ?_
        refine Free.tk 5 (some 36) ?_ (hy := by intro W hW; obtain ⟨y1, y2, y3⟩ := HQ.out W hW.s.b; go_simp; try with_reducible rfl)
        refine Free.cl 6 (some 37) (v := .int .u32 tg) st (fun W hW => by have := Rtog_any fr se mo hW.s.f (HPl.out W hW.s.b); rw [HTg.out] at this; exact this) ?_ (hy := by intro W; go_simp; try rfl)
        refine Free.tk 7 (some 38) ?_
        refine Free.tk 8 (some 39) ?_
        refine Free.tk 9 (some 40) ?_
        refine Free.tk 10 (some 41) (v := .int .u32 (r (5 + 1))) ?_ (hy := by intro W hW; have c := hW.s.at_ (j := 5 + 1) (by omega); go_simp; try with_reducible rfl)
        refine Free.cl 11 (some 42) (v := .int .u32 (andI tg (r (5 + 1)))) st (fun W hW => (RMeet_any tg (r (5 + 1)) HTb.out HRj.out W).mono fun e w' ⟨h1, h2⟩ => ⟨h1, h2 ▸ Below.refl _ _⟩) ?_ (hy := by intro W; go_simp; try rfl)
        refine Free.tk 12 (some 10) ?_
        refine Free.done (fun W hb hW => ?_)
        have HW := Lib.hid hW
        clear hb hW HA st q1 q2 q3
        generalize andI tg (r (5 + 1)) = cc at HC
        rw [HC.out] at HN
        obtain ⟨y1, y2, y3⟩ := HQ.out W HW.out.s.b
        by_cases hcc : cc = 0
        · have HN2 : Hid (als r ps (ts.take (k + 1)) = als r ps (ts.take k)) := by rw [HN.out, if_pos hcc]; rfl
          go_wp2
          exact ⟨⟨k + 1, av, by omega, rfl, by go_num, by rw [HN2.out]; exact HW.out⟩, by simp [natI]; omega⟩
        · have HN2 : Hid (als r ps (ts.take (k + 1)) = als r ps (ts.take k) ++ [((14, nn), cc)]) := by rw [HN.out, if_neg hcc]; rfl
          go_wp2_with (refine wp_append_g rfl _ _ rfl Tryz.underlying78 infoAl rfl (by omega) (by omega) rfl rfl (HW.out.row.below (bel1 W _)) (al_src W 14 nn cc) (by omega) ?_; intro v6 w6 hg6 ht6 hn6)
          have hap := (HW.out.after (bel1 W (.cells #[.int .i64 14, .int .i64 nn, .int .u32 cc] 147))).app HF.out HT.out (x := ((14, nn), cc)) hg6 ht6 hn6
          rw [← HN2.out] at hap
          have HAp := Lib.hid hap
          clear hap hg6 ht6 hn6 y1 y2 y3
          go_wp2
          exact ⟨⟨k + 1, v6, by omega, rfl, by go_num, HAp.out⟩, by simp [natI]; omega⟩
      · by_cases k16 : kd = 16
        · subst k16
          have HC := Lib.hid (show cau r ps ((16, nn), ps2) = andI tg (r (5 + 2)) by rw [HC0.out, andI_comm]; rfl)
          have HRj := Lib.hid (HR.out 2 (by omega))
          go_wp2
          refine Free.any (RaS w r (rfc fr se mo tv pv) tv pv ps (.slice (some ⟨g1, o1, none⟩) ts.length ca) ts av (als r ps (ts.take k))) (fun W W' h hb => h.after hb) (HA.out.after (Below.refl _ _).drew) (fun st => ?_)
          refine Free.tk 0 (some 31) (v := .agg (rfc fr se mo tv pv)) ?_ (hy := by intro W hW; exact x_load_RR rvRF rfl rfl hW.s.y)
          refine Free.tk 1 (some 32) ?_
          refine Free.tk 2 (some 33) ?_
          refine Free.tk 3 (some 34) ?_
          refine Free.tk 4 (some 35) ?_
          refine Free.tk 5 (some 36) ?_ (hy := by intro W hW; obtain ⟨y1, y2, y3⟩ := HQ.out W hW.s.b; go_simp; try with_reducible rfl)
          refine Free.cl 6 (some 37) (v := .int .u32 tg) st (fun W hW => by have := Rtog_any fr se mo hW.s.f (HPl.out W hW.s.b); rw [HTg.out] at this; exact this) ?_ (hy := by intro W; go_simp; try rfl)
          refine Free.tk 7 (some 38) ?_
          refine Free.tk 8 (some 39) ?_
          refine Free.tk 9 (some 40) ?_
          refine Free.tk 10 (some 41) (v := .int .u32 (r (5 + 2))) ?_ (hy := by intro W hW; have c := hW.s.at_ (j := 5 + 2) (by omega); go_simp; try with_reducible rfl)
          refine Free.cl 11 (some 42) (v := .int .u32 (andI tg (r (5 + 2)))) st (fun W hW => (RMeet_any tg (r (5 + 2)) HTb.out HRj.out W).mono fun e w' ⟨h1, h2⟩ => ⟨h1, h2 ▸ Below.refl _ _⟩) ?_ (hy := by intro W; go_simp; try rfl)
          refine Free.tk 12 (some 10) ?_
          refine Free.done (fun W hb hW => ?_)
          have HW := Lib.hid hW
          clear hb hW HA st q1 q2 q3
          generalize andI tg (r (5 + 2)) = cc at HC
          rw [HC.out] at HN
          obtain ⟨y1, y2, y3⟩ := HQ.out W HW.out.s.b
          by_cases hcc : cc = 0
          · have HN2 : Hid (als r ps (ts.take (k + 1)) = als r ps (ts.take k)) := by rw [HN.out, if_pos hcc]; rfl
            go_wp2
            exact ⟨⟨k + 1, av, by omega, rfl, by go_num, by rw [HN2.out]; exact HW.out⟩, by simp [natI]; omega⟩
          · have HN2 : Hid (als r ps (ts.take (k + 1)) = als r ps (ts.take k) ++ [((16, nn), cc)]) := by rw [HN.out, if_neg hcc]; rfl
            go_wp2_with (refine wp_append_g rfl _ _ rfl Tryz.underlying78 infoAl rfl (by omega) (by omega) rfl rfl (HW.out.row.below (bel1 W _)) (al_src W 16 nn cc) (by omega) ?_; intro v6 w6 hg6 ht6 hn6)
            have hap := (HW.out.after (bel1 W (.cells #[.int .i64 16, .int .i64 nn, .int .u32 cc] 147))).app HF.out HT.out (x := ((16, nn), cc)) hg6 ht6 hn6
            rw [← HN2.out] at hap
            have HAp := Lib.hid hap
            clear hap hg6 ht6 hn6 y1 y2 y3
            go_wp2
            exact ⟨⟨k + 1, v6, by omega, rfl, by go_num, HAp.out⟩, by simp [natI]; omega⟩
        · by_cases k12 : kd = 12
          · subst k12
            have HC := Lib.hid (show cau r ps ((12, nn), ps2) = andI tg (r (5 + 3)) by rw [HC0.out, andI_comm]; rfl)
            have HRj := Lib.hid (HR.out 3 (by omega))
            go_wp2
            refine Free.any (RaS w r (rfc fr se mo tv pv) tv pv ps (.slice (some ⟨g1, o1, none⟩) ts.length ca) ts av (als r ps (ts.take k))) (fun W W' h hb => h.after hb) (HA.out.after (Below.refl _ _).drew) (fun st => ?_)
            refine Free.tk 0 (some 31) (v := .agg (rfc fr se mo tv pv)) ?_ (hy := by intro W hW; exact x_load_RR rvRF rfl rfl hW.s.y)
            refine Free.tk 1 (some 32) ?_
            refine Free.tk 2 (some 33) ?_
            refine Free.tk 3 (some 34) ?_
            refine Free.tk 4 (some 35) ?_
            refine Free.tk 5 (some 36) ?_ (hy := by intro W hW; obtain ⟨y1, y2, y3⟩ := HQ.out W hW.s.b; go_simp; try with_reducible rfl)
            refine Free.cl 6 (some 37) (v := .int .u32 tg) st (fun W hW => by have := Rtog_any fr se mo hW.s.f (HPl.out W hW.s.b); rw [HTg.out] at this; exact this) ?_ (hy := by intro W; go_simp; try rfl)
            refine Free.tk 7 (some 38) ?_
            refine Free.tk 8 (some 39) ?_
            refine Free.tk 9 (some 40) ?_
            refine Free.tk 10 (some 41) (v := .int .u32 (r (5 + 3))) ?_ (hy := by intro W hW; have c := hW.s.at_ (j := 5 + 3) (by omega); go_simp; try with_reducible rfl)
            refine Free.cl 11 (some 42) (v := .int .u32 (andI tg (r (5 + 3)))) st (fun W hW => (RMeet_any tg (r (5 + 3)) HTb.out HRj.out W).mono fun e w' ⟨h1, h2⟩ => ⟨h1, h2 ▸ Below.refl _ _⟩) ?_ (hy := by intro W; go_simp; try rfl)
            refine Free.tk 12 (some 10) ?_
            refine Free.done (fun W hb hW => ?_)
            have HW := Lib.hid hW
            clear hb hW HA st q1 q2 q3
            generalize andI tg (r (5 + 3)) = cc at HC
            rw [HC.out] at HN
            obtain ⟨y1, y2, y3⟩ := HQ.out W HW.out.s.b
            by_cases hcc : cc = 0
            · have HN2 : Hid (als r ps (ts.take (k + 1)) = als r ps (ts.take k)) := by rw [HN.out, if_pos hcc]; rfl
              go_wp2
              exact ⟨⟨k + 1, av, by omega, rfl, by go_num, by rw [HN2.out]; exact HW.out⟩, by simp [natI]; omega⟩
            · have HN2 : Hid (als r ps (ts.take (k + 1)) = als r ps (ts.take k) ++ [((12, nn), cc)]) := by rw [HN.out, if_neg hcc]; rfl
              go_wp2_with (refine wp_append_g rfl _ _ rfl Tryz.underlying78 infoAl rfl (by omega) (by omega) rfl rfl (HW.out.row.below (bel1 W _)) (al_src W 12 nn cc) (by omega) ?_; intro v6 w6 hg6 ht6 hn6)
              have hap := (HW.out.after (bel1 W (.cells #[.int .i64 12, .int .i64 nn, .int .u32 cc] 147))).app HF.out HT.out (x := ((12, nn), cc)) hg6 ht6 hn6
              rw [← HN2.out] at hap
              have HAp := Lib.hid hap
              clear hap hg6 ht6 hn6 y1 y2 y3
              go_wp2
              exact ⟨⟨k + 1, v6, by omega, rfl, by go_num, HAp.out⟩, by simp [natI]; omega⟩
          · by_cases k2 : kd = 2
            · subst k2
              have HC := Lib.hid (show cau r ps ((2, nn), ps2) = andI tg (r (5 + 4)) by rw [HC0.out, andI_comm]; rfl)
              have HRj := Lib.hid (HR.out 4 (by omega))
              go_wp2
              refine Free.any (RaS w r (rfc fr se mo tv pv) tv pv ps (.slice (some ⟨g1, o1, none⟩) ts.length ca) ts av (als r ps (ts.take k))) (fun W W' h hb => h.after hb) (HA.out.after (Below.refl _ _).drew) (fun st => ?_)
              refine Free.tk 0 (some 31) (v := .agg (rfc fr se mo tv pv)) ?_ (hy := by intro W hW; exact x_load_RR rvRF rfl rfl hW.s.y)
              refine Free.tk 1 (some 32) ?_
              refine Free.tk 2 (some 33) ?_
              refine Free.tk 3 (some 34) ?_
              refine Free.tk 4 (some 35) ?_
              refine Free.tk 5 (some 36) ?_ (hy := by intro W hW; obtain ⟨y1, y2, y3⟩ := HQ.out W hW.s.b; go_simp; try with_reducible rfl)
              refine Free.cl 6 (some 37) (v := .int .u32 tg) st (fun W hW => by have := Rtog_any fr se mo hW.s.f (HPl.out W hW.s.b); rw [HTg.out] at this; exact this) ?_ (hy := by intro W; go_simp; try rfl)
              refine Free.tk 7 (some 38) ?_
              refine Free.tk 8 (some 39) ?_
              refine Free.tk 9 (some 40) ?_
              refine Free.tk 10 (some 41) (v := .int .u32 (r (5 + 4))) ?_ (hy := by intro W hW; have c := hW.s.at_ (j := 5 + 4) (by omega); go_simp; try with_reducible rfl)
              refine Free.cl 11 (some 42) (v := .int .u32 (andI tg (r (5 + 4)))) st (fun W hW => (RMeet_any tg (r (5 + 4)) HTb.out HRj.out W).mono fun e w' ⟨h1, h2⟩ => ⟨h1, h2 ▸ Below.refl _ _⟩) ?_ (hy := by intro W; go_simp; try rfl)
              refine Free.tk 12 (some 10) ?_
              refine Free.done (fun W hb hW => ?_)
              have HW := Lib.hid hW
              clear hb hW HA st q1 q2 q3
              generalize andI tg (r (5 + 4)) = cc at HC
              rw [HC.out] at HN
              obtain ⟨y1, y2, y3⟩ := HQ.out W HW.out.s.b
              by_cases hcc : cc = 0
              · have HN2 : Hid (als r ps (ts.take (k + 1)) = als r ps (ts.take k)) := by rw [HN.out, if_pos hcc]; rfl
                go_wp2
                exact ⟨⟨k + 1, av, by omega, rfl, by go_num, by rw [HN2.out]; exact HW.out⟩, by simp [natI]; omega⟩
              · have HN2 : Hid (als r ps (ts.take (k + 1)) = als r ps (ts.take k) ++ [((2, nn), cc)]) := by rw [HN.out, if_neg hcc]; rfl
                go_wp2_with (refine wp_append_g rfl _ _ rfl Tryz.underlying78 infoAl rfl (by omega) (by omega) rfl rfl (HW.out.row.below (bel1 W _)) (al_src W 2 nn cc) (by omega) ?_; intro v6 w6 hg6 ht6 hn6)
                have hap := (HW.out.after (bel1 W (.cells #[.int .i64 2, .int .i64 nn, .int .u32 cc] 147))).app HF.out HT.out (x := ((2, nn), cc)) hg6 ht6 hn6
                rw [← HN2.out] at hap
                have HAp := Lib.hid hap
                clear hap hg6 ht6 hn6 y1 y2 y3
                go_wp2
                exact ⟨⟨k + 1, v6, by omega, rfl, by go_num, HAp.out⟩, by simp [natI]; omega⟩
            · have hsn : snk kd = 0 := by unfold snk; rw [if_neg k14, if_neg k16, if_neg k12, if_neg k2]
              have HC := Lib.hid (show cau r ps ((kd, nn), ps2) = andI tg (r (5 + 0)) by rw [HC0.out, hsn, andI_comm])
              have HRj := Lib.hid (HR.out 0 (by omega))
              go_wp2
              refine Free.any (RaS w r (rfc fr se mo tv pv) tv pv ps (.slice (some ⟨g1, o1, none⟩) ts.length ca) ts av (als r ps (ts.take k))) (fun W W' h hb => h.after hb) (HA.out.after (Below.refl _ _).drew) (fun st => ?_)
              refine Free.tk 0 (some 31) (v := .agg (rfc fr se mo tv pv)) ?_ (hy := by intro W hW; exact x_load_RR rvRF rfl rfl hW.s.y)
              refine Free.tk 1 (some 32) ?_
              refine Free.tk 2 (some 33) ?_
              refine Free.tk 3 (some 34) ?_
              refine Free.tk 4 (some 35) ?_
              refine Free.tk 5 (some 36) ?_ (hy := by intro W hW; obtain ⟨y1, y2, y3⟩ := HQ.out W hW.s.b; go_simp; try with_reducible rfl)
              refine Free.cl 6 (some 37) (v := .int .u32 tg) st (fun W hW => by have := Rtog_any fr se mo hW.s.f (HPl.out W hW.s.b); rw [HTg.out] at this; exact this) ?_ (hy := by intro W; go_simp; try rfl)
              refine Free.tk 7 (some 38) ?_
              refine Free.tk 8 (some 39) ?_
              refine Free.tk 9 (some 40) ?_
              refine Free.tk 10 (some 41) (v := .int .u32 (r (5 + 0))) ?_ (hy := by intro W hW; have c := hW.s.at_ (j := 5 + 0) (by omega); go_simp; try with_reducible rfl)
              refine Free.cl 11 (some 42) (v := .int .u32 (andI tg (r (5 + 0)))) st (fun W hW => (RMeet_any tg (r (5 + 0)) HTb.out HRj.out W).mono fun e w' ⟨h1, h2⟩ => ⟨h1, h2 ▸ Below.refl _ _⟩) ?_ (hy := by intro W; go_simp; try rfl)
              refine Free.tk 12 (some 10) ?_
              refine Free.done (fun W hb hW => ?_)
              have HW := Lib.hid hW
              clear hb hW HA st q1 q2 q3
              generalize andI tg (r (5 + 0)) = cc at HC
              rw [HC.out] at HN
              obtain ⟨y1, y2, y3⟩ := HQ.out W HW.out.s.b
              by_cases hcc : cc = 0
              · have HN2 : Hid (als r ps (ts.take (k + 1)) = als r ps (ts.take k)) := by rw [HN.out, if_pos hcc]; rfl
                go_wp2
                exact ⟨⟨k + 1, av, by omega, rfl, by go_num, by rw [HN2.out]; exact HW.out⟩, by simp [natI]; omega⟩
              · have HN2 : Hid (als r ps (ts.take (k + 1)) = als r ps (ts.take k) ++ [((kd, nn), cc)]) := by rw [HN.out, if_neg hcc]; rfl
                go_wp2_with (refine wp_append_g rfl _ _ rfl Tryz.underlying78 infoAl rfl (by omega) (by omega) rfl rfl (HW.out.row.below (bel1 W _)) (al_src W kd nn cc) (by omega) ?_; intro v6 w6 hg6 ht6 hn6)
                have hap := (HW.out.after (bel1 W (.cells #[.int .i64 kd, .int .i64 nn, .int .u32 cc] 147))).app HF.out HT.out (x := ((kd, nn), cc)) hg6 ht6 hn6
                rw [← HN2.out] at hap
                have HAp := Lib.hid hap
                clear hap hg6 ht6 hn6 y1 y2 y3
                go_wp2
                exact ⟨⟨k + 1, v6, by omega, rfl, by go_num, HAp.out⟩, by simp [natI]; omega⟩
    · obtain rfl : k = ts.length := by omega
      have hq2 : q = als r ps (ts.take ts.length) := by rw [hq.out, List.take_length]
      go_wp2
      go_ret
      refine ⟨_, rfl, ?_, HA.out.s.b⟩
      rw [hq2]
      exact HA.out.row.rd
end Go.Proofs.YtdpdoclhdjhjkaaGreat

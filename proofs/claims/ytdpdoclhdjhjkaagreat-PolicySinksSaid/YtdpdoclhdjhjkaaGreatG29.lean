/-
  Layer 13: plain numbers and lists: what two sets have both; which alerts there are. No program. Layer 13: policies: what lies where; the small functions: walks.
-/
import Derived.Test.YtdpdoclhdjhjkaaGreatG03
import Derived.Test.YtdpdoclhdjhjkaaGreatG00
import Derived.Test.YtdpdoclhdjhjkaaGreatG10
import Derived.Laws.MakeOwn
set_option linter.unusedVariables false
set_option linter.unusedSimpArgs false
namespace Go.Proofs.YtdpdoclhdjhjkaaGreat
open Go.RowKit

/-- What both have. -/
def andI (a b : Int) : Int := ((a.toNat &&& b.toNat : Nat) : Int)
theorem andI_bits (a b : Int) (ha : W32 a) (hb : W32 b) : bits .and .u32 a b = andI a b := u32_and a b ha.1 ha.2 hb.1 hb.2
theorem andI_comm (a b : Int) : andI a b = andI b a := by unfold andI; rw [Nat.and_comm]
theorem andI_s16 {a b : Int} (ha : S16 a) : S16 (andI a b) := by
  unfold S16 at *; unfold andI
  have h : a.toNat &&& b.toNat ≤ a.toNat := Nat.and_le_left
  omega
theorem andI_zero (b : Int) : andI 0 b = 0 := by unfold andI; simp
theorem bitI_and (a b : Int) (n : Nat) : L2.bitI (andI a b) n = (L2.bitI a n && L2.bitI b n) := by
  unfold L2.bitI andI; rw [Int.toNat_natCast, Nat.testBit_and]
/-- The first k bits of what both have. -/
def andS (a b : Int) (k : Nat) : Int := (((andI a b).toNat % 2 ^ k : Nat) : Int)
theorem andS_zero (a b : Int) : andS a b 0 = 0 := by unfold andS; simp [Nat.mod_one]
theorem andS_succ (a b : Int) (k : Nat) : andS a b (k + 1) = andS a b k + (if (L2.bitI a k && L2.bitI b k) = true then 2 ^ k else 0) := by
  rw [← bitI_and]
  unfold andS L2.bitI
  rw [L2.mod_succ, Nat.testBit_eq_decide_div_mod_eq]
  by_cases h : (andI a b).toNat / 2 ^ k % 2 = 1
  · simp [h]
  · have h0 : (andI a b).toNat / 2 ^ k % 2 = 0 := by omega
    simp [h0]
theorem andS_yes (a b : Int) (k : Nat) (h : (L2.bitI a k && L2.bitI b k) = true) : andS a b (k + 1) = andS a b k + 2 ^ k := by rw [andS_succ, if_pos h]
theorem andS_no (a b : Int) (k : Nat) (h : (L2.bitI a k && L2.bitI b k) = false) : andS a b (k + 1) = andS a b k := by rw [andS_succ, if_neg (by simp [h])]; omega
theorem andS_end {a b : Int} (ha : S16 a) : andS a b 16 = andI a b := by
  have h := andI_s16 (b := b) ha
  unfold S16 at h
  unfold andS
  rw [Nat.mod_eq_of_lt (by omega)]
  omega
theorem andS_le (a b : Int) (k : Nat) (hk : k ≤ 16) : 0 ≤ andS a b k ∧ andS a b k < 65536 := by
  unfold andS
  have h1 := Nat.mod_lt (andI a b).toNat (Nat.two_pow_pos k)
  have h2 : 2 ^ k ≤ 2 ^ 16 := Nat.pow_le_pow_right (by decide) hk
  have h3 : (2 : Nat) ^ 16 = 65536 := rfl
  omega
/-- More labels in one of the two: no less in both. -/
theorem andI_more (d a b : Int) (h : andI d a ≠ 0) : andI d (L2.orI a b) ≠ 0 := by
  unfold andI at *
  unfold L2.orI
  rw [Int.toNat_natCast, Nat.and_or_distrib_left]
  intro e
  have h1 : d.toNat &&& a.toNat ≤ (d.toNat &&& a.toNat) ||| (d.toNat &&& b.toNat) := Nat.left_le_or
  omega
theorem andI_none (d : Int) : andI d 0 = 0 := by rw [andI_comm, andI_zero]

/-- The sink that a kind of places is of. -/
def snk (k : Int) : Nat := if k = 14 then 1 else if k = 16 then 2 else if k = 12 then 3 else if k = 2 then 4 else 0
theorem snk_lt (k : Int) : snk k < 5 := by unfold snk; (repeat' split) <;> omega
/-- What a touch is caught with. -/
def cau (r : Nat → Int) (ps : List T.Pr) (t : T.Tc) : Int := andI (r (5 + snk t.1.1)) (T.tog ps 0 t.2)
/-- The alerts of touches. -/
def als (r : Nat → Int) (ps : List T.Pr) : List T.Tc → List T.Pr
  | [] => []
  | t :: l => if cau r ps t = 0 then als r ps l else (t.1, cau r ps t) :: als r ps l
theorem als_app (r : Nat → Int) (ps : List T.Pr) (l : List T.Tc) (t : T.Tc) : als r ps (l ++ [t]) = if cau r ps t = 0 then als r ps l else als r ps l ++ [(t.1, cau r ps t)] := by
  induction l with
  | nil => rw [List.nil_append, als]; split <;> simp_all [als]
  | cons q l ih =>
    rw [List.cons_append, als, als, ih]
    split <;> split <;> simp
theorem als_succ (r : Nat → Int) (ps : List T.Pr) {l : List T.Tc} {k : Nat} {t : T.Tc} (h : l[k]? = some t) : als r ps (l.take (k + 1)) = if cau r ps t = 0 then als r ps (l.take k) else als r ps (l.take k) ++ [(t.1, cau r ps t)] := by
  obtain ⟨h1, rfl⟩ := List.getElem?_eq_some_iff.1 h
  rw [List.take_succ_eq_append_getElem h1, als_app]
theorem als_len (r : Nat → Int) (ps : List T.Pr) : ∀ l : List T.Tc, (als r ps l).length ≤ l.length
  | [] => Nat.le_refl _
  | t :: l => by
    have := als_len r ps l
    rw [als]
    split <;> simp <;> omega
/-- What one touch alone decides. -/
theorem dec_one (ps : List T.Pr) (hs : T.Small ps) (l : List T.Pl) : T.dec ps 0 [(T.none0, l)] = T.tog ps 0 l := by
  have h := hs.tog (s := 0) (by omega) l
  rw [T.dec, T.dec, if_pos rfl]
  show L2.orI 0 (T.tog ps 0 l) = _
  unfold L2.orI
  simp; omega
end Go.Proofs.YtdpdoclhdjhjkaaGreat
namespace Go.Proofs.YtdpdoclhdjhjkaaGreat
open Go.RowKit
set_option maxHeartbeats 4000000
set_option maxRecDepth 100000
set_option linter.unusedVariables false
set_option linter.unusedSimpArgs false

/-- Rules: the sources at 0 to 4, the sinks at 5 to 9, the strict set at 10. -/
abbrev Ru := Nat → Int
def ruC (r : Ru) : Array Value := #[.int .u32 (r 0), .int .u32 (r 1), .int .u32 (r 2), .int .u32 (r 3), .int .u32 (r 4), .int .u32 (r 5), .int .u32 (r 6), .int .u32 (r 7), .int .u32 (r 8), .int .u32 (r 9), .int .u32 (r 10)]
def poC (b : Bool) (r : Ru) : Array Value := #[.bool b, .int .u32 (r 0), .int .u32 (r 1), .int .u32 (r 2), .int .u32 (r 3), .int .u32 (r 4), .int .u32 (r 5), .int .u32 (r 6), .int .u32 (r 7), .int .u32 (r 8), .int .u32 (r 9), .int .u32 (r 10)]
def RuW (r : Ru) : Prop := ∀ i, i < 11 → W32 (r i)
def ru0 : Ru := fun _ => 0
theorem ruC_ok (r : Ru) : Ok1 11 (ruC r) := ⟨rfl, by simp [ruC]; exact ⟨rfl, rfl, rfl, rfl, rfl, rfl, rfl, rfl, rfl, rfl, rfl⟩⟩
theorem poC_ok (b : Bool) (r : Ru) : Ok1 12 (poC b r) := ⟨rfl, by simp [poC]; exact ⟨rfl, rfl, rfl, rfl, rfl, rfl, rfl, rfl, rfl, rfl, rfl, rfl⟩⟩
/-- A policy at block S. -/
def Po (w : World) (S : Nat) (r : Ru) : Prop := Blk w S (poC true r) 142
theorem Po.blk {w : World} {S : Nat} {r : Ru} (h : Po w S r) : Blk w S (poC true r) 142 := h
theorem Po.lt {w : World} {S : Nat} {r : Ru} (h : Po w S r) : S < w.heap.size := h.blk.lt
theorem Po.below {w w' : World} {S : Nat} {r : Ru} (h : Po w S r) (hb : Below w.heap.size w w') : Po w' S r := h.blk.below hb
theorem Po.turned {w w' : World} {S : Nat} {r : Ru} (h : Po w S r) {F : Nat → Prop} (ht : Turned F w w') (hn : ¬ F S) : Po w' S r := h.blk.turned ht hn
theorem Po.drew {w : World} {S : Nat} {r : Ru} (h : Po w S r) : Po w.drew S r := h
/-- No policy: nil, or one that was not made. -/
def NoPo (p : Option Addr) (w : World) : Prop := p = none ∨ ∃ S, p = some ⟨S, 0, none⟩ ∧ Blk w S (poC false ru0) 142
theorem NoPo.below {p : Option Addr} {w w' : World} (h : NoPo p w) (hb : Below w.heap.size w w') : NoPo p w' := by
  rcases h with h | ⟨S, h, hS⟩
  · exact .inl h
  · exact .inr ⟨S, h, hS.below hb⟩
theorem pnone_no {p : Option Addr} {w : World} (h : NoPo p w) : Calls Tryz.prog 71 #[.pointer p] w fun e w' => e = .returned (.bool true) ∧ w = w' := by
  rcases h with rfl | ⟨S, rfl, hS⟩
  · go_enter Tryz.func71, Tryz.ntmps71
    go_wp2
    go_ret
    exact ⟨rfl, rfl⟩
  · have c0 : w.cell? ⟨S, 0, none⟩ = some (.bool false) := hS.cell 0
    clear hS
    go_enter Tryz.func71, Tryz.ntmps71
    go_wp2
    go_ret
    exact ⟨rfl, rfl⟩
theorem pnone_po {S : Nat} {r : Ru} {w : World} (h : Po w S r) : Calls Tryz.prog 71 #[.pointer (some ⟨S, 0, none⟩)] w fun e w' => e = .returned (.bool false) ∧ w = w' := by
  have c0 : w.cell? ⟨S, 0, none⟩ = some (.bool true) := h.blk.cell 0
  clear h
  go_enter Tryz.func71, Tryz.ntmps71
  go_wp2
  go_ret
  exact ⟨rfl, rfl⟩
theorem are1_any (x : Int) (hx : W32 x) (w : World) : Calls Tryz.prog 92 #[.int .u32 x] w fun e w' => e = .returned (.bool (!decide (x < 65536))) ∧ w = w' := by
  obtain ⟨h0, h1⟩ := hx
  go_enter Tryz.func92, Tryz.ntmps92
  go_wp2
  go_ret
  refine ⟨?_, rfl⟩
  simp
  rw [Bool.eq_iff_iff]; simp; omega
/-- A slice of sets that is read. -/
abbrev Us (w : World) (v : Value) (l : List Int) : Prop := Rd 1 w v l.length (l.map (Value.int .u32))
theorem Us.at_ {w : World} {v : Value} {l : List Int} (h : Us w v l) {k : Nat} (hk : k < l.length) : ∃ g o c x, v = .slice (some ⟨g, o, none⟩) l.length c ∧ l[k]? = some x ∧ w.cell? ⟨g, o + k, none⟩ = some (.int .u32 x) := by
  obtain ⟨g, o, c, e, hc, hr⟩ := h.elem hk
  have hl : l[k]? = some l[k] := List.getElem?_eq_getElem hk
  refine ⟨g, o, c, l[k], e, hl, ?_⟩
  have := hr 0 (.int .u32 l[k]) (by rw [List.getElem?_take_of_lt (by omega), List.getElem?_drop]; simp [hl])
  simpa using this
theorem take_all2 {f : Int → Bool} {l : List Int} {k : Nat} {x : Int} (h : l[k]? = some x) : (l.take (k + 1)).all f = ((l.take k).all f && f x) := by
  obtain ⟨h1, rfl⟩ := List.getElem?_eq_some_iff.1 h
  rw [List.take_succ_eq_append_getElem h1, List.all_append]; simp
theorem take_all1 {f : Int → Bool} {l : List Int} {k : Nat} {x : Int} (h : l[k]? = some x) (h0 : (l.take k).all f = true) (h1 : f x = true) : (l.take (k + 1)).all f = true := by
  rw [take_all2 h, h0, h1]; rfl
theorem pindex_any {v : Value} {l : List Int} {w : World} (h : Us w v l) (hl : ∀ x ∈ l, W32 x) :
    Calls Tryz.prog 103 #[v, .func (.func 92) #[] #[]] w fun e w' => (∃ i, e = .returned (.int .i64 i) ∧ (decide (0 ≤ i) = !l.all (fun x => decide (x < 65536)))) ∧ w = w' := by
  obtain ⟨q, hq⟩ : ∃ q, Hid (q = l.all (fun x => decide (x < 65536))) := ⟨_, rfl⟩
  rw [← hq.out]
  have HA := Lib.hid h
  have HL := Lib.hid hl
  obtain ⟨oa, ca, rfl, _, hla⟩ := Rd.shape h
  unfold maxLen at hla
  clear h hl
  go_enter Tryz.func103, Tryz.ntmps103
  go_wp2
  go_loopw [8] (fun i wr => ∃ k : Nat, k ≤ l.length ∧ i = .int .i64 (k : Int) ∧ wr = w ∧ Hid ((l.take k).all (fun x => decide (x < 65536)) = true)) (fun i _ => l.length + 1 - natI i)
  case atStart => exact ⟨0, by omega, rfl, rfl, Lib.hid (by rw [List.take_zero]; rfl)⟩
  case round =>
    obtain ⟨k, hk, rfl, rfl, HN⟩ := hrel
    by_cases hlt : k < l.length
    · have hi : (k : Int) < (l.length : Int) := by omega
      obtain ⟨g1, o1, c1, x, e1, l1, r1⟩ := HA.out.at_ hlt
      simp at e1
      obtain ⟨rfl, rfl⟩ := e1
      have HG := Lib.hid (are1_any x (HL.out x (List.mem_of_getElem? l1)) wr)
      have HL1 := Lib.hid l1
      clear l1
      by_cases hx : x < 65536
      · have HT := Lib.hid (take_all1 (f := fun x => decide (x < 65536)) HL1.out HN.out (decide_eq_true hx))
        rw [decide_eq_true hx] at HG
        clear hx
        go_wp2_with (go_at_call 92; refine HG.out.mono ?_; rintro e w2 ⟨rfl, rfl⟩)
        exact ⟨⟨k + 1, by omega, by go_num, trivial, HT⟩, by simp [natI]; omega⟩
      · have hq2 : q = false := by rw [hq.out]; exact all_miss (f := fun x => decide (x < 65536)) HL1.out (decide_eq_false hx)
        subst hq2
        rw [decide_eq_false hx] at HG
        clear hx
        go_wp2_with (go_at_call 92; refine HG.out.mono ?_; rintro e w2 ⟨rfl, rfl⟩)
        go_ret
        exact ⟨⟨_, rfl, by simp⟩, rfl⟩
    · obtain rfl : k = l.length := by omega
      have hn := HN.out
      rw [List.take_length] at hn
      have hq2 : q = true := by rw [hq.out, hn]
      subst hq2
      go_wp2
      go_ret
      exact ⟨⟨_, rfl, rfl⟩, rfl⟩
theorem pcontains_any {v : Value} {l : List Int} {w : World} (h : Us w v l) (hl : ∀ x ∈ l, W32 x) :
    Calls Tryz.prog 91 #[v, .func (.func 92) #[] #[]] w fun e w' => e = .returned (.bool (!l.all (fun x => decide (x < 65536)))) ∧ w = w' := by
  have HI := Lib.hid (pindex_any h hl)
  obtain ⟨oa, ca, rfl, _, hla⟩ := Rd.shape h
  clear h hl
  go_enter Tryz.func91, Tryz.ntmps91
  go_wp2_with (go_at_call 103; refine HI.out.mono ?_; rintro e w2 ⟨⟨i, rfl, hi⟩, rfl⟩)
  go_ret
  exact ⟨by rw [← hi]; rfl, rfl⟩
theorem are_any {v : Value} {l : List Int} {w : World} (h : Us w v l) (hl : ∀ x ∈ l, W32 x) :
    Calls Tryz.prog 64 #[v] w fun e w' => e = .returned (.bool (l.all (fun x => decide (x < 65536)))) ∧ w = w' := by
  have HI := Lib.hid (pcontains_any h hl)
  obtain ⟨oa, ca, rfl, _, hla⟩ := Rd.shape h
  clear h hl
  go_enter Tryz.func64, Tryz.ntmps64
  go_wp2_with (go_at_call 91; refine HI.out.mono ?_; rintro e w2 ⟨rfl, rfl⟩)
  go_ret
  exact ⟨by simp, rfl⟩
theorem us_one (w : World) (x : Int) : Us (w.alloc (.cells #[.int .u32 x] 31)) (.slice (some ⟨w.heap.size, 0, none⟩) 1 1) [x] := by
  refine ⟨rfl, _, _, rfl, Nat.le_refl _, by simp [maxLen], fun _ => ⟨w.heap.size, 0, rfl, fun j u hj => ?_⟩⟩
  rw [(blk_new w _ _).cell, Nat.zero_add]
  simpa using hj
def refE (b : Bool) (x : Int) : Int := if b = true ∧ x < 65536 then 0 else 2
theorem refE_ok {x : Int} (h : x < 65536) : refE true x = 0 := if_pos ⟨rfl, h⟩
theorem refE_no {x : Int} (h : ¬ x < 65536) (b : Bool) : refE b x = 2 := if_neg (fun k => h k.2)
theorem refE_kind (x : Int) : refE false x = 2 := if_neg (fun k => by cases k.1)
/-- A call is refused: none, a kind that is none, a set that may not be. -/
theorem refuses_no {p : Option Addr} {w : World} (h : NoPo p w) (b : Bool) (x : Int) : Calls Tryz.prog 90 #[.pointer p, .bool b, .int .u32 x] w fun e w' => e = .returned (.int .i64 1) ∧ w = w' := by
  have HN := Lib.hid (pnone_no h)
  clear h
  go_enter Tryz.func90, Tryz.ntmps90
  go_wp2_with (go_at_call 71; refine HN.out.mono ?_; rintro e w2 ⟨rfl, rfl⟩)
  go_ret
  exact ⟨rfl, rfl⟩
theorem refuses_po {S : Nat} {r : Ru} {w : World} (h : Po w S r) (b : Bool) (x : Int) (hx : W32 x) : Calls Tryz.prog 90 #[.pointer (some ⟨S, 0, none⟩), .bool b, .int .u32 x] w fun e w' => e = .returned (.int .i64 (refE b x)) ∧ Below w.heap.size w w' := by
  have HN := Lib.hid (pnone_po h)
  have HA := Lib.hid (are_any (us_one w x) (by simpa using hx))
  have HB := Lib.hid (bel1 w (.cells #[.int .u32 x] 31))
  clear h
  cases b with
  | false =>
    go_enter Tryz.func90, Tryz.ntmps90
    go_wp2_with (go_at_call 71; refine HN.out.mono ?_; rintro e w2 ⟨rfl, rfl⟩)
    go_ret
    exact ⟨by rw [refE_kind]; rfl, Below.refl _ _⟩
  | true =>
    by_cases hx2 : x < 65536
    · have e1 : [x].all (fun x => decide (x < 65536)) = true := by simpa using hx2
      rw [e1] at HA
      have HX := Lib.hid hx2
      clear hx2 e1
      go_enter Tryz.func90, Tryz.ntmps90
      go_wp2_with (first | (go_at_call 71; refine HN.out.mono ?_; rintro e w2 ⟨rfl, rfl⟩) | (go_at_call 64; refine HA.out.mono ?_; rintro e w2 ⟨rfl, rfl⟩))
      go_ret
      exact ⟨by rw [refE_ok HX.out]; rfl, HB.out⟩
    · have e1 : [x].all (fun x => decide (x < 65536)) = false := by simpa using hx2
      rw [e1] at HA
      have HX := Lib.hid hx2
      clear hx2 e1
      go_enter Tryz.func90, Tryz.ntmps90
      go_wp2_with (first | (go_at_call 71; refine HN.out.mono ?_; rintro e w2 ⟨rfl, rfl⟩) | (go_at_call 64; refine HA.out.mono ?_; rintro e w2 ⟨rfl, rfl⟩))
      go_ret
      exact ⟨by rw [refE_no (by have := HX.out; omega)]; rfl, HB.out⟩
end Go.Proofs.YtdpdoclhdjhjkaaGreat

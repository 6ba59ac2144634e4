/-
  Layer 14: what is asked of the world: the names of package query and the library's powers of ten hold what their initialisers lay. Layer 14: a place's text: walk.
-/
import Derived.Test.YtiohlmccnllklaaGreatDoorRows
import Derived.Test.YtiohlmccnllklaaGreatDoorH29
import Derived.WalkKit
import Derived.WalkSmall
import Derived.ProofKit
import Derived.OpenShut
import Derived.LaidMore
import Derived.Stop.Joined
import Derived.Lib.LaidTab
import Derived.Lib.ItoaNum
import Derived.Stop.LaidErr
import Derived.Test.YtiohlmccnllklaaGreatDoorH39
import Derived.WalkSpells
import Derived.WalkLawsBesides
import Derived.Lib.Hide
import Derived.Deep.RegionWith
set_option linter.unusedVariables false
set_option linter.unusedSimpArgs false
set_option linter.unusedVariables false
set_option linter.unusedSimpArgs false
namespace Go.Proofs.YtiohlmccnllklaaGreatDoor.Q
open Go.RowKit

/-- A name's bytes. -/
def nmQ : Nat → List UInt8
  | 0 => [110, 111, 110, 101]
  | 1 => [114, 101, 103]
  | 2 => [112, 99]
  | 3 => [101, 112, 99]
  | 4 => [99, 97, 117, 115, 101]
  | 5 => [118, 101, 99]
  | 6 => [116, 97, 98, 108, 101]
  | 7 => [109, 111, 100, 101]
  | 8 => [109, 97, 115, 107]
  | 9 => [97, 108, 97, 114, 109]
  | 10 => [109, 101, 109]
  | 11 => [116, 108, 98]
  | 12 => [115, 101, 99, 116, 111, 114]
  | 13 => [105, 110]
  | 14 => [111, 117, 116]
  | 15 => [112, 97, 99, 107, 101, 116]
  | 16 => [115, 101, 110, 116]
  | _ => [97, 115, 107]
/-- Has a kind several places? -/
def svQ (k : Nat) : Bool := k == 1 || decide (10 ≤ k)
def bytesQ (l : List UInt8) : ByteArray := ⟨l.toArray⟩
def namesCells : Array Value := ((List.range 18).flatMap fun k => [Value.string (bytesQ (nmQ k)), Value.bool (svQ k)]).toArray

/-- The two tables. -/
structure Env (w : World) : Prop where
  names : w.var? Tryz.prog "pomander/query.names" = some namesCells
  pow : Lib.TabIs Tryz.prog w "internal/strconv.uint64pow10" .u64 Lib.pow10Tab

theorem gNames : Tryz.prog.globalNamed "pomander/query.names" = some 0 := by kernel_rfl
theorem gPow : Tryz.prog.globalNamed "internal/strconv.uint64pow10" = some 1 := by kernel_rfl
theorem var_lt {w : World} {n : String} {g : Nat} {cs : Array Value} (hg : Tryz.prog.globalNamed n = some g) (h : w.var? Tryz.prog n = some cs) : g < w.heap.size := by
  simp only [World.var?, hg, Option.bind_some] at h
  split at h
  · rename_i hh; exact (Array.getElem?_eq_some_iff.1 hh).1
  · cases h
theorem Env.below {w w' : World} (h : Env w) (hb : Below w.heap.size w w') : Env w' :=
  ⟨var?_below hb gNames (var_lt gNames h.names) h.names, var?_below hb gPow (var_lt gPow h.pow) h.pow⟩
theorem namesAt_fin : ∀ k : Fin 18, namesCells[2 * k.val]? = some (.string (bytesQ (nmQ k.val))) ∧ namesCells[2 * k.val + 1]? = some (.bool (svQ k.val)) := by
  intro k
  match k with
  | ⟨k, hk⟩ =>
    have : k < 18 := hk
    iterate 18 (rcases k with _ | k; exact ⟨rfl, rfl⟩)
    omega
theorem Env.name {w : World} (h : Env w) {k : Nat} (hk : k < 18) : w.cell? ⟨0, k * 2, none⟩ = some (.string (bytesQ (nmQ k))) := by
  rw [World.var?_cell gNames h.names, Nat.mul_comm k 2]; exact (namesAt_fin ⟨k, hk⟩).1
theorem Env.several {w : World} (h : Env w) {k : Nat} (hk : k < 18) : w.cell? ⟨0, k * 2 + 1, none⟩ = some (.bool (svQ k)) := by
  rw [World.var?_cell gNames h.names, Nat.mul_comm k 2]; exact (namesAt_fin ⟨k, hk⟩).2

/-! ### from the row's condition -/
def namesD {H : Type} : DataW H := .agg ((List.range 18).map fun k => .agg [.lit (.string (nmQ k)), .lit (.bool (svQ k))])
theorem namesD_eq : (Rows.laid_pomander_query_names : DataW Unit) = namesD := rfl

set_option maxRecDepth 100000 in
theorem names_cells {H : Type} {enc : TypeId × Value → H} {w : World} {base : Nat} {sp : Nat → Bool} {held : Bool} {fuel : Nat} {cs : List Value} {p : List MemPlace}
    (h : DataW.trod enc Tryz.prog w base sp held fuel 108 cs = some (namesD, p)) : cs = namesCells.toList := by
  obtain ⟨xs, m, rfl, hx, hlen, hn, hel⟩ := DataW.trod_array Tryz.underlying108 h
  have cR : Tryz.prog.cellsOf 107 = 2 := by kernel_rfl
  have cA : Tryz.prog.cellsOf 108 = 36 := by kernel_rfl
  rw [cA] at hlen
  simp only [Prod.mk.injEq, namesD, DataW.agg.injEq] at hx
  have hxs := hx.1
  have each : ∀ k, k < 18 → cs[2 * k]? = some (.string (bytesQ (nmQ k))) ∧ cs[2 * k + 1]? = some (.bool (svQ k)) := by
    intro k hk
    have h1 := hel k hk
    rw [cR] at h1
    have hk' : k < xs.length := by omega
    rw [List.getElem?_eq_getElem hk'] at h1
    have h2 : (xs[k]).1 = .agg [.lit (.string (nmQ k)), .lit (.bool (svQ k))] := by
      have := congrArg (fun l => l[k]?) hxs
      simp only [List.getElem?_map, List.getElem?_range hk, Option.map_some] at this
      rw [List.getElem?_eq_getElem hk'] at this
      simpa using this.symm
    obtain ⟨ys, n', _, hy, hyl, _, hf⟩ := DataW.trod_struct Tryz.underlying107 h1
    have g0 := hf 0 _ rfl
    have g1 := hf 1 _ rfl
    rw [hy] at h2
    simp only [DataW.agg.injEq] at h2
    obtain ⟨c0, c1, hc⟩ : ∃ c0 c1, (cs.drop (k * 2)).take 2 = [c0, c1] := by
      rw [cR] at hyl
      match hq : (cs.drop (k * 2)).take 2, hyl with
      | [c0, c1], _ => exact ⟨c0, c1, rfl⟩
    rw [hc] at g0 g1
    have e0 : Tryz.prog.cellsOf 9 = 1 := by kernel_rfl
    have e1 : Tryz.prog.cellsOf 4 = 1 := by kernel_rfl
    change DataW.trod enc Tryz.prog w base sp held n' 9 (List.take (Tryz.prog.cellsOf 9) [c0, c1]) = ys[0]? at g0
    change DataW.trod enc Tryz.prog w base sp held n' 4 (List.take (Tryz.prog.cellsOf 4) [c1]) = ys[1]? at g1
    rw [e0] at g0
    rw [e1] at g1
    match ys, h2 with
    | [y0, y1], h2 =>
      simp only [List.map_cons, List.map_nil, List.cons.injEq, and_true] at h2
      simp only [List.getElem?_cons_zero, List.getElem?_cons_succ] at g0 g1
      obtain ⟨s, q0, q0', _⟩ := DataW.trod_string Tryz.underlying9 g0
      obtain ⟨z, q1, q1'⟩ := DataW.trod_bool Tryz.underlying4 g1
      rw [q0', q1'] at h2
      simp at q0 q1 h2
      obtain ⟨h2a, h2b⟩ := h2
      have hs : s = bytesQ (nmQ k) := by
        apply ByteArray.ext
        unfold bytesQ
        rw [← h2a]
      subst hs h2b
      have at0 : cs[k * 2]? = some c0 := by
        have := congrArg (fun l => l[0]?) hc
        simpa [List.getElem?_take, List.getElem?_drop] using this
      have at1 : cs[k * 2 + 1]? = some c1 := by
        have := congrArg (fun l => l[1]?) hc
        simpa [List.getElem?_take, List.getElem?_drop] using this
      rw [Nat.mul_comm 2 k]
      exact ⟨by rw [at0, q0], by rw [at1, q1]⟩
  apply List.ext_getElem?
  intro i
  by_cases hi : i < 36
  · have hk : i / 2 < 18 := by omega
    have ha := each (i / 2) hk
    have hb := namesAt_fin ⟨i / 2, hk⟩
    simp only [Array.getElem?_toList] 
    rcases Nat.mod_two_eq_zero_or_one i with e | e
    · have : i = 2 * (i / 2) := by omega
      rw [this]
      rw [ha.1, hb.1]
    · have : i = 2 * (i / 2) + 1 := by omega
      rw [this]
      rw [ha.2, hb.2]
  · rw [List.getElem?_eq_none (by omega), List.getElem?_eq_none (by show namesCells.toList.length ≤ i; have : namesCells.toList.length = 36 := by kernel_rfl
                                                                    omega)]

/-- The tables, off what a row lays (names: the door's and the great door's rows lay the same). -/
theorem env_of_laid {W : World} {l : List (String × DataW Unit)} (hl : l = [("math/bits.deBruijn32tab", Rows.laid_math_bits_deBruijn32tab), ("math/bits.deBruijn64tab", Rows.laid_math_bits_deBruijn64tab), ("internal/strconv.uint64pow10", Rows.laid_internal_strconv_uint64pow10), ("pomander/query.names", Rows.laid_pomander_query_names)]) (h : laidMetH Tryz.prog l W) : Env W := by
  subst hl
  rw [MakeChecks.laidMetH_plain _ _ _ (by kernel_rfl)] at h
  have h3 := laidMet.tail (laidMet.tail h)
  refine ⟨?_, Lib.tabIs_of_head (g := 1) (t := 213) (e := 184) (n := 20) (by kernel_rfl) (by kernel_rfl) (by kernel_rfl) (by kernel_rfl) (by kernel_rfl) (by kernel_rfl) h3⟩
  obtain ⟨ps, ⟨g', t', cs, fuel, p, q, hg', ht', hvar, hd, _, _⟩, _⟩ := laidMet.tail h3
  obtain rfl := Option.some.inj (gNames.symm.trans hg')
  obtain rfl := Option.some.inj ((show (Tryz.prog.globals[0]?).map (·.type) = some 108 by kernel_rfl).symm.trans ht')
  rw [namesD_eq] at hd
  have := names_cells hd
  rw [hvar]
  exact congrArg some (Array.ext' this)
end Go.Proofs.YtiohlmccnllklaaGreatDoor.Q
namespace Go.Proofs.YtiohlmccnllklaaGreatDoor.Q
open Go.RowKit
set_option maxHeartbeats 4000000
set_option maxRecDepth 100000
set_option linter.unusedVariables false
set_option linter.unusedSimpArgs false

theorem bytesQ_app (a b : List UInt8) : bytesQ a ++ bytesQ b = bytesQ (a ++ b) := by
  apply ByteArray.ext
  simp [bytesQ]
theorem bytesQ_size (l : List UInt8) : (bytesQ l).size = l.length := by simp [bytesQ, ByteArray.size]
theorem dd_len : ∀ (k u : Nat), u < 10 ^ (k + 1) → (Lib.decDigits u).length ≤ k + 1
  | 0, u, h => by rw [Lib.decDigits, dif_pos (by simpa using h)]; simp
  | k + 1, u, h => by
    by_cases hu : u < 10
    · rw [Lib.decDigits, dif_pos hu]; simp
    · rw [Lib.decDigits, dif_neg hu]
      have := dd_len k (u / 10) (by rw [Nat.pow_succ] at h; omega)
      simp; omega
theorem itoa_len20 {n : Int} (h : I64 n) : (Lib.itoa n).length ≤ 20 := by
  obtain ⟨h0, h1⟩ := h
  unfold Lib.itoa
  split
  · have := dd_len 18 n.natAbs (by have : (10 : Nat) ^ (18 + 1) = 10000000000000000000 := by decide
                                   omega)
    simp; omega
  · have := dd_len 18 n.toNat (by have : (10 : Nat) ^ (18 + 1) = 10000000000000000000 := by decide
                                  omega)
    omega
/-- A place's text. -/
def txt (p : T.Pl) : List UInt8 := if p.1 < 0 ∨ 17 < p.1 then [63] else if svQ p.1.toNat = true then nmQ p.1.toNat ++ [32] ++ Lib.itoa p.2 else nmQ p.1.toNat
theorem Itoa_any {n : Int} (hn : I64 n) (w : World) (h : Env w) :
    Calls Tryz.prog 36 #[.int .i64 n] w fun e w' => e = .returned (.string (bytesQ (Lib.itoa n))) ∧ Below w.heap.size w w' := by
  refine (Tryz.strconv_Itoa n hn.1 hn.2 w h.pow).mono ?_
  rintro e w' ⟨rfl, k, os, rfl⟩
  exact ⟨rfl, (below_drewN _ _ k).trans ⟨rfl, rfl, rfl, by simp [Sort.grow], fun k hk => by simp [Sort.grow, Array.getElem?_append, hk]⟩⟩
structure TxS (R A : Nat) (nm : ByteArray) (b : Int) (W : World) : Prop where
  e : Env W
  r : W.cell? ⟨R, 0, none⟩ = some (.string nm)
  n : W.cell? ⟨A, 1, none⟩ = some (.int .i64 b)
theorem TxS.stb (R A : Nat) (nm : ByteArray) (b : Int) : Free.Stb (TxS R A nm b) := fun W W' h hb => ⟨h.e.below hb, cell_below h.r hb, cell_below h.n hb⟩
theorem TxS.make {w : World} (a b : Int) (nm : ByteArray) (h : Env w) : TxS (w.heap.size + 1) w.heap.size nm b ((w.alloc (.cells #[.int .i64 a, .int .i64 b] 42)).alloc (.cells #[.string nm, .bool true] 107)).drew := by
  have hb := belT (bel1 w (.cells #[.int .i64 a, .int .i64 b] 42)) (bel1 _ (.cells #[.string nm, .bool true] 107))
  have c1 := (blk_new (w.alloc (.cells #[.int .i64 a, .int .i64 b] 42)) #[.string nm, .bool true] 107).cell 0
  have c2 := ((blk_new w #[.int .i64 a, .int .i64 b] 42).alloc (.cells #[.string nm, .bool true] 107)).cell 1
  rw [size1] at c1
  exact TxS.stb _ _ _ _ _ _ ⟨h.below hb, c1, c2⟩ (Below.refl _ _).drew
theorem Text_any {w : World} (h : Env w) {p : T.Pl} (hp : Pi p) : Calls Tryz.prog 11 #[.agg #[.int .i64 p.1, .int .i64 p.2]] w fun e w' => e = .returned (.string (bytesQ (txt p))) ∧ Below w.heap.size w w' := by
  have hb1 := bel1 w (.cells #[.int .i64 p.1, .int .i64 p.2] 42)
  obtain ⟨a, b⟩ := p
  simp only at hb1 ⊢
  by_cases ha : a < 0
  · have HB := Lib.hid (show _ = Ending.returned (.string (bytesQ (txt (a, b)))) ∧ _ from ⟨by unfold txt; rw [if_pos (.inl ha)], hb1⟩)
    clear hb1 hp
    go_enter Tryz.func11, Tryz.ntmps11
    go_wp2
    go_ret
    exact HB.out
  · by_cases hb : 17 < a
    · have hb' : 18 ≤ a := hb
      have HB := Lib.hid (show _ = Ending.returned (.string (bytesQ (txt (a, b)))) ∧ _ from ⟨by unfold txt; rw [if_pos (.inr hb)], hb1⟩)
      clear hb1 hp
      go_enter Tryz.func11, Tryz.ntmps11
      go_wp2
      go_ret
      exact HB.out
    · obtain ⟨k, rfl⟩ : ∃ k : Nat, a = (k : Int) := ⟨a.toNat, by omega⟩
      have hk : k < 18 := by omega
      have hki : (k : Int) < 18 := by omega
      have hpb : I64 b := hp.2
      have hb2 := belT hb1 (bel1 _ (.cells #[.string (bytesQ (nmQ k)), .bool (svQ k)] 107))
      have HE1 := h.below hb1
      have c0 := HE1.name hk
      have c1 := HE1.several hk
      have HE := Lib.hid (h.below hb2)
      have HB := Lib.hid hb2
      have HI := Lib.hid (fun W (hW : Env W) => Itoa_any hpb W hW)
      have HE0 := Lib.hid h
      have ht : Hid (bytesQ (txt ((k : Int), b)) = if svQ k = true then (bytesQ (nmQ k) ++ bytesQ [32]) ++ bytesQ (Lib.itoa b) else bytesQ (nmQ k)) := Lib.hid (by unfold txt; rw [if_neg (by simp only; omega)]; simp only [Int.toNat_natCast]; split <;> simp [bytesQ_app])
      have hl1 : (bytesQ (nmQ k)).size ≤ 10 := by rw [bytesQ_size]; exact (by decide : ∀ k : Fin 18, (nmQ k.val).length ≤ 10) ⟨k, hk⟩
      have hl2 : (bytesQ (Lib.itoa b)).size ≤ 20 := by rw [bytesQ_size]; exact itoa_len20 hpb
      generalize bytesQ (nmQ k) = nm at *
      generalize bytesQ (Lib.itoa b) = ib at *
      generalize svQ k = sv at *
      clear hb1 hb2 HE1 h
      cases sv with
      | true =>
        have HT : Hid (bytesQ (txt ((k : Int), b)) = (nm ++ bytesQ [32]) ++ ib) := Lib.hid (by rw [ht.out, if_pos rfl])
        clear ht
        have HS := Lib.hid (TxS.make (k : Int) b nm HE0.out)
        go_enter Tryz.func11, Tryz.ntmps11
        go_wp2
        refine Free.any (TxS (w.heap.size + 1) w.heap.size nm b) (TxS.stb _ _ nm b) HS.out (fun st => ?_)
        refine Free.tk 0 (some 21) ?_
        refine Free.tk 1 (some 22) (v := .string nm) ?_ (hy := by intro W hW; have c0 := hW.r; go_simp; try with_reducible rfl)
        refine Free.tk 2 (some 23) (v := .string (nm ++ ⟨#[32]⟩)) ?_ (hy := by intro W hW; go_simp; omega)
        refine Free.tk 3 (some 24) ?_
        refine Free.tk 4 (some 25) (v := .int .i64 b) ?_ (hy := by intro W hW; have c0 := hW.n; go_simp; try with_reducible rfl)
        refine Free.cl 5 (some 26) (v := .string ib) st (fun W hW => (HI.out W hW.e)) ?_ (hy := by intro W; go_simp; try with_reducible rfl)
        refine Free.tk 6 (some 27) (v := .string (nm ++ ⟨#[32]⟩ ++ ib)) ?_ (hy := by intro W hW; go_simp; omega)
        refine Free.tk 7 (some 2) ?_
        refine Free.done (fun W hb hW => ?_)
        have HB2 := Lib.hid (belT HB.out ((Below.refl _ _).drew.trans hb))
        clear hb hW
        go_wp2
        go_ret
        exact ⟨by rw [HT.out]; rfl, HB2.out⟩
      | false =>
        have HT : Hid (bytesQ (txt ((k : Int), b)) = nm) := Lib.hid (by rw [ht.out, if_neg (by decide)])
        clear ht
        go_enter Tryz.func11, Tryz.ntmps11
        go_wp2
        go_ret
        exact ⟨by rw [HT.out]; rfl, HB.out⟩
end Go.Proofs.YtiohlmccnllklaaGreatDoor.Q

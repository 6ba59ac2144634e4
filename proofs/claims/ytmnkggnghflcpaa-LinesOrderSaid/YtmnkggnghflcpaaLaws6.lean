/-
  Layer 7: the walk of LinesOrder. Written by gen_order.py.
-/
import Derived.Test.YtmnkggnghflcpaaLaws2
namespace Go.Proofs.Ytmnkggnghflcpaa
open Go.RowKit
set_option maxHeartbeats 16000000
set_option linter.unusedVariables false
set_option linter.unusedSimpArgs false

/-! ### what wants and is in the mask, and the least of it -/
def sel4 (a b c d : Bool) (i : Nat) : Bool := [a, b, c, d].getD i false
def leastBit (m : Nat) : Nat := if m % 2 = 1 then 0 else if m / 2 % 2 = 1 then 1 else if m / 4 % 2 = 1 then 2 else if m / 8 % 2 = 1 then 3 else 0
theorem left_all : ∀ (a b c d : Bool) (ms : Fin 16), 0 ≤ bits .and .u32 (b2i a + b2i b * 2 + b2i c * 4 + b2i d * 8) (ms.val : Int) ∧ bits .and .u32 (b2i a + b2i b * 2 + b2i c * 4 + b2i d * 8) (ms.val : Int) < 16 ∧
    ((List.range 4).filter (sel4 a b c d)).find? (bit (ms.val : Int)) = if bits .and .u32 (b2i a + b2i b * 2 + b2i c * 4 + b2i d * 8) (ms.val : Int) = 0 then none else some (leastBit (bits .and .u32 (b2i a + b2i b * 2 + b2i c * 4 + b2i d * 8) (ms.val : Int)).toNat) := by decide +kernel
theorem left_cases (l : Ls) (now : Int) (hms : 0 ≤ l.ms ∧ l.ms < 16) : ∃ m : Nat, m < 16 ∧ bits .and .u32 (l.wn now) l.ms = (m : Int) ∧ l.pdN now = ((leastBit m : Nat) : Int) ∧ l.pdB now = decide (m ≠ 0) := by
  obtain ⟨h1, h2, h3⟩ := left_all (l.w now 0) (l.w now 1) (l.w now 2) (l.w now 3) ⟨l.ms.toNat, by omega⟩
  have e : ((l.ms.toNat : Nat) : Int) = l.ms := by omega
  have ef : (List.range 4).filter (sel4 (l.w now 0) (l.w now 1) (l.w now 2) (l.w now 3)) = l.wl now := by
    unfold Ls.wl wfrom
    refine List.filter_congr fun i hi => ?_
    have : i < 4 := by simpa using hi
    have : i = 0 ∨ i = 1 ∨ i = 2 ∨ i = 3 := by omega
    rcases this with rfl | rfl | rfl | rfl <;> rfl
  simp only [e, ← Ls.wn_eq, ef] at h1 h2 h3
  have hpd : l.pd now = if bits .and .u32 (l.wn now) l.ms = 0 then none else some (leastBit (bits .and .u32 (l.wn now) l.ms).toNat) := h3
  refine ⟨(bits .and .u32 (l.wn now) l.ms).toNat, by omega, by omega, ?_, ?_⟩
  · unfold Ls.pdN; rw [hpd]
    split
    · rename_i h0; rw [h0]; rfl
    · rfl
  · unfold Ls.pdB; rw [hpd]
    split
    · rename_i h0; rw [h0]; rfl
    · rename_i h0
      have : (bits .and .u32 (l.wn now) l.ms).toNat ≠ 0 := by omega
      simp [this]
theorem str_append (xs ys : List Int) : strOfNums xs ++ strOfNums ys = strOfNums (xs ++ ys) := by
  apply ByteArray.ext
  simp [strOfNums, ByteArray.data_append]
theorem str_order {l : Ls} : strOfNums (l.ps.take l.tk) ++ strOfNums l.wt = strOfNums l.ps := by
  rw [str_append]; unfold Ls.wt; rw [List.take_append_drop]

/-! ### the struct in its box -/
theorem infoA : (Try.prog.info? 39).map (·.size) = some 6 := by kernel_rfl
theorem wp_store_An {ops : Array Oper} {rest : List Oper} {a : Act} {w : World} {Q : Exit → Act → World → Prop} {old : Array Value} {d : Option Tmp} {x y : Operand} {ty : TypeId} {pos : String} {af : Array Edge} (c : Array Value) (hc : old.size = 6 ∧ c.size = 6 ∧ c.all (·.oneCell') = true) (hx : a.eval x = .pointer (some ⟨w.heap.size, 0, none⟩)) (hy : a.eval y = .agg c) (h : wpList Try.prog ops Q rest (a.put d undef) (w.alloc (.cells c 39))) :
    wpList Try.prog ops Q ({ dst := d, op := .store 39 x y, type := ty, pos := pos, after := af, guard := none } :: rest) a (w.alloc (.cells old 39)) :=
  wpList_store_blk rfl 39 x y rfl w.heap.size c old hx hy 39 (blk_new w old 39) (by rw [hc.2.1]; exact infoA) (by rw [hc.1, hc.2.1]) hc.2.2 (by rw [World.setRow_alloc_new]; exact h)

/-! ### what stands in a round -/
structure Od (w : World) (l : Ls) (ins outs : List Int) (iv ov : Value) (F : Nat → Prop) (W : World) : Prop where
  at_ : At W w.heap.size l F
  qi : Qs W iv ins
  qo : Qs W ov outs
  iF : ∀ k, blkOf iv = some k → ¬ F k
  oF : ∀ k, blkOf ov = some k → ¬ F k
  io : ∀ k, blkOf iv = some k → blkOf ov ≠ some k
  fB : ∀ k, F k → w.heap.size ≤ k
  iB : ∀ k, blkOf iv = some k → w.heap.size ≤ k
  oB : ∀ k, blkOf ov = some k → w.heap.size ≤ k
  below : Below w.heap.size w W
section
variable {w W W' : World} {l l' : Ls} {ins outs ins' outs' : List Int} {iv ov v' : Value} {F : Nat → Prop}
theorem Od.after (h : Od w l ins outs iv ov F W) (hb : Below W.heap.size W W') : Od w l ins outs iv ov F W' := ⟨h.at_.below hb, h.qi.below hb, h.qo.below hb, h.iF, h.oF, h.io, h.fB, h.iB, h.oB, h.below.trans (hb.mono h.below.size)⟩
theorem Od.stable (w : World) (l : Ls) (ins outs : List Int) (iv ov : Value) (F : Nat → Prop) : Stable (Od w l ins outs iv ov F) := fun W W' h hb => h.after hb
theorem Od.chg (h : Od w l ins outs iv ov F W) (hc : Chg W w.heap.size l' F W') : ∃ F', Od w l' ins outs iv ov F' W' := by
  obtain ⟨F', a, b, t⟩ := hc
  have hs := h.below.size
  refine ⟨F', a, h.qi.turned t h.iF, h.qo.turned t h.oF, fun k hk hF => ?_, fun k hk hF => ?_, h.io, fun k hk => ?_, h.iB, h.oB, h.below.trans (t.below hs h.fB)⟩
  · rcases b k hF with e | e
    · exact h.iF k hk e
    · have := h.qi.lt hk; omega
  · rcases b k hF with e | e
    · exact h.oF k hk e
    · have := h.qo.lt hk; omega
  · rcases b k hk with e | e
    · exact h.fB k e
    · omega
theorem Od.appI (h : Od w l ins outs iv ov F W) (hq : Qs W' v' ins') (t : Turned (fun k => blkOf iv = some k) W W') (hn : ∀ k, blkOf v' = some k → blkOf iv = some k ∨ W.heap.size ≤ k) : Od w l ins' outs v' ov F W' := by
  have hs := h.below.size
  refine ⟨h.at_.turned t (fun k hk e => h.iF k e hk), hq, h.qo.turned t (fun k hk e => h.io k e hk), fun k hk hF => ?_, h.oF, fun k hk e => ?_, h.fB, fun k hk => ?_, h.oB, h.below.trans (t.below hs h.iB)⟩
  · rcases hn k hk with e | e
    · exact h.iF k e hF
    · have := h.at_.lt k hF; omega
  · rcases hn k hk with e' | e'
    · exact h.io k e' e
    · have := h.qo.lt e; omega
  · rcases hn k hk with e | e
    · exact h.iB k e
    · omega
theorem Od.appO (h : Od w l ins outs iv ov F W) (hq : Qs W' v' outs') (t : Turned (fun k => blkOf ov = some k) W W') (hn : ∀ k, blkOf v' = some k → blkOf ov = some k ∨ W.heap.size ≤ k) : Od w l ins outs' iv v' F W' := by
  have hs := h.below.size
  refine ⟨h.at_.turned t (fun k hk e => h.oF k e hk), h.qi.turned t (fun k hk e => h.io k hk e), hq, h.iF, fun k hk hF => ?_, fun k hk e => ?_, h.fB, h.iB, fun k hk => ?_, h.below.trans (t.below hs h.oB)⟩
  · rcases hn k hk with e | e
    · exact h.oF k e hF
    · have := h.at_.lt k hF; omega
  · rcases hn k e with e' | e'
    · exact h.io k hk e'
    · have := h.qi.lt hk; omega
  · rcases hn k hk with e | e
    · exact h.oB k e
    · omega
theorem od_start (w : World) : Od w L0 [] [] (.slice none 0 0) (.slice none 0 0) (atF w.heap.size (.slice none 0 0) (.slice none 0 0)) (w.alloc (.cells (pcL L0 (.slice none 0 0) (.slice none 0 0)) 71)) := by
  refine ⟨at_new w, Qs.nil _, Qs.nil _, fun k hk => by simp [blkOf] at hk, fun k hk => by simp [blkOf] at hk, fun k hk => by simp [blkOf] at hk, fun k hk => ?_, fun k hk => by simp [blkOf] at hk, fun k hk => by simp [blkOf] at hk, (Below.refl _ _).alloc (Nat.le_refl _) _⟩
  rcases hk with e | e | e
  · exact Nat.le_of_eq e.symm
  · simp [blkOf] at e
  · simp [blkOf] at e
end
def Or (w : World) (l : Ls) (iv ov : Value) (W : World) : Prop := ∃ F, Od w l l.ps (l.ps.take l.tk) iv ov F W
theorem od_held {w W : World} {l : Ls} {ins outs : List Int} {iv ov : Value} {F : Nat → Prop} (h : Od w l ins outs iv ov F W) : HeldG (Od w l ins outs iv ov F) [] W := ⟨Od.stable w l ins outs iv ov F, h, Reads.nil _⟩
theorem wrap_sub {a b c : Nat} (h : a + b = c) (hc : c ≤ 1000000) : IntKind.i64.wrap ((c : Int) - (a : Int)) = (b : Int) := by
  rw [show (c : Int) - (a : Int) = (b : Int) from by omega]
  rw [IntKind.wrap_i64]; omega
set_option maxRecDepth 100000 in
theorem LinesOrder_walk (v : Value) (xs : List Ac) (now : Int) (w : World) (h : ActsIn w v xs) : Calls Try.prog 8 #[v, .int .i64 now] w fun e w' => e = .returned (.bool true) ∧ Below w.heap.size w w' := by
  have hoks := h.oks
  have HF := Lib.hid (few_any h)
  obtain ⟨o, cc, rfl, hc, hm, hat⟩ := h.form
  unfold maxLen at hm
  have hlen := cost_len xs
  have HA := Lib.hid hat
  have HOKS := Lib.hid hoks
  have H0 := Lib.hid (od_start w)
  clear h hat hoks
  go_enter Try.func8, Try.ntmps8
  go_wp2_with fail
  refine HF.out.mono ?_
  rintro e w1 ⟨q, rfl, rfl, hq⟩
  cases q with
  | false =>
    clear hq
    go_wp2_with (go_at_call 10; refine (works_any _).mono ?_; rintro e w' ⟨rfl, hb⟩)
    go_ret
    exact ⟨rfl, hb⟩
  | true =>
    have hcost := hq rfl
    have HCost := Lib.hid hcost
    clear hq HF
    go_wp2_with fail
    refine (New_any _).mono ?_
    rintro e w1 ⟨rfl, rfl⟩
    go_wp2_with fail
    generalize (w.alloc (.cells (pcL L0 (.slice none 0 0) (.slice none 0 0)) 71)) = W0 at H0 ⊢
    go_loopw [6, 7, 8] (fun i0 o0 q wr => ∃ (k : Nat) (iv ov : Value), k ≤ xs.length ∧ iv = i0 ∧ ov = o0 ∧ q = .int .i64 (k : Int) ∧ Hid (Or w (plL (xs.take k)) iv ov wr)) (fun _ _ q _ => xs.length + 1 - (intOf q).toNat)
    case atStart => exact ⟨0, _, _, by omega, rfl, rfl, rfl, _, H0.out⟩
    case round =>
      obtain ⟨k, iv, ov, hk, rfl, rfl, rfl, HI⟩ := hrel
      by_cases hlt : k < xs.length
      · have hi : (k : Int) < (xs.length : Int) := by omega
        obtain ⟨a, s, bv, rfl, hs, hfit, h6⟩ := HA.out k hlt
        have HT := Lib.hid (plL_step hs)
        have hok := plL_ok (xs := xs.take k) (fun s hs => HOKS.out s (List.mem_of_mem_take hs))
        have hsz : (plL (xs.take k)).ps.length ≤ 5000 := by have := plL_sz (xs.take k); have := cost_take xs k; unfold Ls.sz at *; omega
        have hsl : s.b.length ≤ 5000 := by have := cost_mem (List.mem_of_getElem? hs); omega
        have hsok := hfit.ok
        obtain ⟨F, hod⟩ := HI.out
        obtain ⟨sk, sln, sb, sy, sx, sup⟩ := s
        have h6' := h6.below (hod.below)
        have p1 := h6'.k; have p2 := h6'.ln; have p3 := h6'.b; have p4 := h6'.y; have p5 := h6'.x; have p6 := h6'.up
        simp only at p1 p2 p3 p4 p5 p6 hsl
        have hbn : Below wr.heap.size wr (wr.alloc (.cells #[.int .i64 sk, .int .i64 sln, bv, .int .u8 sy, .int .u32 sx, .bool sup] 39)) := (Below.refl _ _).alloc (Nat.le_refl _) _
        have HO1 := Lib.hid (hod.after hbn)
        have HB1 := Lib.hid ((h6.nb.below hod.below).below hbn)
        have HAn := Lib.hid (show (#[.int .i64 0, .int .i64 0, .slice none 0 0, .int .u8 0, .int .u32 0, .bool false] : Array Value).size = 6 ∧ (#[.int .i64 sk, .int .i64 sln, bv, .int .u8 sy, .int .u32 sx, .bool sup] : Array Value).size = 6 ∧ (#[.int .i64 sk, .int .i64 sln, bv, .int .u8 sy, .int .u32 sx, .bool sup] : Array Value).all (·.oneCell') = true from ⟨rfl, rfl, by simp [h6.nb.one]; exact ⟨rfl, rfl, rfl, rfl, rfl⟩⟩)
        obtain ⟨x0, x1, x2, x3, x4, x5⟩ := ac_cells (blk_new wr #[.int .i64 sk, .int .i64 sln, bv, .int .u8 sy, .int .u32 sx, .bool sup] 39)
        have HOK := Lib.hid hok
        have HSZ := Lib.hid hsz
        have HFW := Lib.hid (show ∀ q, F q → q ≠ wr.heap.size from fun q hq => by have := hod.at_.lt q hq; omega)
        have HBW := Lib.hid (show ∀ b, rdBlk bv = some b → b < w.heap.size from fun b hb => h6.nb.lt hb)
        have HTD : Hid ((plL (xs.take k)).td.length ≤ 900000) := by have := plL_sz (xs.take k); have := cost_take xs k; have := HCost.out; unfold Ls.sz at *; show _ ≤ _; omega
        have HOK2 := Lib.hid (hok.act hsok)
        have HSO := Lib.hid hsok
        clear hod HI hok hsz hs hfit h6 h6' hbn H0 hsok
        generalize plL (xs.take k) = l at HT HO1 HOK HSZ HOK2 HTD
        by_cases k0 : sk = 0
        · subst k0
          go_wp2_with ((with_reducible apply wp_store_An _); (exact HAn.out); (rfl); (rfl))
          refine (SetAlarm_any HO1.out.at_ sx).mono ?_
          rintro e W1 ⟨rfl, hcg⟩
          obtain ⟨F2, ho⟩ := HO1.out.chg hcg
          have HO2 : Hid (Od w ({ l with al := sx } : Ls) (({ l with al := sx } : Ls)).ps ((({ l with al := sx } : Ls)).ps.take (({ l with al := sx } : Ls)).tk) iv ov F2 W1) := ho
          have HT2 : Hid (plL (xs.take (k + 1)) = ({ l with al := sx } : Ls)) := HT.out.trans rfl
          have HOK3 : Hid (({ l with al := sx } : Ls)).Ok := by have := HOK2.out; rw [show l.act ⟨0, sln, sb, sy, sx, sup⟩ = ({ l with al := sx } : Ls) from rfl] at this; exact this
          clear p1 p2 p3 p4 p5 p6 x0 x1 x2 x3 x4 x5 HAn ho hcg HO1 HT HOK HOK2 HB1
          have hps2 : (({ l with al := sx } : Ls)).ps.length ≤ 10000 := by have := HSZ.out; show l.ps.length ≤ _; omega
          generalize (({ l with al := sx } : Ls)) = l2 at HT2 HO2 HOK3 hps2
          have HPS := Lib.hid hps2
          have HM : Hid (l2.wt.length ≤ 1000000) := by have := HOK3.out.wt_len; show _ ≤ _; omega
          have hol : (l2.ps.take l2.tk).length + l2.wt.length = l2.ps.length := by have := HOK3.out.wt_len; have := HOK3.out.tk; simp; omega
          have hstr := str_order (l := l2)
          have HOr : Hid (∀ W, Od w l2 l2.ps (l2.ps.take l2.tk) iv ov F2 W → Or w l2 iv ov W) := fun W h => ⟨F2, h⟩
          generalize l2.ps.take l2.tk = out at HO2 hol hstr HOr
          have HSTR := Lib.hid hstr
          have HSUB := Lib.hid (wrap_sub hol (by omega))
          have HSL : Hid (out.length + l2.wt.length ≤ 1000000) := by show _ ≤ _; omega
          obtain ⟨ai, ci, rfl, hci⟩ := HO2.out.qi.shape
          obtain ⟨ao, co, rfl, hco⟩ := HO2.out.qo.shape
          clear hstr hol hps2 hci hco
          go_wp2
          have hK0 := od_held (HO2.out.after (Below.refl _ _).drew)
          refine wp_region_held_drew (S := _) (by kernel_rfl) hK0 (fun _ => ?_)
          have hS := hK0
          refine take_d (i := 0) (d := some 96) (v := ?_) rfl rfl (by kernel_rfl) (by kernel_rfl) (by kernel_rfl) (fun _ _ _ h => h) (.inl ⟨by rfl, ?_⟩) hS ?_
          rotate_left
          · intro W hW
            go_simp
            try with_reducible rfl
          try simp only [Act.put, List.setIfInBounds_toArray, List.set_cons_zero, List.set_cons_succ]
          refine take_d (i := 1) (d := some 97) (v := .string (strOfNums out)) rfl rfl (by kernel_rfl) (by kernel_rfl) (by kernel_rfl) (fun _ _ _ h => h) (y_conv (by kernel_rfl) rfl rfl (fun W hW => hW.i.qo.nums)) hS ?_
          try simp only [Act.put, List.setIfInBounds_toArray, List.set_cons_zero, List.set_cons_succ]
          refine take_d (i := 2) (d := some 98) (v := ?_) rfl rfl (by kernel_rfl) (by kernel_rfl) (by kernel_rfl) (fun _ _ _ h => h) (.inl ⟨by rfl, ?_⟩) hS ?_
          rotate_left
          · intro W hW
            go_simp
            try with_reducible rfl
          try simp only [Act.put, List.setIfInBounds_toArray, List.set_cons_zero, List.set_cons_succ]
          refine take_d (i := 6) (d := some 102) (v := ?_) rfl rfl (by kernel_rfl) (by kernel_rfl) (by kernel_rfl) (fun _ _ _ h => h) (.inl ⟨by rfl, ?_⟩) hS ?_
          rotate_left
          · intro W hW
            go_simp
            try with_reducible rfl
          try simp only [Act.put, List.setIfInBounds_toArray, List.set_cons_zero, List.set_cons_succ]
          refine take_d (i := 7) (d := some 103) (v := .string (strOfNums l2.ps)) rfl rfl (by kernel_rfl) (by kernel_rfl) (by kernel_rfl) (fun _ _ _ h => h) (y_conv (by kernel_rfl) rfl rfl (fun W hW => hW.i.qi.nums)) hS ?_
          try simp only [Act.put, List.setIfInBounds_toArray, List.set_cons_zero, List.set_cons_succ]
          refine wpAnyH_all (rs := [3]) (by kernel_rfl) (by simp) (fun i hi => ?_)
          simp only [List.mem_cons, List.not_mem_nil, or_false] at hi
          subst hi
          refine .inl ?_
          go_simp
          refine (Queue_any hS.i.at_ HM.out).mono ?_
          rintro e wc ⟨v1, rfl, hM⟩
          have hS2 := (hS.after hM.below).cons hM.q.nums
          refine ⟨hS.after hM.below, ?_⟩
          refine anyH_heldG hS2 ?_
          have hS := hS2
          clear hS2 hM
          try simp only [Act.put, List.setIfInBounds_toArray, List.set_cons_zero, List.set_cons_succ]
          refine take_d (i := 4) (d := some 100) (v := .string (strOfNums l2.wt)) rfl rfl (by kernel_rfl) (by kernel_rfl) (by kernel_rfl) (fun _ _ _ h => h) (y_conv (by kernel_rfl) rfl rfl (fun W hW => hW.get v1 l2.wt (by simp))) hS ?_
          try simp only [Act.put, List.setIfInBounds_toArray, List.set_cons_zero, List.set_cons_succ]
          refine take_d (i := 5) (d := some 101) (v := .string (strOfNums l2.ps)) rfl rfl (by kernel_rfl) (by kernel_rfl) (by kernel_rfl) (fun _ _ _ h => h) (.inl ⟨by rfl, fun W hW => by have q := HSTR.out; go_simp; rw [strOfNums_size, strOfNums_size]; have := HSL.out; omega⟩) hS ?_
          try simp only [Act.put, List.setIfInBounds_toArray, List.set_cons_zero, List.set_cons_succ]
          refine take_d (i := 8) (d := some 104) (v := ?_) rfl rfl (by kernel_rfl) (by kernel_rfl) (by kernel_rfl) (fun _ _ _ h => h) (.inl ⟨by rfl, ?_⟩) hS ?_
          rotate_left
          · intro W hW
            go_simp
            try with_reducible rfl
          try simp only [Act.put, List.setIfInBounds_toArray, List.set_cons_zero, List.set_cons_succ]
          refine take_d (i := 9) (d := some 105) (v := ?_) rfl rfl (by kernel_rfl) (by kernel_rfl) (by kernel_rfl) (fun _ _ _ h => h) (.inl ⟨by rfl, ?_⟩) hS ?_
          rotate_left
          · intro W hW
            go_simp
            try with_reducible rfl
          try simp only [Act.put, List.setIfInBounds_toArray, List.set_cons_zero, List.set_cons_succ]
          refine take_d (i := 10) (d := some 106) (v := ?_) rfl rfl (by kernel_rfl) (by kernel_rfl) (by kernel_rfl) (fun _ _ _ h => h) (.inl ⟨by rfl, ?_⟩) hS ?_
          rotate_left
          · intro W hW
            go_simp
            try with_reducible rfl
          try simp only [Act.put, List.setIfInBounds_toArray, List.set_cons_zero, List.set_cons_succ]
          refine take_d (i := 12) (d := some 108) (v := ?_) rfl rfl (by kernel_rfl) (by kernel_rfl) (by kernel_rfl) (fun _ _ _ h => h) (.inl ⟨by rfl, ?_⟩) hS ?_
          rotate_left
          · intro W hW
            go_simp
            try with_reducible rfl
          try simp only [Act.put, List.setIfInBounds_toArray, List.set_cons_zero, List.set_cons_succ]
          refine take_d (i := 13) (d := some 109) (v := ?_) rfl rfl (by kernel_rfl) (by kernel_rfl) (by kernel_rfl) (fun _ _ _ h => h) (.inl ⟨by rfl, ?_⟩) hS ?_
          rotate_left
          · intro W hW
            go_simp
            try with_reducible rfl
          try simp only [Act.put, List.setIfInBounds_toArray, List.set_cons_zero, List.set_cons_succ]
          refine take_d (i := 14) (d := some 110) (v := ?_) rfl rfl (by kernel_rfl) (by kernel_rfl) (by kernel_rfl) (fun _ _ _ h => h) (.inl ⟨by rfl, ?_⟩) hS ?_
          rotate_left
          · intro W hW
            go_simp
            try with_reducible rfl
          try simp only [Act.put, List.setIfInBounds_toArray, List.set_cons_zero, List.set_cons_succ]
          refine take_d (i := 15) (d := some 111) (v := ?_) rfl rfl (by kernel_rfl) (by kernel_rfl) (by kernel_rfl) (fun _ _ _ h => h) (.inl ⟨by rfl, ?_⟩) hS ?_
          rotate_left
          · intro W hW
            go_simp
            try with_reducible rfl
          try simp only [Act.put, List.setIfInBounds_toArray, List.set_cons_zero, List.set_cons_succ]
          refine take_d (i := 16) (d := some 112) (v := .int .i64 (l2.wt.length : Int)) rfl rfl (by kernel_rfl) (by kernel_rfl) (by kernel_rfl) (fun _ _ _ h => h) (.inl ⟨by rfl, fun W hW => by have q := HSUB.out; go_simp⟩) hS ?_
          try simp only [Act.put, List.setIfInBounds_toArray, List.set_cons_zero, List.set_cons_succ]
          refine wpAnyH_all (rs := [11]) (by kernel_rfl) (by simp) (fun i hi => ?_)
          simp only [List.mem_cons, List.not_mem_nil, or_false] at hi
          subst hi
          refine .inl ?_
          go_simp
          refine (Waits_any hS.i.at_).mono ?_
          rintro e wc ⟨rfl, rfl⟩
          refine ⟨hS, ?_⟩
          try simp only [Act.put, List.setIfInBounds_toArray, List.set_cons_zero, List.set_cons_succ]
          refine take_d (i := 17) (d := some 113) (v := ?_) rfl rfl (by kernel_rfl) (by kernel_rfl) (by kernel_rfl) (fun _ _ _ h => h) (.inl ⟨by rfl, ?_⟩) hS ?_
          rotate_left
          · intro W hW
            go_simp
            try with_reducible rfl
          try simp only [Act.put, List.setIfInBounds_toArray, List.set_cons_zero, List.set_cons_succ]
          refine take_d (i := 18) (d := some 114) (v := ?_) rfl rfl (by kernel_rfl) (by kernel_rfl) (by kernel_rfl) (fun _ _ _ h => h) (.inl ⟨by rfl, ?_⟩) hS ?_
          rotate_left
          · intro W hW
            go_simp
            try with_reducible rfl
          try simp only [Act.put, List.setIfInBounds_toArray, List.set_cons_zero, List.set_cons_succ]
          refine wpAnyH_done (by kernel_rfl) ?_ _
          have HO3 := Lib.hid hS.i
          clear hS hK0 HO2
          go_wp2
          go_roundw
          case rel => exact ⟨k + 1, _, _, by omega, rfl, rfl, by go_num, by rw [HT2.out]; exact HOr.out _ HO3.out⟩
          case measure => simp [intOf]; omega
        by_cases k1 : sk = 1
        · subst k1
          have HK2 : Hid (∀ (l3 : Ls) (W : World), Chg (wr.alloc (.cells #[.int .i64 1, .int .i64 sln, bv, .int .u8 sy, .int .u32 sx, .bool sup] 39)) w.heap.size l3 F W → W.cell? ⟨wr.heap.size, 2, none⟩ = some bv) := fun l3 W hcg => by
            obtain ⟨F3, _, _, t⟩ := hcg
            have hb := (blk_new wr #[.int .i64 1, .int .i64 sln, bv, .int .u8 sy, .int .u32 sx, .bool sup] 39).turned t (fun e => HFW.out _ e rfl)
            exact (ac_cells hb).2.2.1
          have HKB : Hid (∀ (l3 : Ls) (W : World), Chg (wr.alloc (.cells #[.int .i64 1, .int .i64 sln, bv, .int .u8 sy, .int .u32 sx, .bool sup] 39)) w.heap.size l3 F W → NumsIn .u8 W bv sb) := fun l3 W hcg => by
            obtain ⟨F3, _, _, t⟩ := hcg
            exact HB1.out.keep fun b hb => t.block b (HB1.out.lt hb) (fun e => by have := HO1.out.fB b e; have := HBW.out b hb; omega)
          by_cases hle : l.wt.length + sb.length ≤ 256
          · have eL : l.pushed sb = { l with ps := l.ps ++ sb } := by unfold Ls.pushed; rw [if_pos hle]
            have eN : l.pushN sb = l.ps.length := by unfold Ls.pushN; rw [if_pos hle]
            have eE : l.pushE sb = 0 := by unfold Ls.pushE; rw [if_pos hle]
            go_wp2_with ((with_reducible apply wp_store_An _); (exact HAn.out); (rfl); (rfl))
            refine (Push_any HO1.out.at_ HOK.out bv sb HB1.out (by have := HSZ.out; omega)).mono ?_
            rintro e W1 ⟨rfl, hcg⟩
            rw [eN, eE]
            rw [eL] at hcg
            obtain ⟨F2, ho⟩ := HO1.out.chg hcg
            have y2 : W1.cell? ⟨wr.heap.size, 2, none⟩ = some bv := HK2.out _ _ hcg
            have HO4 := Lib.hid ho
            have HB4 : Hid (NumsIn .u8 W1 bv sb) := HKB.out _ _ hcg
            have HAO : Hid (l.ps.length + sb.length ≤ 1000000) := by have := HSZ.out; show _ ≤ _; omega
            have hqi := ho.qi
            obtain ⟨ai0, ci0, rfl, hci0⟩ := hqi.shape
            clear p1 p2 p3 p4 p5 p6 x0 x1 x2 x3 x4 x5 HAn hcg HB1 eN eE ho hqi hci0
            go_wp2_with fail
            refine (num_any _ _).mono ?_
            rintro e w' ⟨rfl, rfl⟩
            go_wp2_with (at_builtin; refine wp_append_q rfl _ _ rfl rfl rfl HO4.out.qi HB4.out HAO.out ?_)
            intro v' W2 hq1 ht hn
            have HO2 : Hid (Od w { l with ps := l.ps ++ sb } ({ l with ps := l.ps ++ sb } : Ls).ps (({ l with ps := l.ps ++ sb } : Ls).ps.take ({ l with ps := l.ps ++ sb } : Ls).tk) v' ov F2 W2) := by
              have h := HO4.out.appI hq1 ht hn
              show Od w { l with ps := l.ps ++ sb } (l.ps ++ sb) ((l.ps ++ sb).take l.tk) v' ov F2 W2
              rw [List.take_append_of_le_length HOK.out.tk]
              exact h
            have HT2 : Hid (plL (xs.take (k + 1)) = { l with ps := l.ps ++ sb }) := HT.out.trans ((show l.act ⟨1, sln, sb, sy, sx, sup⟩ = l.pushed sb from rfl).trans eL)
            have HOK3 : Hid ({ l with ps := l.ps ++ sb } : Ls).Ok := by have := HOK2.out; rw [(show l.act ⟨1, sln, sb, sy, sx, sup⟩ = l.pushed sb from rfl).trans eL] at this; exact this
            clear y2 hq1 ht hn HO4 HB4 HAO HO1 HT HOK2 eL
            have hps2 : ({ l with ps := l.ps ++ sb } : Ls).ps.length ≤ 10000 := by have := HSZ.out; show (l.ps ++ sb).length ≤ _; rw [List.length_append]; omega
            generalize ({ l with ps := l.ps ++ sb } : Ls) = l2 at HT2 HO2 HOK3 hps2
            have HPS := Lib.hid hps2
            have HM : Hid (l2.wt.length ≤ 1000000) := by have := HOK3.out.wt_len; show _ ≤ _; omega
            have hol : (l2.ps.take l2.tk).length + l2.wt.length = l2.ps.length := by have := HOK3.out.wt_len; have := HOK3.out.tk; simp; omega
            have hstr := str_order (l := l2)
            have HOr : Hid (∀ W, Od w l2 l2.ps (l2.ps.take l2.tk) v' ov F2 W → Or w l2 v' ov W) := fun W h => ⟨F2, h⟩
            generalize l2.ps.take l2.tk = out at HO2 hol hstr HOr
            have HSTR := Lib.hid hstr
            have HSUB := Lib.hid (wrap_sub hol (by omega))
            have HSL : Hid (out.length + l2.wt.length ≤ 1000000) := by show _ ≤ _; omega
            obtain ⟨ai, ci, rfl, hci⟩ := HO2.out.qi.shape
            obtain ⟨ao, co, rfl, hco⟩ := HO2.out.qo.shape
            clear hstr hol hps2 hci hco
            go_wp2
            have hK0 := od_held (HO2.out.after (Below.refl _ _).drew)
            refine wp_region_held_drew (S := _) (by kernel_rfl) hK0 (fun _ => ?_)
            have hS := hK0
            refine take_d (i := 0) (d := some 96) (v := ?_) rfl rfl (by kernel_rfl) (by kernel_rfl) (by kernel_rfl) (fun _ _ _ h => h) (.inl ⟨by rfl, ?_⟩) hS ?_
            rotate_left
            · intro W hW
              go_simp
              try with_reducible rfl
            try simp only [Act.put, List.setIfInBounds_toArray, List.set_cons_zero, List.set_cons_succ]
            refine take_d (i := 1) (d := some 97) (v := .string (strOfNums out)) rfl rfl (by kernel_rfl) (by kernel_rfl) (by kernel_rfl) (fun _ _ _ h => h) (y_conv (by kernel_rfl) rfl rfl (fun W hW => hW.i.qo.nums)) hS ?_
            try simp only [Act.put, List.setIfInBounds_toArray, List.set_cons_zero, List.set_cons_succ]
            refine take_d (i := 2) (d := some 98) (v := ?_) rfl rfl (by kernel_rfl) (by kernel_rfl) (by kernel_rfl) (fun _ _ _ h => h) (.inl ⟨by rfl, ?_⟩) hS ?_
            rotate_left
            · intro W hW
              go_simp
              try with_reducible rfl
            try simp only [Act.put, List.setIfInBounds_toArray, List.set_cons_zero, List.set_cons_succ]
            refine take_d (i := 6) (d := some 102) (v := ?_) rfl rfl (by kernel_rfl) (by kernel_rfl) (by kernel_rfl) (fun _ _ _ h => h) (.inl ⟨by rfl, ?_⟩) hS ?_
            rotate_left
            · intro W hW
              go_simp
              try with_reducible rfl
            try simp only [Act.put, List.setIfInBounds_toArray, List.set_cons_zero, List.set_cons_succ]
            refine take_d (i := 7) (d := some 103) (v := .string (strOfNums l2.ps)) rfl rfl (by kernel_rfl) (by kernel_rfl) (by kernel_rfl) (fun _ _ _ h => h) (y_conv (by kernel_rfl) rfl rfl (fun W hW => hW.i.qi.nums)) hS ?_
            try simp only [Act.put, List.setIfInBounds_toArray, List.set_cons_zero, List.set_cons_succ]
            refine wpAnyH_all (rs := [3]) (by kernel_rfl) (by simp) (fun i hi => ?_)
            simp only [List.mem_cons, List.not_mem_nil, or_false] at hi
            subst hi
            refine .inl ?_
            go_simp
            refine (Queue_any hS.i.at_ HM.out).mono ?_
            rintro e wc ⟨v1, rfl, hM⟩
            have hS2 := (hS.after hM.below).cons hM.q.nums
            refine ⟨hS.after hM.below, ?_⟩
            refine anyH_heldG hS2 ?_
            have hS := hS2
            clear hS2 hM
            try simp only [Act.put, List.setIfInBounds_toArray, List.set_cons_zero, List.set_cons_succ]
            refine take_d (i := 4) (d := some 100) (v := .string (strOfNums l2.wt)) rfl rfl (by kernel_rfl) (by kernel_rfl) (by kernel_rfl) (fun _ _ _ h => h) (y_conv (by kernel_rfl) rfl rfl (fun W hW => hW.get v1 l2.wt (by simp))) hS ?_
            try simp only [Act.put, List.setIfInBounds_toArray, List.set_cons_zero, List.set_cons_succ]
            refine take_d (i := 5) (d := some 101) (v := .string (strOfNums l2.ps)) rfl rfl (by kernel_rfl) (by kernel_rfl) (by kernel_rfl) (fun _ _ _ h => h) (.inl ⟨by rfl, fun W hW => by have q := HSTR.out; go_simp; rw [strOfNums_size, strOfNums_size]; have := HSL.out; omega⟩) hS ?_
            try simp only [Act.put, List.setIfInBounds_toArray, List.set_cons_zero, List.set_cons_succ]
            refine take_d (i := 8) (d := some 104) (v := ?_) rfl rfl (by kernel_rfl) (by kernel_rfl) (by kernel_rfl) (fun _ _ _ h => h) (.inl ⟨by rfl, ?_⟩) hS ?_
            rotate_left
            · intro W hW
              go_simp
              try with_reducible rfl
            try simp only [Act.put, List.setIfInBounds_toArray, List.set_cons_zero, List.set_cons_succ]
            refine take_d (i := 9) (d := some 105) (v := ?_) rfl rfl (by kernel_rfl) (by kernel_rfl) (by kernel_rfl) (fun _ _ _ h => h) (.inl ⟨by rfl, ?_⟩) hS ?_
            rotate_left
            · intro W hW
              go_simp
              try with_reducible rfl
            try simp only [Act.put, List.setIfInBounds_toArray, List.set_cons_zero, List.set_cons_succ]
            refine take_d (i := 10) (d := some 106) (v := ?_) rfl rfl (by kernel_rfl) (by kernel_rfl) (by kernel_rfl) (fun _ _ _ h => h) (.inl ⟨by rfl, ?_⟩) hS ?_
            rotate_left
            · intro W hW
              go_simp
              try with_reducible rfl
            try simp only [Act.put, List.setIfInBounds_toArray, List.set_cons_zero, List.set_cons_succ]
            refine take_d (i := 12) (d := some 108) (v := ?_) rfl rfl (by kernel_rfl) (by kernel_rfl) (by kernel_rfl) (fun _ _ _ h => h) (.inl ⟨by rfl, ?_⟩) hS ?_
            rotate_left
            · intro W hW
              go_simp
              try with_reducible rfl
            try simp only [Act.put, List.setIfInBounds_toArray, List.set_cons_zero, List.set_cons_succ]
            refine take_d (i := 13) (d := some 109) (v := ?_) rfl rfl (by kernel_rfl) (by kernel_rfl) (by kernel_rfl) (fun _ _ _ h => h) (.inl ⟨by rfl, ?_⟩) hS ?_
            rotate_left
            · intro W hW
              go_simp
              try with_reducible rfl
            try simp only [Act.put, List.setIfInBounds_toArray, List.set_cons_zero, List.set_cons_succ]
            refine take_d (i := 14) (d := some 110) (v := ?_) rfl rfl (by kernel_rfl) (by kernel_rfl) (by kernel_rfl) (fun _ _ _ h => h) (.inl ⟨by rfl, ?_⟩) hS ?_
            rotate_left
            · intro W hW
              go_simp
              try with_reducible rfl
            try simp only [Act.put, List.setIfInBounds_toArray, List.set_cons_zero, List.set_cons_succ]
            refine take_d (i := 15) (d := some 111) (v := ?_) rfl rfl (by kernel_rfl) (by kernel_rfl) (by kernel_rfl) (fun _ _ _ h => h) (.inl ⟨by rfl, ?_⟩) hS ?_
            rotate_left
            · intro W hW
              go_simp
              try with_reducible rfl
            try simp only [Act.put, List.setIfInBounds_toArray, List.set_cons_zero, List.set_cons_succ]
            refine take_d (i := 16) (d := some 112) (v := .int .i64 (l2.wt.length : Int)) rfl rfl (by kernel_rfl) (by kernel_rfl) (by kernel_rfl) (fun _ _ _ h => h) (.inl ⟨by rfl, fun W hW => by have q := HSUB.out; go_simp⟩) hS ?_
            try simp only [Act.put, List.setIfInBounds_toArray, List.set_cons_zero, List.set_cons_succ]
            refine wpAnyH_all (rs := [11]) (by kernel_rfl) (by simp) (fun i hi => ?_)
            simp only [List.mem_cons, List.not_mem_nil, or_false] at hi
            subst hi
            refine .inl ?_
            go_simp
            refine (Waits_any hS.i.at_).mono ?_
            rintro e wc ⟨rfl, rfl⟩
            refine ⟨hS, ?_⟩
            try simp only [Act.put, List.setIfInBounds_toArray, List.set_cons_zero, List.set_cons_succ]
            refine take_d (i := 17) (d := some 113) (v := ?_) rfl rfl (by kernel_rfl) (by kernel_rfl) (by kernel_rfl) (fun _ _ _ h => h) (.inl ⟨by rfl, ?_⟩) hS ?_
            rotate_left
            · intro W hW
              go_simp
              try with_reducible rfl
            try simp only [Act.put, List.setIfInBounds_toArray, List.set_cons_zero, List.set_cons_succ]
            refine take_d (i := 18) (d := some 114) (v := ?_) rfl rfl (by kernel_rfl) (by kernel_rfl) (by kernel_rfl) (fun _ _ _ h => h) (.inl ⟨by rfl, ?_⟩) hS ?_
            rotate_left
            · intro W hW
              go_simp
              try with_reducible rfl
            try simp only [Act.put, List.setIfInBounds_toArray, List.set_cons_zero, List.set_cons_succ]
            refine wpAnyH_done (by kernel_rfl) ?_ _
            have HO3 := Lib.hid hS.i
            clear hS hK0 HO2
            go_wp2
            go_roundw
            case rel => exact ⟨k + 1, _, _, by omega, rfl, rfl, by go_num, by rw [HT2.out]; exact HOr.out _ HO3.out⟩
            case measure => simp [intOf]; omega
          · have eL : l.pushed sb = l := by unfold Ls.pushed; rw [if_neg hle]
            have eN : l.pushN sb = 0 := by unfold Ls.pushN; rw [if_neg hle]
            have eE : l.pushE sb = 3 := by unfold Ls.pushE; rw [if_neg hle]
            go_wp2_with ((with_reducible apply wp_store_An _); (exact HAn.out); (rfl); (rfl))
            refine (Push_any HO1.out.at_ HOK.out bv sb HB1.out (by have := HSZ.out; omega)).mono ?_
            rintro e W1 ⟨rfl, hcg⟩
            rw [eN, eE]
            rw [eL] at hcg
            obtain ⟨F2, ho⟩ := HO1.out.chg hcg
            have HO2 := Lib.hid ho
            have HT2 : Hid (plL (xs.take (k + 1)) = l) := HT.out.trans ((show l.act ⟨1, sln, sb, sy, sx, sup⟩ = l.pushed sb from rfl).trans eL)
            have HOK3 := Lib.hid HOK.out
            clear p1 p2 p3 p4 p5 p6 x0 x1 x2 x3 x4 x5 HAn hcg HB1 eN eE ho HO1 HT HOK2 eL
            go_wp2_with fail
            refine (num_any _ _).mono ?_
            rintro e w' ⟨rfl, rfl⟩
            have hps2 : l.ps.length ≤ 10000 := by have := HSZ.out; omega
            generalize l = l2 at HT2 HO2 HOK3 hps2
            have HPS := Lib.hid hps2
            have HM : Hid (l2.wt.length ≤ 1000000) := by have := HOK3.out.wt_len; show _ ≤ _; omega
            have hol : (l2.ps.take l2.tk).length + l2.wt.length = l2.ps.length := by have := HOK3.out.wt_len; have := HOK3.out.tk; simp; omega
            have hstr := str_order (l := l2)
            have HOr : Hid (∀ W, Od w l2 l2.ps (l2.ps.take l2.tk) iv ov F2 W → Or w l2 iv ov W) := fun W h => ⟨F2, h⟩
            generalize l2.ps.take l2.tk = out at HO2 hol hstr HOr
            have HSTR := Lib.hid hstr
            have HSUB := Lib.hid (wrap_sub hol (by omega))
            have HSL : Hid (out.length + l2.wt.length ≤ 1000000) := by show _ ≤ _; omega
            obtain ⟨ai, ci, rfl, hci⟩ := HO2.out.qi.shape
            obtain ⟨ao, co, rfl, hco⟩ := HO2.out.qo.shape
            clear hstr hol hps2 hci hco
            go_wp2
            have hK0 := od_held (HO2.out.after (Below.refl _ _).drew)
            refine wp_region_held_drew (S := _) (by kernel_rfl) hK0 (fun _ => ?_)
            have hS := hK0
            refine take_d (i := 0) (d := some 96) (v := ?_) rfl rfl (by kernel_rfl) (by kernel_rfl) (by kernel_rfl) (fun _ _ _ h => h) (.inl ⟨by rfl, ?_⟩) hS ?_
            rotate_left
            · intro W hW
              go_simp
              try with_reducible rfl
            try simp only [Act.put, List.setIfInBounds_toArray, List.set_cons_zero, List.set_cons_succ]
            refine take_d (i := 1) (d := some 97) (v := .string (strOfNums out)) rfl rfl (by kernel_rfl) (by kernel_rfl) (by kernel_rfl) (fun _ _ _ h => h) (y_conv (by kernel_rfl) rfl rfl (fun W hW => hW.i.qo.nums)) hS ?_
            try simp only [Act.put, List.setIfInBounds_toArray, List.set_cons_zero, List.set_cons_succ]
            refine take_d (i := 2) (d := some 98) (v := ?_) rfl rfl (by kernel_rfl) (by kernel_rfl) (by kernel_rfl) (fun _ _ _ h => h) (.inl ⟨by rfl, ?_⟩) hS ?_
            rotate_left
            · intro W hW
              go_simp
              try with_reducible rfl
            try simp only [Act.put, List.setIfInBounds_toArray, List.set_cons_zero, List.set_cons_succ]
            refine take_d (i := 6) (d := some 102) (v := ?_) rfl rfl (by kernel_rfl) (by kernel_rfl) (by kernel_rfl) (fun _ _ _ h => h) (.inl ⟨by rfl, ?_⟩) hS ?_
            rotate_left
            · intro W hW
              go_simp
              try with_reducible rfl
            try simp only [Act.put, List.setIfInBounds_toArray, List.set_cons_zero, List.set_cons_succ]
            refine take_d (i := 7) (d := some 103) (v := .string (strOfNums l2.ps)) rfl rfl (by kernel_rfl) (by kernel_rfl) (by kernel_rfl) (fun _ _ _ h => h) (y_conv (by kernel_rfl) rfl rfl (fun W hW => hW.i.qi.nums)) hS ?_
            try simp only [Act.put, List.setIfInBounds_toArray, List.set_cons_zero, List.set_cons_succ]
            refine wpAnyH_all (rs := [3]) (by kernel_rfl) (by simp) (fun i hi => ?_)
            simp only [List.mem_cons, List.not_mem_nil, or_false] at hi
            subst hi
            refine .inl ?_
            go_simp
            refine (Queue_any hS.i.at_ HM.out).mono ?_
            rintro e wc ⟨v1, rfl, hM⟩
            have hS2 := (hS.after hM.below).cons hM.q.nums
            refine ⟨hS.after hM.below, ?_⟩
            refine anyH_heldG hS2 ?_
            have hS := hS2
            clear hS2 hM
            try simp only [Act.put, List.setIfInBounds_toArray, List.set_cons_zero, List.set_cons_succ]
            refine take_d (i := 4) (d := some 100) (v := .string (strOfNums l2.wt)) rfl rfl (by kernel_rfl) (by kernel_rfl) (by kernel_rfl) (fun _ _ _ h => h) (y_conv (by kernel_rfl) rfl rfl (fun W hW => hW.get v1 l2.wt (by simp))) hS ?_
            try simp only [Act.put, List.setIfInBounds_toArray, List.set_cons_zero, List.set_cons_succ]
            refine take_d (i := 5) (d := some 101) (v := .string (strOfNums l2.ps)) rfl rfl (by kernel_rfl) (by kernel_rfl) (by kernel_rfl) (fun _ _ _ h => h) (.inl ⟨by rfl, fun W hW => by have q := HSTR.out; go_simp; rw [strOfNums_size, strOfNums_size]; have := HSL.out; omega⟩) hS ?_
            try simp only [Act.put, List.setIfInBounds_toArray, List.set_cons_zero, List.set_cons_succ]
            refine take_d (i := 8) (d := some 104) (v := ?_) rfl rfl (by kernel_rfl) (by kernel_rfl) (by kernel_rfl) (fun _ _ _ h => h) (.inl ⟨by rfl, ?_⟩) hS ?_
            rotate_left
            · intro W hW
              go_simp
              try with_reducible rfl
            try simp only [Act.put, List.setIfInBounds_toArray, List.set_cons_zero, List.set_cons_succ]
            refine take_d (i := 9) (d := some 105) (v := ?_) rfl rfl (by kernel_rfl) (by kernel_rfl) (by kernel_rfl) (fun _ _ _ h => h) (.inl ⟨by rfl, ?_⟩) hS ?_
            rotate_left
            · intro W hW
              go_simp
              try with_reducible rfl
            try simp only [Act.put, List.setIfInBounds_toArray, List.set_cons_zero, List.set_cons_succ]
            refine take_d (i := 10) (d := some 106) (v := ?_) rfl rfl (by kernel_rfl) (by kernel_rfl) (by kernel_rfl) (fun _ _ _ h => h) (.inl ⟨by rfl, ?_⟩) hS ?_
            rotate_left
            · intro W hW
              go_simp
              try with_reducible rfl
            try simp only [Act.put, List.setIfInBounds_toArray, List.set_cons_zero, List.set_cons_succ]
            refine take_d (i := 12) (d := some 108) (v := ?_) rfl rfl (by kernel_rfl) (by kernel_rfl) (by kernel_rfl) (fun _ _ _ h => h) (.inl ⟨by rfl, ?_⟩) hS ?_
            rotate_left
            · intro W hW
              go_simp
              try with_reducible rfl
            try simp only [Act.put, List.setIfInBounds_toArray, List.set_cons_zero, List.set_cons_succ]
            refine take_d (i := 13) (d := some 109) (v := ?_) rfl rfl (by kernel_rfl) (by kernel_rfl) (by kernel_rfl) (fun _ _ _ h => h) (.inl ⟨by rfl, ?_⟩) hS ?_
            rotate_left
            · intro W hW
              go_simp
              try with_reducible rfl
            try simp only [Act.put, List.setIfInBounds_toArray, List.set_cons_zero, List.set_cons_succ]
            refine take_d (i := 14) (d := some 110) (v := ?_) rfl rfl (by kernel_rfl) (by kernel_rfl) (by kernel_rfl) (fun _ _ _ h => h) (.inl ⟨by rfl, ?_⟩) hS ?_
            rotate_left
            · intro W hW
              go_simp
              try with_reducible rfl
            try simp only [Act.put, List.setIfInBounds_toArray, List.set_cons_zero, List.set_cons_succ]
            refine take_d (i := 15) (d := some 111) (v := ?_) rfl rfl (by kernel_rfl) (by kernel_rfl) (by kernel_rfl) (fun _ _ _ h => h) (.inl ⟨by rfl, ?_⟩) hS ?_
            rotate_left
            · intro W hW
              go_simp
              try with_reducible rfl
            try simp only [Act.put, List.setIfInBounds_toArray, List.set_cons_zero, List.set_cons_succ]
            refine take_d (i := 16) (d := some 112) (v := .int .i64 (l2.wt.length : Int)) rfl rfl (by kernel_rfl) (by kernel_rfl) (by kernel_rfl) (fun _ _ _ h => h) (.inl ⟨by rfl, fun W hW => by have q := HSUB.out; go_simp⟩) hS ?_
            try simp only [Act.put, List.setIfInBounds_toArray, List.set_cons_zero, List.set_cons_succ]
            refine wpAnyH_all (rs := [11]) (by kernel_rfl) (by simp) (fun i hi => ?_)
            simp only [List.mem_cons, List.not_mem_nil, or_false] at hi
            subst hi
            refine .inl ?_
            go_simp
            refine (Waits_any hS.i.at_).mono ?_
            rintro e wc ⟨rfl, rfl⟩
            refine ⟨hS, ?_⟩
            try simp only [Act.put, List.setIfInBounds_toArray, List.set_cons_zero, List.set_cons_succ]
            refine take_d (i := 17) (d := some 113) (v := ?_) rfl rfl (by kernel_rfl) (by kernel_rfl) (by kernel_rfl) (fun _ _ _ h => h) (.inl ⟨by rfl, ?_⟩) hS ?_
            rotate_left
            · intro W hW
              go_simp
              try with_reducible rfl
            try simp only [Act.put, List.setIfInBounds_toArray, List.set_cons_zero, List.set_cons_succ]
            refine take_d (i := 18) (d := some 114) (v := ?_) rfl rfl (by kernel_rfl) (by kernel_rfl) (by kernel_rfl) (fun _ _ _ h => h) (.inl ⟨by rfl, ?_⟩) hS ?_
            rotate_left
            · intro W hW
              go_simp
              try with_reducible rfl
            try simp only [Act.put, List.setIfInBounds_toArray, List.set_cons_zero, List.set_cons_succ]
            refine wpAnyH_done (by kernel_rfl) ?_ _
            have HO3 := Lib.hid hS.i
            clear hS hK0 HO2
            go_wp2
            go_roundw
            case rel => exact ⟨k + 1, _, _, by omega, rfl, rfl, by go_num, by rw [HT2.out]; exact HOr.out _ HO3.out⟩
            case measure => simp [intOf]; omega
        by_cases k2 : sk = 2
        · subst k2
          by_cases hle : l.tk < l.ps.length
          · have eL : l.took = { l with tk := l.tk + 1 } := by unfold Ls.took; rw [if_pos hle]
            have eN : l.takeN = l.tk := by unfold Ls.takeN; rw [if_pos hle]
            have eB : l.takeB = at0 l.ps l.tk := by unfold Ls.takeB; rw [if_pos hle]
            have eE : l.takeY = true := by unfold Ls.takeY; simp [hle]
            go_wp2_with ((with_reducible apply wp_store_An _); (exact HAn.out); (rfl); (rfl))
            refine (Take_any HO1.out.at_ HOK.out (by have := HSZ.out; omega)).mono ?_
            rintro e W1 ⟨rfl, hcg⟩
            rw [eN, eE, eB]
            rw [eL] at hcg
            obtain ⟨F2, ho⟩ := HO1.out.chg hcg
            have hby : Byt [at0 l.ps l.tk] := by intro x hx; simp at hx; subst hx; exact ho.qi.byt _ (List.mem_of_getElem? (at0_lt hle))
            have htl : (l.ps.take l.tk).length = l.tk := by simp; omega
            have HO4 := Lib.hid (ho.after ((Below.refl W1.heap.size W1).alloc (Nat.le_refl _) (.cells #[.int .u8 (at0 l.ps l.tk)] 5)))
            have HB4 := Lib.hid (Qs.lit W1 hby (by simp [maxLen])).nums
            have HAO : Hid ((l.ps.take l.tk).length + [at0 l.ps l.tk].length ≤ 1000000) := by have := HSZ.out; rw [htl]; show l.tk + 1 ≤ _; omega
            obtain ⟨ao0, co0, rfl, hco0⟩ := HO4.out.qo.shape
            rw [htl] at HO4 ⊢
            clear p1 p2 p3 p4 p5 p6 x0 x1 x2 x3 x4 x5 HAn hcg HB1 eN eE eB ho hco0 hby
            go_wp2_with (at_builtin; refine wp_append_q rfl _ _ rfl rfl rfl HO4.out.qo HB4.out HAO.out ?_)
            intro v' W2 hq1 ht hn
            have HO2 : Hid (Od w { l with tk := l.tk + 1 } ({ l with tk := l.tk + 1 } : Ls).ps (({ l with tk := l.tk + 1 } : Ls).ps.take ({ l with tk := l.tk + 1 } : Ls).tk) iv v' F2 W2) := by
              have h := HO4.out.appO hq1 ht (fun k hk => by rw [World.size_alloc]; exact hn k hk)
              show Od w { l with tk := l.tk + 1 } l.ps (l.ps.take (l.tk + 1)) iv v' F2 W2
              rw [take_snoc (at0_lt hle)]
              exact h
            have HT2 : Hid (plL (xs.take (k + 1)) = { l with tk := l.tk + 1 }) := HT.out.trans ((show l.act ⟨2, sln, sb, sy, sx, sup⟩ = l.took from rfl).trans eL)
            have HOK3 : Hid ({ l with tk := l.tk + 1 } : Ls).Ok := by have := HOK2.out; rw [(show l.act ⟨2, sln, sb, sy, sx, sup⟩ = l.took from rfl).trans eL] at this; exact this
            clear hq1 ht hn HO4 HB4 HAO HO1 HT HOK2 eL htl
            have hps2 : ({ l with tk := l.tk + 1 } : Ls).ps.length ≤ 10000 := by have := HSZ.out; show l.ps.length ≤ _; omega
            generalize ({ l with tk := l.tk + 1 } : Ls) = l2 at HT2 HO2 HOK3 hps2
            have HPS := Lib.hid hps2
            have HM : Hid (l2.wt.length ≤ 1000000) := by have := HOK3.out.wt_len; show _ ≤ _; omega
            have hol : (l2.ps.take l2.tk).length + l2.wt.length = l2.ps.length := by have := HOK3.out.wt_len; have := HOK3.out.tk; simp; omega
            have hstr := str_order (l := l2)
            have HOr : Hid (∀ W, Od w l2 l2.ps (l2.ps.take l2.tk) iv v' F2 W → Or w l2 iv v' W) := fun W h => ⟨F2, h⟩
            generalize l2.ps.take l2.tk = out at HO2 hol hstr HOr
            have HSTR := Lib.hid hstr
            have HSUB := Lib.hid (wrap_sub hol (by omega))
            have HSL : Hid (out.length + l2.wt.length ≤ 1000000) := by show _ ≤ _; omega
            obtain ⟨ai, ci, rfl, hci⟩ := HO2.out.qi.shape
            obtain ⟨ao, co, rfl, hco⟩ := HO2.out.qo.shape
            clear hstr hol hps2 hci hco
            go_wp2
            have hK0 := od_held (HO2.out.after (Below.refl _ _).drew)
            refine wp_region_held_drew (S := _) (by kernel_rfl) hK0 (fun _ => ?_)
            have hS := hK0
            refine take_d (i := 0) (d := some 96) (v := ?_) rfl rfl (by kernel_rfl) (by kernel_rfl) (by kernel_rfl) (fun _ _ _ h => h) (.inl ⟨by rfl, ?_⟩) hS ?_
            rotate_left
            · intro W hW
              go_simp
              try with_reducible rfl
            try simp only [Act.put, List.setIfInBounds_toArray, List.set_cons_zero, List.set_cons_succ]
            refine take_d (i := 1) (d := some 97) (v := .string (strOfNums out)) rfl rfl (by kernel_rfl) (by kernel_rfl) (by kernel_rfl) (fun _ _ _ h => h) (y_conv (by kernel_rfl) rfl rfl (fun W hW => hW.i.qo.nums)) hS ?_
            try simp only [Act.put, List.setIfInBounds_toArray, List.set_cons_zero, List.set_cons_succ]
            refine take_d (i := 2) (d := some 98) (v := ?_) rfl rfl (by kernel_rfl) (by kernel_rfl) (by kernel_rfl) (fun _ _ _ h => h) (.inl ⟨by rfl, ?_⟩) hS ?_
            rotate_left
            · intro W hW
              go_simp
              try with_reducible rfl
            try simp only [Act.put, List.setIfInBounds_toArray, List.set_cons_zero, List.set_cons_succ]
            refine take_d (i := 6) (d := some 102) (v := ?_) rfl rfl (by kernel_rfl) (by kernel_rfl) (by kernel_rfl) (fun _ _ _ h => h) (.inl ⟨by rfl, ?_⟩) hS ?_
            rotate_left
            · intro W hW
              go_simp
              try with_reducible rfl
            try simp only [Act.put, List.setIfInBounds_toArray, List.set_cons_zero, List.set_cons_succ]
            refine take_d (i := 7) (d := some 103) (v := .string (strOfNums l2.ps)) rfl rfl (by kernel_rfl) (by kernel_rfl) (by kernel_rfl) (fun _ _ _ h => h) (y_conv (by kernel_rfl) rfl rfl (fun W hW => hW.i.qi.nums)) hS ?_
            try simp only [Act.put, List.setIfInBounds_toArray, List.set_cons_zero, List.set_cons_succ]
            refine wpAnyH_all (rs := [3]) (by kernel_rfl) (by simp) (fun i hi => ?_)
            simp only [List.mem_cons, List.not_mem_nil, or_false] at hi
            subst hi
            refine .inl ?_
            go_simp
            refine (Queue_any hS.i.at_ HM.out).mono ?_
            rintro e wc ⟨v1, rfl, hM⟩
            have hS2 := (hS.after hM.below).cons hM.q.nums
            refine ⟨hS.after hM.below, ?_⟩
            refine anyH_heldG hS2 ?_
            have hS := hS2
            clear hS2 hM
            try simp only [Act.put, List.setIfInBounds_toArray, List.set_cons_zero, List.set_cons_succ]
            refine take_d (i := 4) (d := some 100) (v := .string (strOfNums l2.wt)) rfl rfl (by kernel_rfl) (by kernel_rfl) (by kernel_rfl) (fun _ _ _ h => h) (y_conv (by kernel_rfl) rfl rfl (fun W hW => hW.get v1 l2.wt (by simp))) hS ?_
            try simp only [Act.put, List.setIfInBounds_toArray, List.set_cons_zero, List.set_cons_succ]
            refine take_d (i := 5) (d := some 101) (v := .string (strOfNums l2.ps)) rfl rfl (by kernel_rfl) (by kernel_rfl) (by kernel_rfl) (fun _ _ _ h => h) (.inl ⟨by rfl, fun W hW => by have q := HSTR.out; go_simp; rw [strOfNums_size, strOfNums_size]; have := HSL.out; omega⟩) hS ?_
            try simp only [Act.put, List.setIfInBounds_toArray, List.set_cons_zero, List.set_cons_succ]
            refine take_d (i := 8) (d := some 104) (v := ?_) rfl rfl (by kernel_rfl) (by kernel_rfl) (by kernel_rfl) (fun _ _ _ h => h) (.inl ⟨by rfl, ?_⟩) hS ?_
            rotate_left
            · intro W hW
              go_simp
              try with_reducible rfl
            try simp only [Act.put, List.setIfInBounds_toArray, List.set_cons_zero, List.set_cons_succ]
            refine take_d (i := 9) (d := some 105) (v := ?_) rfl rfl (by kernel_rfl) (by kernel_rfl) (by kernel_rfl) (fun _ _ _ h => h) (.inl ⟨by rfl, ?_⟩) hS ?_
            rotate_left
            · intro W hW
              go_simp
              try with_reducible rfl
            try simp only [Act.put, List.setIfInBounds_toArray, List.set_cons_zero, List.set_cons_succ]
            refine take_d (i := 10) (d := some 106) (v := ?_) rfl rfl (by kernel_rfl) (by kernel_rfl) (by kernel_rfl) (fun _ _ _ h => h) (.inl ⟨by rfl, ?_⟩) hS ?_
            rotate_left
            · intro W hW
              go_simp
              try with_reducible rfl
            try simp only [Act.put, List.setIfInBounds_toArray, List.set_cons_zero, List.set_cons_succ]
            refine take_d (i := 12) (d := some 108) (v := ?_) rfl rfl (by kernel_rfl) (by kernel_rfl) (by kernel_rfl) (fun _ _ _ h => h) (.inl ⟨by rfl, ?_⟩) hS ?_
            rotate_left
            · intro W hW
              go_simp
              try with_reducible rfl
            try simp only [Act.put, List.setIfInBounds_toArray, List.set_cons_zero, List.set_cons_succ]
            refine take_d (i := 13) (d := some 109) (v := ?_) rfl rfl (by kernel_rfl) (by kernel_rfl) (by kernel_rfl) (fun _ _ _ h => h) (.inl ⟨by rfl, ?_⟩) hS ?_
            rotate_left
            · intro W hW
              go_simp
              try with_reducible rfl
            try simp only [Act.put, List.setIfInBounds_toArray, List.set_cons_zero, List.set_cons_succ]
            refine take_d (i := 14) (d := some 110) (v := ?_) rfl rfl (by kernel_rfl) (by kernel_rfl) (by kernel_rfl) (fun _ _ _ h => h) (.inl ⟨by rfl, ?_⟩) hS ?_
            rotate_left
            · intro W hW
              go_simp
              try with_reducible rfl
            try simp only [Act.put, List.setIfInBounds_toArray, List.set_cons_zero, List.set_cons_succ]
            refine take_d (i := 15) (d := some 111) (v := ?_) rfl rfl (by kernel_rfl) (by kernel_rfl) (by kernel_rfl) (fun _ _ _ h => h) (.inl ⟨by rfl, ?_⟩) hS ?_
            rotate_left
            · intro W hW
              go_simp
              try with_reducible rfl
            try simp only [Act.put, List.setIfInBounds_toArray, List.set_cons_zero, List.set_cons_succ]
            refine take_d (i := 16) (d := some 112) (v := .int .i64 (l2.wt.length : Int)) rfl rfl (by kernel_rfl) (by kernel_rfl) (by kernel_rfl) (fun _ _ _ h => h) (.inl ⟨by rfl, fun W hW => by have q := HSUB.out; go_simp⟩) hS ?_
            try simp only [Act.put, List.setIfInBounds_toArray, List.set_cons_zero, List.set_cons_succ]
            refine wpAnyH_all (rs := [11]) (by kernel_rfl) (by simp) (fun i hi => ?_)
            simp only [List.mem_cons, List.not_mem_nil, or_false] at hi
            subst hi
            refine .inl ?_
            go_simp
            refine (Waits_any hS.i.at_).mono ?_
            rintro e wc ⟨rfl, rfl⟩
            refine ⟨hS, ?_⟩
            try simp only [Act.put, List.setIfInBounds_toArray, List.set_cons_zero, List.set_cons_succ]
            refine take_d (i := 17) (d := some 113) (v := ?_) rfl rfl (by kernel_rfl) (by kernel_rfl) (by kernel_rfl) (fun _ _ _ h => h) (.inl ⟨by rfl, ?_⟩) hS ?_
            rotate_left
            · intro W hW
              go_simp
              try with_reducible rfl
            try simp only [Act.put, List.setIfInBounds_toArray, List.set_cons_zero, List.set_cons_succ]
            refine take_d (i := 18) (d := some 114) (v := ?_) rfl rfl (by kernel_rfl) (by kernel_rfl) (by kernel_rfl) (fun _ _ _ h => h) (.inl ⟨by rfl, ?_⟩) hS ?_
            rotate_left
            · intro W hW
              go_simp
              try with_reducible rfl
            try simp only [Act.put, List.setIfInBounds_toArray, List.set_cons_zero, List.set_cons_succ]
            refine wpAnyH_done (by kernel_rfl) ?_ _
            have HO3 := Lib.hid hS.i
            clear hS hK0 HO2
            go_wp2
            go_roundw
            case rel => exact ⟨k + 1, _, _, by omega, rfl, rfl, by go_num, by rw [HT2.out]; exact HOr.out _ HO3.out⟩
            case measure => simp [intOf]; omega
          · have eL : l.took = l := by unfold Ls.took; rw [if_neg hle]
            have eN : l.takeN = 0 := by unfold Ls.takeN; rw [if_neg hle]
            have eB : l.takeB = 0 := by unfold Ls.takeB; rw [if_neg hle]
            have eE : l.takeY = false := by unfold Ls.takeY; simp [hle]
            go_wp2_with ((with_reducible apply wp_store_An _); (exact HAn.out); (rfl); (rfl))
            refine (Take_any HO1.out.at_ HOK.out (by have := HSZ.out; omega)).mono ?_
            rintro e W1 ⟨rfl, hcg⟩
            rw [eN, eE, eB]
            rw [eL] at hcg
            obtain ⟨F2, ho⟩ := HO1.out.chg hcg
            have HO2 := Lib.hid ho
            have HT2 : Hid (plL (xs.take (k + 1)) = l) := HT.out.trans ((show l.act ⟨2, sln, sb, sy, sx, sup⟩ = l.took from rfl).trans eL)
            have HOK3 := Lib.hid HOK.out
            clear p1 p2 p3 p4 p5 p6 x0 x1 x2 x3 x4 x5 HAn hcg HB1 eN eE eB ho HO1 HT HOK2 eL
            have hps2 : l.ps.length ≤ 10000 := by have := HSZ.out; omega
            generalize l = l2 at HT2 HO2 HOK3 hps2
            have HPS := Lib.hid hps2
            have HM : Hid (l2.wt.length ≤ 1000000) := by have := HOK3.out.wt_len; show _ ≤ _; omega
            have hol : (l2.ps.take l2.tk).length + l2.wt.length = l2.ps.length := by have := HOK3.out.wt_len; have := HOK3.out.tk; simp; omega
            have hstr := str_order (l := l2)
            have HOr : Hid (∀ W, Od w l2 l2.ps (l2.ps.take l2.tk) iv ov F2 W → Or w l2 iv ov W) := fun W h => ⟨F2, h⟩
            generalize l2.ps.take l2.tk = out at HO2 hol hstr HOr
            have HSTR := Lib.hid hstr
            have HSUB := Lib.hid (wrap_sub hol (by omega))
            have HSL : Hid (out.length + l2.wt.length ≤ 1000000) := by show _ ≤ _; omega
            obtain ⟨ai, ci, rfl, hci⟩ := HO2.out.qi.shape
            obtain ⟨ao, co, rfl, hco⟩ := HO2.out.qo.shape
            clear hstr hol hps2 hci hco
            go_wp2
            have hK0 := od_held (HO2.out.after (Below.refl _ _).drew)
            refine wp_region_held_drew (S := _) (by kernel_rfl) hK0 (fun _ => ?_)
            have hS := hK0
            refine take_d (i := 0) (d := some 96) (v := ?_) rfl rfl (by kernel_rfl) (by kernel_rfl) (by kernel_rfl) (fun _ _ _ h => h) (.inl ⟨by rfl, ?_⟩) hS ?_
            rotate_left
            · intro W hW
              go_simp
              try with_reducible rfl
            try simp only [Act.put, List.setIfInBounds_toArray, List.set_cons_zero, List.set_cons_succ]
            refine take_d (i := 1) (d := some 97) (v := .string (strOfNums out)) rfl rfl (by kernel_rfl) (by kernel_rfl) (by kernel_rfl) (fun _ _ _ h => h) (y_conv (by kernel_rfl) rfl rfl (fun W hW => hW.i.qo.nums)) hS ?_
            try simp only [Act.put, List.setIfInBounds_toArray, List.set_cons_zero, List.set_cons_succ]
            refine take_d (i := 2) (d := some 98) (v := ?_) rfl rfl (by kernel_rfl) (by kernel_rfl) (by kernel_rfl) (fun _ _ _ h => h) (.inl ⟨by rfl, ?_⟩) hS ?_
            rotate_left
            · intro W hW
              go_simp
              try with_reducible rfl
            try simp only [Act.put, List.setIfInBounds_toArray, List.set_cons_zero, List.set_cons_succ]
            refine take_d (i := 6) (d := some 102) (v := ?_) rfl rfl (by kernel_rfl) (by kernel_rfl) (by kernel_rfl) (fun _ _ _ h => h) (.inl ⟨by rfl, ?_⟩) hS ?_
            rotate_left
            · intro W hW
              go_simp
              try with_reducible rfl
            try simp only [Act.put, List.setIfInBounds_toArray, List.set_cons_zero, List.set_cons_succ]
            refine take_d (i := 7) (d := some 103) (v := .string (strOfNums l2.ps)) rfl rfl (by kernel_rfl) (by kernel_rfl) (by kernel_rfl) (fun _ _ _ h => h) (y_conv (by kernel_rfl) rfl rfl (fun W hW => hW.i.qi.nums)) hS ?_
            try simp only [Act.put, List.setIfInBounds_toArray, List.set_cons_zero, List.set_cons_succ]
            refine wpAnyH_all (rs := [3]) (by kernel_rfl) (by simp) (fun i hi => ?_)
            simp only [List.mem_cons, List.not_mem_nil, or_false] at hi
            subst hi
            refine .inl ?_
            go_simp
            refine (Queue_any hS.i.at_ HM.out).mono ?_
            rintro e wc ⟨v1, rfl, hM⟩
            have hS2 := (hS.after hM.below).cons hM.q.nums
            refine ⟨hS.after hM.below, ?_⟩
            refine anyH_heldG hS2 ?_
            have hS := hS2
            clear hS2 hM
            try simp only [Act.put, List.setIfInBounds_toArray, List.set_cons_zero, List.set_cons_succ]
            refine take_d (i := 4) (d := some 100) (v := .string (strOfNums l2.wt)) rfl rfl (by kernel_rfl) (by kernel_rfl) (by kernel_rfl) (fun _ _ _ h => h) (y_conv (by kernel_rfl) rfl rfl (fun W hW => hW.get v1 l2.wt (by simp))) hS ?_
            try simp only [Act.put, List.setIfInBounds_toArray, List.set_cons_zero, List.set_cons_succ]
            refine take_d (i := 5) (d := some 101) (v := .string (strOfNums l2.ps)) rfl rfl (by kernel_rfl) (by kernel_rfl) (by kernel_rfl) (fun _ _ _ h => h) (.inl ⟨by rfl, fun W hW => by have q := HSTR.out; go_simp; rw [strOfNums_size, strOfNums_size]; have := HSL.out; omega⟩) hS ?_
            try simp only [Act.put, List.setIfInBounds_toArray, List.set_cons_zero, List.set_cons_succ]
            refine take_d (i := 8) (d := some 104) (v := ?_) rfl rfl (by kernel_rfl) (by kernel_rfl) (by kernel_rfl) (fun _ _ _ h => h) (.inl ⟨by rfl, ?_⟩) hS ?_
            rotate_left
            · intro W hW
              go_simp
              try with_reducible rfl
            try simp only [Act.put, List.setIfInBounds_toArray, List.set_cons_zero, List.set_cons_succ]
            refine take_d (i := 9) (d := some 105) (v := ?_) rfl rfl (by kernel_rfl) (by kernel_rfl) (by kernel_rfl) (fun _ _ _ h => h) (.inl ⟨by rfl, ?_⟩) hS ?_
            rotate_left
            · intro W hW
              go_simp
              try with_reducible rfl
            try simp only [Act.put, List.setIfInBounds_toArray, List.set_cons_zero, List.set_cons_succ]
            refine take_d (i := 10) (d := some 106) (v := ?_) rfl rfl (by kernel_rfl) (by kernel_rfl) (by kernel_rfl) (fun _ _ _ h => h) (.inl ⟨by rfl, ?_⟩) hS ?_
            rotate_left
            · intro W hW
              go_simp
              try with_reducible rfl
            try simp only [Act.put, List.setIfInBounds_toArray, List.set_cons_zero, List.set_cons_succ]
            refine take_d (i := 12) (d := some 108) (v := ?_) rfl rfl (by kernel_rfl) (by kernel_rfl) (by kernel_rfl) (fun _ _ _ h => h) (.inl ⟨by rfl, ?_⟩) hS ?_
            rotate_left
            · intro W hW
              go_simp
              try with_reducible rfl
            try simp only [Act.put, List.setIfInBounds_toArray, List.set_cons_zero, List.set_cons_succ]
            refine take_d (i := 13) (d := some 109) (v := ?_) rfl rfl (by kernel_rfl) (by kernel_rfl) (by kernel_rfl) (fun _ _ _ h => h) (.inl ⟨by rfl, ?_⟩) hS ?_
            rotate_left
            · intro W hW
              go_simp
              try with_reducible rfl
            try simp only [Act.put, List.setIfInBounds_toArray, List.set_cons_zero, List.set_cons_succ]
            refine take_d (i := 14) (d := some 110) (v := ?_) rfl rfl (by kernel_rfl) (by kernel_rfl) (by kernel_rfl) (fun _ _ _ h => h) (.inl ⟨by rfl, ?_⟩) hS ?_
            rotate_left
            · intro W hW
              go_simp
              try with_reducible rfl
            try simp only [Act.put, List.setIfInBounds_toArray, List.set_cons_zero, List.set_cons_succ]
            refine take_d (i := 15) (d := some 111) (v := ?_) rfl rfl (by kernel_rfl) (by kernel_rfl) (by kernel_rfl) (fun _ _ _ h => h) (.inl ⟨by rfl, ?_⟩) hS ?_
            rotate_left
            · intro W hW
              go_simp
              try with_reducible rfl
            try simp only [Act.put, List.setIfInBounds_toArray, List.set_cons_zero, List.set_cons_succ]
            refine take_d (i := 16) (d := some 112) (v := .int .i64 (l2.wt.length : Int)) rfl rfl (by kernel_rfl) (by kernel_rfl) (by kernel_rfl) (fun _ _ _ h => h) (.inl ⟨by rfl, fun W hW => by have q := HSUB.out; go_simp⟩) hS ?_
            try simp only [Act.put, List.setIfInBounds_toArray, List.set_cons_zero, List.set_cons_succ]
            refine wpAnyH_all (rs := [11]) (by kernel_rfl) (by simp) (fun i hi => ?_)
            simp only [List.mem_cons, List.not_mem_nil, or_false] at hi
            subst hi
            refine .inl ?_
            go_simp
            refine (Waits_any hS.i.at_).mono ?_
            rintro e wc ⟨rfl, rfl⟩
            refine ⟨hS, ?_⟩
            try simp only [Act.put, List.setIfInBounds_toArray, List.set_cons_zero, List.set_cons_succ]
            refine take_d (i := 17) (d := some 113) (v := ?_) rfl rfl (by kernel_rfl) (by kernel_rfl) (by kernel_rfl) (fun _ _ _ h => h) (.inl ⟨by rfl, ?_⟩) hS ?_
            rotate_left
            · intro W hW
              go_simp
              try with_reducible rfl
            try simp only [Act.put, List.setIfInBounds_toArray, List.set_cons_zero, List.set_cons_succ]
            refine take_d (i := 18) (d := some 114) (v := ?_) rfl rfl (by kernel_rfl) (by kernel_rfl) (by kernel_rfl) (fun _ _ _ h => h) (.inl ⟨by rfl, ?_⟩) hS ?_
            rotate_left
            · intro W hW
              go_simp
              try with_reducible rfl
            try simp only [Act.put, List.setIfInBounds_toArray, List.set_cons_zero, List.set_cons_succ]
            refine wpAnyH_done (by kernel_rfl) ?_ _
            have HO3 := Lib.hid hS.i
            clear hS hK0 HO2
            go_wp2
            go_roundw
            case rel => exact ⟨k + 1, _, _, by omega, rfl, rfl, by go_num, by rw [HT2.out]; exact HOr.out _ HO3.out⟩
            case measure => simp [intOf]; omega
        by_cases k3 : sk = 3
        · subst k3
          go_wp2_with ((with_reducible apply wp_store_An _); (exact HAn.out); (rfl); (rfl))
          refine (Tell_any HO1.out.at_ sy HSO.out.y HTD.out).mono ?_
          rintro e W1 ⟨rfl, hcg⟩
          obtain ⟨F2, ho⟩ := HO1.out.chg hcg
          have HO2 : Hid (Od w ({ l with td := l.td ++ [sy] } : Ls) (({ l with td := l.td ++ [sy] } : Ls)).ps ((({ l with td := l.td ++ [sy] } : Ls)).ps.take (({ l with td := l.td ++ [sy] } : Ls)).tk) iv ov F2 W1) := ho
          have HT2 : Hid (plL (xs.take (k + 1)) = ({ l with td := l.td ++ [sy] } : Ls)) := HT.out.trans rfl
          have HOK3 : Hid (({ l with td := l.td ++ [sy] } : Ls)).Ok := by have := HOK2.out; rw [show l.act ⟨3, sln, sb, sy, sx, sup⟩ = ({ l with td := l.td ++ [sy] } : Ls) from rfl] at this; exact this
          clear p1 p2 p3 p4 p5 p6 x0 x1 x2 x3 x4 x5 HAn ho hcg HO1 HT HOK HOK2 HB1
          have hps2 : (({ l with td := l.td ++ [sy] } : Ls)).ps.length ≤ 10000 := by have := HSZ.out; show l.ps.length ≤ _; omega
          generalize (({ l with td := l.td ++ [sy] } : Ls)) = l2 at HT2 HO2 HOK3 hps2
          have HPS := Lib.hid hps2
          have HM : Hid (l2.wt.length ≤ 1000000) := by have := HOK3.out.wt_len; show _ ≤ _; omega
          have hol : (l2.ps.take l2.tk).length + l2.wt.length = l2.ps.length := by have := HOK3.out.wt_len; have := HOK3.out.tk; simp; omega
          have hstr := str_order (l := l2)
          have HOr : Hid (∀ W, Od w l2 l2.ps (l2.ps.take l2.tk) iv ov F2 W → Or w l2 iv ov W) := fun W h => ⟨F2, h⟩
          generalize l2.ps.take l2.tk = out at HO2 hol hstr HOr
          have HSTR := Lib.hid hstr
          have HSUB := Lib.hid (wrap_sub hol (by omega))
          have HSL : Hid (out.length + l2.wt.length ≤ 1000000) := by show _ ≤ _; omega
          obtain ⟨ai, ci, rfl, hci⟩ := HO2.out.qi.shape
          obtain ⟨ao, co, rfl, hco⟩ := HO2.out.qo.shape
          clear hstr hol hps2 hci hco
          go_wp2
          have hK0 := od_held (HO2.out.after (Below.refl _ _).drew)
          refine wp_region_held_drew (S := _) (by kernel_rfl) hK0 (fun _ => ?_)
          have hS := hK0
          refine take_d (i := 0) (d := some 96) (v := ?_) rfl rfl (by kernel_rfl) (by kernel_rfl) (by kernel_rfl) (fun _ _ _ h => h) (.inl ⟨by rfl, ?_⟩) hS ?_
          rotate_left
          · intro W hW
            go_simp
            try with_reducible rfl
          try simp only [Act.put, List.setIfInBounds_toArray, List.set_cons_zero, List.set_cons_succ]
          refine take_d (i := 1) (d := some 97) (v := .string (strOfNums out)) rfl rfl (by kernel_rfl) (by kernel_rfl) (by kernel_rfl) (fun _ _ _ h => h) (y_conv (by kernel_rfl) rfl rfl (fun W hW => hW.i.qo.nums)) hS ?_
          try simp only [Act.put, List.setIfInBounds_toArray, List.set_cons_zero, List.set_cons_succ]
          refine take_d (i := 2) (d := some 98) (v := ?_) rfl rfl (by kernel_rfl) (by kernel_rfl) (by kernel_rfl) (fun _ _ _ h => h) (.inl ⟨by rfl, ?_⟩) hS ?_
          rotate_left
          · intro W hW
            go_simp
            try with_reducible rfl
          try simp only [Act.put, List.setIfInBounds_toArray, List.set_cons_zero, List.set_cons_succ]
          refine take_d (i := 6) (d := some 102) (v := ?_) rfl rfl (by kernel_rfl) (by kernel_rfl) (by kernel_rfl) (fun _ _ _ h => h) (.inl ⟨by rfl, ?_⟩) hS ?_
          rotate_left
          · intro W hW
            go_simp
            try with_reducible rfl
          try simp only [Act.put, List.setIfInBounds_toArray, List.set_cons_zero, List.set_cons_succ]
          refine take_d (i := 7) (d := some 103) (v := .string (strOfNums l2.ps)) rfl rfl (by kernel_rfl) (by kernel_rfl) (by kernel_rfl) (fun _ _ _ h => h) (y_conv (by kernel_rfl) rfl rfl (fun W hW => hW.i.qi.nums)) hS ?_
          try simp only [Act.put, List.setIfInBounds_toArray, List.set_cons_zero, List.set_cons_succ]
          refine wpAnyH_all (rs := [3]) (by kernel_rfl) (by simp) (fun i hi => ?_)
          simp only [List.mem_cons, List.not_mem_nil, or_false] at hi
          subst hi
          refine .inl ?_
          go_simp
          refine (Queue_any hS.i.at_ HM.out).mono ?_
          rintro e wc ⟨v1, rfl, hM⟩
          have hS2 := (hS.after hM.below).cons hM.q.nums
          refine ⟨hS.after hM.below, ?_⟩
          refine anyH_heldG hS2 ?_
          have hS := hS2
          clear hS2 hM
          try simp only [Act.put, List.setIfInBounds_toArray, List.set_cons_zero, List.set_cons_succ]
          refine take_d (i := 4) (d := some 100) (v := .string (strOfNums l2.wt)) rfl rfl (by kernel_rfl) (by kernel_rfl) (by kernel_rfl) (fun _ _ _ h => h) (y_conv (by kernel_rfl) rfl rfl (fun W hW => hW.get v1 l2.wt (by simp))) hS ?_
          try simp only [Act.put, List.setIfInBounds_toArray, List.set_cons_zero, List.set_cons_succ]
          refine take_d (i := 5) (d := some 101) (v := .string (strOfNums l2.ps)) rfl rfl (by kernel_rfl) (by kernel_rfl) (by kernel_rfl) (fun _ _ _ h => h) (.inl ⟨by rfl, fun W hW => by have q := HSTR.out; go_simp; rw [strOfNums_size, strOfNums_size]; have := HSL.out; omega⟩) hS ?_
          try simp only [Act.put, List.setIfInBounds_toArray, List.set_cons_zero, List.set_cons_succ]
          refine take_d (i := 8) (d := some 104) (v := ?_) rfl rfl (by kernel_rfl) (by kernel_rfl) (by kernel_rfl) (fun _ _ _ h => h) (.inl ⟨by rfl, ?_⟩) hS ?_
          rotate_left
          · intro W hW
            go_simp
            try with_reducible rfl
          try simp only [Act.put, List.setIfInBounds_toArray, List.set_cons_zero, List.set_cons_succ]
          refine take_d (i := 9) (d := some 105) (v := ?_) rfl rfl (by kernel_rfl) (by kernel_rfl) (by kernel_rfl) (fun _ _ _ h => h) (.inl ⟨by rfl, ?_⟩) hS ?_
          rotate_left
          · intro W hW
            go_simp
            try with_reducible rfl
          try simp only [Act.put, List.setIfInBounds_toArray, List.set_cons_zero, List.set_cons_succ]
          refine take_d (i := 10) (d := some 106) (v := ?_) rfl rfl (by kernel_rfl) (by kernel_rfl) (by kernel_rfl) (fun _ _ _ h => h) (.inl ⟨by rfl, ?_⟩) hS ?_
          rotate_left
          · intro W hW
            go_simp
            try with_reducible rfl
          try simp only [Act.put, List.setIfInBounds_toArray, List.set_cons_zero, List.set_cons_succ]
          refine take_d (i := 12) (d := some 108) (v := ?_) rfl rfl (by kernel_rfl) (by kernel_rfl) (by kernel_rfl) (fun _ _ _ h => h) (.inl ⟨by rfl, ?_⟩) hS ?_
          rotate_left
          · intro W hW
            go_simp
            try with_reducible rfl
          try simp only [Act.put, List.setIfInBounds_toArray, List.set_cons_zero, List.set_cons_succ]
          refine take_d (i := 13) (d := some 109) (v := ?_) rfl rfl (by kernel_rfl) (by kernel_rfl) (by kernel_rfl) (fun _ _ _ h => h) (.inl ⟨by rfl, ?_⟩) hS ?_
          rotate_left
          · intro W hW
            go_simp
            try with_reducible rfl
          try simp only [Act.put, List.setIfInBounds_toArray, List.set_cons_zero, List.set_cons_succ]
          refine take_d (i := 14) (d := some 110) (v := ?_) rfl rfl (by kernel_rfl) (by kernel_rfl) (by kernel_rfl) (fun _ _ _ h => h) (.inl ⟨by rfl, ?_⟩) hS ?_
          rotate_left
          · intro W hW
            go_simp
            try with_reducible rfl
          try simp only [Act.put, List.setIfInBounds_toArray, List.set_cons_zero, List.set_cons_succ]
          refine take_d (i := 15) (d := some 111) (v := ?_) rfl rfl (by kernel_rfl) (by kernel_rfl) (by kernel_rfl) (fun _ _ _ h => h) (.inl ⟨by rfl, ?_⟩) hS ?_
          rotate_left
          · intro W hW
            go_simp
            try with_reducible rfl
          try simp only [Act.put, List.setIfInBounds_toArray, List.set_cons_zero, List.set_cons_succ]
          refine take_d (i := 16) (d := some 112) (v := .int .i64 (l2.wt.length : Int)) rfl rfl (by kernel_rfl) (by kernel_rfl) (by kernel_rfl) (fun _ _ _ h => h) (.inl ⟨by rfl, fun W hW => by have q := HSUB.out; go_simp⟩) hS ?_
          try simp only [Act.put, List.setIfInBounds_toArray, List.set_cons_zero, List.set_cons_succ]
          refine wpAnyH_all (rs := [11]) (by kernel_rfl) (by simp) (fun i hi => ?_)
          simp only [List.mem_cons, List.not_mem_nil, or_false] at hi
          subst hi
          refine .inl ?_
          go_simp
          refine (Waits_any hS.i.at_).mono ?_
          rintro e wc ⟨rfl, rfl⟩
          refine ⟨hS, ?_⟩
          try simp only [Act.put, List.setIfInBounds_toArray, List.set_cons_zero, List.set_cons_succ]
          refine take_d (i := 17) (d := some 113) (v := ?_) rfl rfl (by kernel_rfl) (by kernel_rfl) (by kernel_rfl) (fun _ _ _ h => h) (.inl ⟨by rfl, ?_⟩) hS ?_
          rotate_left
          · intro W hW
            go_simp
            try with_reducible rfl
          try simp only [Act.put, List.setIfInBounds_toArray, List.set_cons_zero, List.set_cons_succ]
          refine take_d (i := 18) (d := some 114) (v := ?_) rfl rfl (by kernel_rfl) (by kernel_rfl) (by kernel_rfl) (fun _ _ _ h => h) (.inl ⟨by rfl, ?_⟩) hS ?_
          rotate_left
          · intro W hW
            go_simp
            try with_reducible rfl
          try simp only [Act.put, List.setIfInBounds_toArray, List.set_cons_zero, List.set_cons_succ]
          refine wpAnyH_done (by kernel_rfl) ?_ _
          have HO3 := Lib.hid hS.i
          clear hS hK0 HO2
          go_wp2
          go_roundw
          case rel => exact ⟨k + 1, _, _, by omega, rfl, rfl, by go_num, by rw [HT2.out]; exact HOr.out _ HO3.out⟩
          case measure => simp [intOf]; omega
        by_cases k4 : sk = 4
        · subst k4
          go_wp2_with ((with_reducible apply wp_store_An _); (exact HAn.out); (rfl); (rfl))
          refine (SetMask_any HO1.out.at_ sx HSO.out.x).mono ?_
          rintro e W1 ⟨rfl, hcg⟩
          obtain ⟨F2, ho⟩ := HO1.out.chg hcg
          have HO2 : Hid (Od w ({ l with ms := sx % 16 } : Ls) (({ l with ms := sx % 16 } : Ls)).ps ((({ l with ms := sx % 16 } : Ls)).ps.take (({ l with ms := sx % 16 } : Ls)).tk) iv ov F2 W1) := ho
          have HT2 : Hid (plL (xs.take (k + 1)) = ({ l with ms := sx % 16 } : Ls)) := HT.out.trans rfl
          have HOK3 : Hid (({ l with ms := sx % 16 } : Ls)).Ok := by have := HOK2.out; rw [show l.act ⟨4, sln, sb, sy, sx, sup⟩ = ({ l with ms := sx % 16 } : Ls) from rfl] at this; exact this
          clear p1 p2 p3 p4 p5 p6 x0 x1 x2 x3 x4 x5 HAn ho hcg HO1 HT HOK HOK2 HB1
          have hps2 : (({ l with ms := sx % 16 } : Ls)).ps.length ≤ 10000 := by have := HSZ.out; show l.ps.length ≤ _; omega
          generalize (({ l with ms := sx % 16 } : Ls)) = l2 at HT2 HO2 HOK3 hps2
          have HPS := Lib.hid hps2
          have HM : Hid (l2.wt.length ≤ 1000000) := by have := HOK3.out.wt_len; show _ ≤ _; omega
          have hol : (l2.ps.take l2.tk).length + l2.wt.length = l2.ps.length := by have := HOK3.out.wt_len; have := HOK3.out.tk; simp; omega
          have hstr := str_order (l := l2)
          have HOr : Hid (∀ W, Od w l2 l2.ps (l2.ps.take l2.tk) iv ov F2 W → Or w l2 iv ov W) := fun W h => ⟨F2, h⟩
          generalize l2.ps.take l2.tk = out at HO2 hol hstr HOr
          have HSTR := Lib.hid hstr
          have HSUB := Lib.hid (wrap_sub hol (by omega))
          have HSL : Hid (out.length + l2.wt.length ≤ 1000000) := by show _ ≤ _; omega
          obtain ⟨ai, ci, rfl, hci⟩ := HO2.out.qi.shape
          obtain ⟨ao, co, rfl, hco⟩ := HO2.out.qo.shape
          clear hstr hol hps2 hci hco
          go_wp2
          have hK0 := od_held (HO2.out.after (Below.refl _ _).drew)
          refine wp_region_held_drew (S := _) (by kernel_rfl) hK0 (fun _ => ?_)
          have hS := hK0
          refine take_d (i := 0) (d := some 96) (v := ?_) rfl rfl (by kernel_rfl) (by kernel_rfl) (by kernel_rfl) (fun _ _ _ h => h) (.inl ⟨by rfl, ?_⟩) hS ?_
          rotate_left
          · intro W hW
            go_simp
            try with_reducible rfl
          try simp only [Act.put, List.setIfInBounds_toArray, List.set_cons_zero, List.set_cons_succ]
          refine take_d (i := 1) (d := some 97) (v := .string (strOfNums out)) rfl rfl (by kernel_rfl) (by kernel_rfl) (by kernel_rfl) (fun _ _ _ h => h) (y_conv (by kernel_rfl) rfl rfl (fun W hW => hW.i.qo.nums)) hS ?_
          try simp only [Act.put, List.setIfInBounds_toArray, List.set_cons_zero, List.set_cons_succ]
          refine take_d (i := 2) (d := some 98) (v := ?_) rfl rfl (by kernel_rfl) (by kernel_rfl) (by kernel_rfl) (fun _ _ _ h => h) (.inl ⟨by rfl, ?_⟩) hS ?_
          rotate_left
          · intro W hW
            go_simp
            try with_reducible rfl
          try simp only [Act.put, List.setIfInBounds_toArray, List.set_cons_zero, List.set_cons_succ]
          refine take_d (i := 6) (d := some 102) (v := ?_) rfl rfl (by kernel_rfl) (by kernel_rfl) (by kernel_rfl) (fun _ _ _ h => h) (.inl ⟨by rfl, ?_⟩) hS ?_
          rotate_left
          · intro W hW
            go_simp
            try with_reducible rfl
          try simp only [Act.put, List.setIfInBounds_toArray, List.set_cons_zero, List.set_cons_succ]
          refine take_d (i := 7) (d := some 103) (v := .string (strOfNums l2.ps)) rfl rfl (by kernel_rfl) (by kernel_rfl) (by kernel_rfl) (fun _ _ _ h => h) (y_conv (by kernel_rfl) rfl rfl (fun W hW => hW.i.qi.nums)) hS ?_
          try simp only [Act.put, List.setIfInBounds_toArray, List.set_cons_zero, List.set_cons_succ]
          refine wpAnyH_all (rs := [3]) (by kernel_rfl) (by simp) (fun i hi => ?_)
          simp only [List.mem_cons, List.not_mem_nil, or_false] at hi
          subst hi
          refine .inl ?_
          go_simp
          refine (Queue_any hS.i.at_ HM.out).mono ?_
          rintro e wc ⟨v1, rfl, hM⟩
          have hS2 := (hS.after hM.below).cons hM.q.nums
          refine ⟨hS.after hM.below, ?_⟩
          refine anyH_heldG hS2 ?_
          have hS := hS2
          clear hS2 hM
          try simp only [Act.put, List.setIfInBounds_toArray, List.set_cons_zero, List.set_cons_succ]
          refine take_d (i := 4) (d := some 100) (v := .string (strOfNums l2.wt)) rfl rfl (by kernel_rfl) (by kernel_rfl) (by kernel_rfl) (fun _ _ _ h => h) (y_conv (by kernel_rfl) rfl rfl (fun W hW => hW.get v1 l2.wt (by simp))) hS ?_
          try simp only [Act.put, List.setIfInBounds_toArray, List.set_cons_zero, List.set_cons_succ]
          refine take_d (i := 5) (d := some 101) (v := .string (strOfNums l2.ps)) rfl rfl (by kernel_rfl) (by kernel_rfl) (by kernel_rfl) (fun _ _ _ h => h) (.inl ⟨by rfl, fun W hW => by have q := HSTR.out; go_simp; rw [strOfNums_size, strOfNums_size]; have := HSL.out; omega⟩) hS ?_
          try simp only [Act.put, List.setIfInBounds_toArray, List.set_cons_zero, List.set_cons_succ]
          refine take_d (i := 8) (d := some 104) (v := ?_) rfl rfl (by kernel_rfl) (by kernel_rfl) (by kernel_rfl) (fun _ _ _ h => h) (.inl ⟨by rfl, ?_⟩) hS ?_
          rotate_left
          · intro W hW
            go_simp
            try with_reducible rfl
          try simp only [Act.put, List.setIfInBounds_toArray, List.set_cons_zero, List.set_cons_succ]
          refine take_d (i := 9) (d := some 105) (v := ?_) rfl rfl (by kernel_rfl) (by kernel_rfl) (by kernel_rfl) (fun _ _ _ h => h) (.inl ⟨by rfl, ?_⟩) hS ?_
          rotate_left
          · intro W hW
            go_simp
            try with_reducible rfl
          try simp only [Act.put, List.setIfInBounds_toArray, List.set_cons_zero, List.set_cons_succ]
          refine take_d (i := 10) (d := some 106) (v := ?_) rfl rfl (by kernel_rfl) (by kernel_rfl) (by kernel_rfl) (fun _ _ _ h => h) (.inl ⟨by rfl, ?_⟩) hS ?_
          rotate_left
          · intro W hW
            go_simp
            try with_reducible rfl
          try simp only [Act.put, List.setIfInBounds_toArray, List.set_cons_zero, List.set_cons_succ]
          refine take_d (i := 12) (d := some 108) (v := ?_) rfl rfl (by kernel_rfl) (by kernel_rfl) (by kernel_rfl) (fun _ _ _ h => h) (.inl ⟨by rfl, ?_⟩) hS ?_
          rotate_left
          · intro W hW
            go_simp
            try with_reducible rfl
          try simp only [Act.put, List.setIfInBounds_toArray, List.set_cons_zero, List.set_cons_succ]
          refine take_d (i := 13) (d := some 109) (v := ?_) rfl rfl (by kernel_rfl) (by kernel_rfl) (by kernel_rfl) (fun _ _ _ h => h) (.inl ⟨by rfl, ?_⟩) hS ?_
          rotate_left
          · intro W hW
            go_simp
            try with_reducible rfl
          try simp only [Act.put, List.setIfInBounds_toArray, List.set_cons_zero, List.set_cons_succ]
          refine take_d (i := 14) (d := some 110) (v := ?_) rfl rfl (by kernel_rfl) (by kernel_rfl) (by kernel_rfl) (fun _ _ _ h => h) (.inl ⟨by rfl, ?_⟩) hS ?_
          rotate_left
          · intro W hW
            go_simp
            try with_reducible rfl
          try simp only [Act.put, List.setIfInBounds_toArray, List.set_cons_zero, List.set_cons_succ]
          refine take_d (i := 15) (d := some 111) (v := ?_) rfl rfl (by kernel_rfl) (by kernel_rfl) (by kernel_rfl) (fun _ _ _ h => h) (.inl ⟨by rfl, ?_⟩) hS ?_
          rotate_left
          · intro W hW
            go_simp
            try with_reducible rfl
          try simp only [Act.put, List.setIfInBounds_toArray, List.set_cons_zero, List.set_cons_succ]
          refine take_d (i := 16) (d := some 112) (v := .int .i64 (l2.wt.length : Int)) rfl rfl (by kernel_rfl) (by kernel_rfl) (by kernel_rfl) (fun _ _ _ h => h) (.inl ⟨by rfl, fun W hW => by have q := HSUB.out; go_simp⟩) hS ?_
          try simp only [Act.put, List.setIfInBounds_toArray, List.set_cons_zero, List.set_cons_succ]
          refine wpAnyH_all (rs := [11]) (by kernel_rfl) (by simp) (fun i hi => ?_)
          simp only [List.mem_cons, List.not_mem_nil, or_false] at hi
          subst hi
          refine .inl ?_
          go_simp
          refine (Waits_any hS.i.at_).mono ?_
          rintro e wc ⟨rfl, rfl⟩
          refine ⟨hS, ?_⟩
          try simp only [Act.put, List.setIfInBounds_toArray, List.set_cons_zero, List.set_cons_succ]
          refine take_d (i := 17) (d := some 113) (v := ?_) rfl rfl (by kernel_rfl) (by kernel_rfl) (by kernel_rfl) (fun _ _ _ h => h) (.inl ⟨by rfl, ?_⟩) hS ?_
          rotate_left
          · intro W hW
            go_simp
            try with_reducible rfl
          try simp only [Act.put, List.setIfInBounds_toArray, List.set_cons_zero, List.set_cons_succ]
          refine take_d (i := 18) (d := some 114) (v := ?_) rfl rfl (by kernel_rfl) (by kernel_rfl) (by kernel_rfl) (fun _ _ _ h => h) (.inl ⟨by rfl, ?_⟩) hS ?_
          rotate_left
          · intro W hW
            go_simp
            try with_reducible rfl
          try simp only [Act.put, List.setIfInBounds_toArray, List.set_cons_zero, List.set_cons_succ]
          refine wpAnyH_done (by kernel_rfl) ?_ _
          have HO3 := Lib.hid hS.i
          clear hS hK0 HO2
          go_wp2
          go_roundw
          case rel => exact ⟨k + 1, _, _, by omega, rfl, rfl, by go_num, by rw [HT2.out]; exact HOr.out _ HO3.out⟩
          case measure => simp [intOf]; omega
        have e9 : l.act ⟨sk, sln, sb, sy, sx, sup⟩ = l.raise sln sup := by simp [Ls.act, k0, k1, k2, k3, k4]
        go_wp2_with ((with_reducible apply wp_store_An _); (exact HAn.out); (rfl); (rfl))
        refine (Raise_any HO1.out.at_ sln sup).mono ?_
        rintro e W1 ⟨rfl, hcg⟩
        obtain ⟨F2, ho⟩ := HO1.out.chg hcg
        have ho : Od w (l.raise sln sup) (l.raise sln sup).ps ((l.raise sln sup).ps.take (l.raise sln sup).tk) iv ov F2 W1 := by
          rw [show (l.raise sln sup).ps = l.ps from by unfold Ls.raise; split; rfl; split <;> rfl, show (l.raise sln sup).tk = l.tk from by unfold Ls.raise; split; rfl; split <;> rfl]
          exact ho
        have HO2 : Hid (Od w (l.raise sln sup) ((l.raise sln sup)).ps (((l.raise sln sup)).ps.take ((l.raise sln sup)).tk) iv ov F2 W1) := ho
        have HT2 : Hid (plL (xs.take (k + 1)) = (l.raise sln sup)) := HT.out.trans e9
        have HOK3 : Hid ((l.raise sln sup)).Ok := by have := HOK2.out; rw [show l.act ⟨sk, sln, sb, sy, sx, sup⟩ = (l.raise sln sup) from e9] at this; exact this
        clear p1 p2 p3 p4 p5 p6 x0 x1 x2 x3 x4 x5 HAn ho hcg HO1 HT HOK HOK2 HB1
        have hps2 : ((l.raise sln sup)).ps.length ≤ 10000 := by have := HSZ.out; rw [show (l.raise sln sup).ps = l.ps from by unfold Ls.raise; split; rfl; split <;> rfl]; omega
        generalize ((l.raise sln sup)) = l2 at HT2 HO2 HOK3 hps2
        have HPS := Lib.hid hps2
        have HM : Hid (l2.wt.length ≤ 1000000) := by have := HOK3.out.wt_len; show _ ≤ _; omega
        have hol : (l2.ps.take l2.tk).length + l2.wt.length = l2.ps.length := by have := HOK3.out.wt_len; have := HOK3.out.tk; simp; omega
        have hstr := str_order (l := l2)
        have HOr : Hid (∀ W, Od w l2 l2.ps (l2.ps.take l2.tk) iv ov F2 W → Or w l2 iv ov W) := fun W h => ⟨F2, h⟩
        generalize l2.ps.take l2.tk = out at HO2 hol hstr HOr
        have HSTR := Lib.hid hstr
        have HSUB := Lib.hid (wrap_sub hol (by omega))
        have HSL : Hid (out.length + l2.wt.length ≤ 1000000) := by show _ ≤ _; omega
        obtain ⟨ai, ci, rfl, hci⟩ := HO2.out.qi.shape
        obtain ⟨ao, co, rfl, hco⟩ := HO2.out.qo.shape
        clear hstr hol hps2 hci hco
        go_wp2
        have hK0 := od_held (HO2.out.after (Below.refl _ _).drew)
        refine wp_region_held_drew (S := _) (by kernel_rfl) hK0 (fun _ => ?_)
        have hS := hK0
        refine take_d (i := 0) (d := some 96) (v := ?_) rfl rfl (by kernel_rfl) (by kernel_rfl) (by kernel_rfl) (fun _ _ _ h => h) (.inl ⟨by rfl, ?_⟩) hS ?_
        rotate_left
        · intro W hW
          go_simp
          try with_reducible rfl
        try simp only [Act.put, List.setIfInBounds_toArray, List.set_cons_zero, List.set_cons_succ]
        refine take_d (i := 1) (d := some 97) (v := .string (strOfNums out)) rfl rfl (by kernel_rfl) (by kernel_rfl) (by kernel_rfl) (fun _ _ _ h => h) (y_conv (by kernel_rfl) rfl rfl (fun W hW => hW.i.qo.nums)) hS ?_
        try simp only [Act.put, List.setIfInBounds_toArray, List.set_cons_zero, List.set_cons_succ]
        refine take_d (i := 2) (d := some 98) (v := ?_) rfl rfl (by kernel_rfl) (by kernel_rfl) (by kernel_rfl) (fun _ _ _ h => h) (.inl ⟨by rfl, ?_⟩) hS ?_
        rotate_left
        · intro W hW
          go_simp
          try with_reducible rfl
        try simp only [Act.put, List.setIfInBounds_toArray, List.set_cons_zero, List.set_cons_succ]
        refine take_d (i := 6) (d := some 102) (v := ?_) rfl rfl (by kernel_rfl) (by kernel_rfl) (by kernel_rfl) (fun _ _ _ h => h) (.inl ⟨by rfl, ?_⟩) hS ?_
        rotate_left
        · intro W hW
          go_simp
          try with_reducible rfl
        try simp only [Act.put, List.setIfInBounds_toArray, List.set_cons_zero, List.set_cons_succ]
        refine take_d (i := 7) (d := some 103) (v := .string (strOfNums l2.ps)) rfl rfl (by kernel_rfl) (by kernel_rfl) (by kernel_rfl) (fun _ _ _ h => h) (y_conv (by kernel_rfl) rfl rfl (fun W hW => hW.i.qi.nums)) hS ?_
        try simp only [Act.put, List.setIfInBounds_toArray, List.set_cons_zero, List.set_cons_succ]
        refine wpAnyH_all (rs := [3]) (by kernel_rfl) (by simp) (fun i hi => ?_)
        simp only [List.mem_cons, List.not_mem_nil, or_false] at hi
        subst hi
        refine .inl ?_
        go_simp
        refine (Queue_any hS.i.at_ HM.out).mono ?_
        rintro e wc ⟨v1, rfl, hM⟩
        have hS2 := (hS.after hM.below).cons hM.q.nums
        refine ⟨hS.after hM.below, ?_⟩
        refine anyH_heldG hS2 ?_
        have hS := hS2
        clear hS2 hM
        try simp only [Act.put, List.setIfInBounds_toArray, List.set_cons_zero, List.set_cons_succ]
        refine take_d (i := 4) (d := some 100) (v := .string (strOfNums l2.wt)) rfl rfl (by kernel_rfl) (by kernel_rfl) (by kernel_rfl) (fun _ _ _ h => h) (y_conv (by kernel_rfl) rfl rfl (fun W hW => hW.get v1 l2.wt (by simp))) hS ?_
        try simp only [Act.put, List.setIfInBounds_toArray, List.set_cons_zero, List.set_cons_succ]
        refine take_d (i := 5) (d := some 101) (v := .string (strOfNums l2.ps)) rfl rfl (by kernel_rfl) (by kernel_rfl) (by kernel_rfl) (fun _ _ _ h => h) (.inl ⟨by rfl, fun W hW => by have q := HSTR.out; go_simp; rw [strOfNums_size, strOfNums_size]; have := HSL.out; omega⟩) hS ?_
        try simp only [Act.put, List.setIfInBounds_toArray, List.set_cons_zero, List.set_cons_succ]
        refine take_d (i := 8) (d := some 104) (v := ?_) rfl rfl (by kernel_rfl) (by kernel_rfl) (by kernel_rfl) (fun _ _ _ h => h) (.inl ⟨by rfl, ?_⟩) hS ?_
        rotate_left
        · intro W hW
          go_simp
          try with_reducible rfl
        try simp only [Act.put, List.setIfInBounds_toArray, List.set_cons_zero, List.set_cons_succ]
        refine take_d (i := 9) (d := some 105) (v := ?_) rfl rfl (by kernel_rfl) (by kernel_rfl) (by kernel_rfl) (fun _ _ _ h => h) (.inl ⟨by rfl, ?_⟩) hS ?_
        rotate_left
        · intro W hW
          go_simp
          try with_reducible rfl
        try simp only [Act.put, List.setIfInBounds_toArray, List.set_cons_zero, List.set_cons_succ]
        refine take_d (i := 10) (d := some 106) (v := ?_) rfl rfl (by kernel_rfl) (by kernel_rfl) (by kernel_rfl) (fun _ _ _ h => h) (.inl ⟨by rfl, ?_⟩) hS ?_
        rotate_left
        · intro W hW
          go_simp
          try with_reducible rfl
        try simp only [Act.put, List.setIfInBounds_toArray, List.set_cons_zero, List.set_cons_succ]
        refine take_d (i := 12) (d := some 108) (v := ?_) rfl rfl (by kernel_rfl) (by kernel_rfl) (by kernel_rfl) (fun _ _ _ h => h) (.inl ⟨by rfl, ?_⟩) hS ?_
        rotate_left
        · intro W hW
          go_simp
          try with_reducible rfl
        try simp only [Act.put, List.setIfInBounds_toArray, List.set_cons_zero, List.set_cons_succ]
        refine take_d (i := 13) (d := some 109) (v := ?_) rfl rfl (by kernel_rfl) (by kernel_rfl) (by kernel_rfl) (fun _ _ _ h => h) (.inl ⟨by rfl, ?_⟩) hS ?_
        rotate_left
        · intro W hW
          go_simp
          try with_reducible rfl
        try simp only [Act.put, List.setIfInBounds_toArray, List.set_cons_zero, List.set_cons_succ]
        refine take_d (i := 14) (d := some 110) (v := ?_) rfl rfl (by kernel_rfl) (by kernel_rfl) (by kernel_rfl) (fun _ _ _ h => h) (.inl ⟨by rfl, ?_⟩) hS ?_
        rotate_left
        · intro W hW
          go_simp
          try with_reducible rfl
        try simp only [Act.put, List.setIfInBounds_toArray, List.set_cons_zero, List.set_cons_succ]
        refine take_d (i := 15) (d := some 111) (v := ?_) rfl rfl (by kernel_rfl) (by kernel_rfl) (by kernel_rfl) (fun _ _ _ h => h) (.inl ⟨by rfl, ?_⟩) hS ?_
        rotate_left
        · intro W hW
          go_simp
          try with_reducible rfl
        try simp only [Act.put, List.setIfInBounds_toArray, List.set_cons_zero, List.set_cons_succ]
        refine take_d (i := 16) (d := some 112) (v := .int .i64 (l2.wt.length : Int)) rfl rfl (by kernel_rfl) (by kernel_rfl) (by kernel_rfl) (fun _ _ _ h => h) (.inl ⟨by rfl, fun W hW => by have q := HSUB.out; go_simp⟩) hS ?_
        try simp only [Act.put, List.setIfInBounds_toArray, List.set_cons_zero, List.set_cons_succ]
        refine wpAnyH_all (rs := [11]) (by kernel_rfl) (by simp) (fun i hi => ?_)
        simp only [List.mem_cons, List.not_mem_nil, or_false] at hi
        subst hi
        refine .inl ?_
        go_simp
        refine (Waits_any hS.i.at_).mono ?_
        rintro e wc ⟨rfl, rfl⟩
        refine ⟨hS, ?_⟩
        try simp only [Act.put, List.setIfInBounds_toArray, List.set_cons_zero, List.set_cons_succ]
        refine take_d (i := 17) (d := some 113) (v := ?_) rfl rfl (by kernel_rfl) (by kernel_rfl) (by kernel_rfl) (fun _ _ _ h => h) (.inl ⟨by rfl, ?_⟩) hS ?_
        rotate_left
        · intro W hW
          go_simp
          try with_reducible rfl
        try simp only [Act.put, List.setIfInBounds_toArray, List.set_cons_zero, List.set_cons_succ]
        refine take_d (i := 18) (d := some 114) (v := ?_) rfl rfl (by kernel_rfl) (by kernel_rfl) (by kernel_rfl) (fun _ _ _ h => h) (.inl ⟨by rfl, ?_⟩) hS ?_
        rotate_left
        · intro W hW
          go_simp
          try with_reducible rfl
        try simp only [Act.put, List.setIfInBounds_toArray, List.set_cons_zero, List.set_cons_succ]
        refine wpAnyH_done (by kernel_rfl) ?_ _
        have HO3 := Lib.hid hS.i
        clear hS hK0 HO2
        go_wp2
        go_roundw
        case rel => exact ⟨k + 1, _, _, by omega, rfl, rfl, by go_num, by rw [HT2.out]; exact HOr.out _ HO3.out⟩
        case measure => simp [intOf]; omega
      · obtain rfl : k = xs.length := by omega
        have hlt' : ¬ ((xs.length : Nat) : Int) < (xs.length : Int) := by omega
        obtain ⟨F, hod⟩ := HI.out
        have e1 : xs.take xs.length = xs := List.take_length
        rw [e1] at hod
        have HO1 := Lib.hid hod
        have HOK := Lib.hid (plL_ok HOKS.out)
        clear hod HI e1 H0
        generalize plL xs = l at HO1 HOK
        obtain ⟨m, hm16, e1, e2, e3⟩ := left_cases l now HOK.out.ms
        go_wp2_with fail
        refine (Wants_any HO1.out.at_ HOK.out.al now).mono ?_
        rintro e w3 ⟨rfl, hb⟩
        have HO2 := Lib.hid (HO1.out.after hb)
        clear hb HO1
        go_wp2_with fail
        refine (Mask_any HO2.out.at_).mono ?_
        rintro e w' ⟨rfl, rfl⟩
        go_wp2_with fail
        refine (Pending_any HO2.out.at_ HOK.out now).mono ?_
        rintro e w4 ⟨rfl, hb⟩
        have HO3 := Lib.hid (HO2.out.after hb)
        clear hb HO2
        rw [e2, e3]
        clear e1 e2 e3
        have hm : m = 0 ∨ m = 1 ∨ m = 2 ∨ m = 3 ∨ m = 4 ∨ m = 5 ∨ m = 6 ∨ m = 7 ∨ m = 8 ∨ m = 9 ∨ m = 10 ∨ m = 11 ∨ m = 12 ∨ m = 13 ∨ m = 14 ∨ m = 15 := by omega
        rcases hm with rfl | rfl | rfl | rfl | rfl | rfl | rfl | rfl | rfl | rfl | rfl | rfl | rfl | rfl | rfl | rfl <;>
          (simp only [show leastBit 0 = 0 from rfl, show leastBit 1 = 0 from rfl, show leastBit 2 = 1 from rfl, show leastBit 3 = 0 from rfl, show leastBit 4 = 2 from rfl, show leastBit 5 = 0 from rfl, show leastBit 6 = 1 from rfl, show leastBit 7 = 0 from rfl, show leastBit 8 = 3 from rfl, show leastBit 9 = 0 from rfl, show leastBit 10 = 1 from rfl, show leastBit 11 = 0 from rfl, show leastBit 12 = 2 from rfl, show leastBit 13 = 0 from rfl, show leastBit 14 = 1 from rfl, show leastBit 15 = 0 from rfl]
           go_wp2_with fail
           refine (works_any _).mono ?_
           rintro e w7 ⟨rfl, hb⟩
           have H7 := Lib.hid (HO3.out.after hb)
           clear hb HO3
           go_wp2
           go_ret
           exact ⟨rfl, H7.out.below⟩)
end Go.Proofs.Ytmnkggnghflcpaa

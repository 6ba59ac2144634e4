/-
  NARROWER THAN 'FOR EVERY INPUT', by the rows' own cells (each row's printed sentence says how): IsaDecode: laid · IsaEncode: laid · IsaUnlike: laid · IsaNames: laid · IsaNear: laid · IsaBits: laid.
  DERIVED. THE GIVEN ROWS OF THIS SEAT. 6 by the template 'for every input the law returns true; each argument reads behind the call as it read before'; 0 by the template 'total and deterministic' (their statements: YtcbbinmecnameaaDoorTotals.lean).
  GIVEN WITH THE SEED: the statements are not yours to turn. If you find one false, say at which input.
  Laid BY PROGRAM, IN A SANDBOX (cutbox-rows.mjs): the forced cells as the released guide's own fill.sh prints them over the translation d88ccb90ad03e049… (all of the seat's roots in one cut). By AI agents, Wed Nov 11 2026. No macro, syntax, notation, axiom, sorry.
-/
import Derived.Test.YtcbbinmecnameaaDoorChecked
import GoSem.Claim
import GoSem.ClaimJoined
import GoSem.ClaimMapViews
import Derived.JoinedTies
import Derived.KernelRfl
namespace Go.Proofs.YtcbbinmecnameaaDoor
/- THE CELL 'sum', in the pinned program and in every row, IS THE sha256 OF THE DUMP (.gsa) THAT YtcbbinmecnameaaDoorProg.lean LOADS. Nothing in Lean hashes anything: it is a label: what it is worth is what the hold of that sum in a sandbox is worth. -/
noncomputable def Tryd.pinned : Pinned := { name := "ytcbbinmecnameaadoor", sum := "d88ccb90ad03e049aabe0f3074b2188bf9c2e8528d1ac4d7e2476251461a77a7", checked := Tryd.checked }
namespace Rows
def none {H : Type} : Left H := { results := [], args := [] }

/- WHAT THE LISTED PACKAGE-LEVEL VARIABLES READ AS WHEN THE CALL BEGINS. Each datum BY PROGRAM (the guide's laid-datum.mjs) off the statement by which the dump's own 'gosem.cut.vars' lays the variable. In a bare row this is a premise. The card (YtcbbinmecnameaaDoorCards.lean) ties it to the program's text. -/
def laid_math_bits_deBruijn32tab {H : Type} : DataW H := .agg [.lit (.int .u8 0), .lit (.int .u8 1), .lit (.int .u8 28), .lit (.int .u8 2), .lit (.int .u8 29), .lit (.int .u8 14), .lit (.int .u8 24), .lit (.int .u8 3), .lit (.int .u8 30), .lit (.int .u8 22), .lit (.int .u8 20), .lit (.int .u8 15), .lit (.int .u8 25), .lit (.int .u8 17), .lit (.int .u8 4), .lit (.int .u8 8), .lit (.int .u8 31), .lit (.int .u8 27), .lit (.int .u8 13), .lit (.int .u8 23), .lit (.int .u8 21), .lit (.int .u8 19), .lit (.int .u8 16), .lit (.int .u8 7), .lit (.int .u8 26), .lit (.int .u8 12), .lit (.int .u8 18), .lit (.int .u8 6), .lit (.int .u8 11), .lit (.int .u8 5), .lit (.int .u8 10), .lit (.int .u8 9)]
def laid_math_bits_deBruijn64tab {H : Type} : DataW H := .agg [.lit (.int .u8 0), .lit (.int .u8 1), .lit (.int .u8 56), .lit (.int .u8 2), .lit (.int .u8 57), .lit (.int .u8 49), .lit (.int .u8 28), .lit (.int .u8 3), .lit (.int .u8 61), .lit (.int .u8 58), .lit (.int .u8 42), .lit (.int .u8 50), .lit (.int .u8 38), .lit (.int .u8 29), .lit (.int .u8 17), .lit (.int .u8 4), .lit (.int .u8 62), .lit (.int .u8 47), .lit (.int .u8 59), .lit (.int .u8 36), .lit (.int .u8 45), .lit (.int .u8 43), .lit (.int .u8 51), .lit (.int .u8 22), .lit (.int .u8 53), .lit (.int .u8 39), .lit (.int .u8 33), .lit (.int .u8 30), .lit (.int .u8 24), .lit (.int .u8 18), .lit (.int .u8 12), .lit (.int .u8 5), .lit (.int .u8 63), .lit (.int .u8 55), .lit (.int .u8 48), .lit (.int .u8 27), .lit (.int .u8 60), .lit (.int .u8 41), .lit (.int .u8 37), .lit (.int .u8 16), .lit (.int .u8 46), .lit (.int .u8 35), .lit (.int .u8 44), .lit (.int .u8 21), .lit (.int .u8 52), .lit (.int .u8 32), .lit (.int .u8 23), .lit (.int .u8 11), .lit (.int .u8 54), .lit (.int .u8 26), .lit (.int .u8 40), .lit (.int .u8 15), .lit (.int .u8 34), .lit (.int .u8 20), .lit (.int .u8 31), .lit (.int .u8 10), .lit (.int .u8 25), .lit (.int .u8 14), .lit (.int .u8 19), .lit (.int .u8 9), .lit (.int .u8 13), .lit (.int .u8 8), .lit (.int .u8 7), .lit (.int .u8 6)]
def laid_internal_strconv_uint64pow10 {H : Type} : DataW H := .agg [.lit (.int .u64 1), .lit (.int .u64 10), .lit (.int .u64 100), .lit (.int .u64 1000), .lit (.int .u64 10000), .lit (.int .u64 100000), .lit (.int .u64 1000000), .lit (.int .u64 10000000), .lit (.int .u64 100000000), .lit (.int .u64 1000000000), .lit (.int .u64 10000000000), .lit (.int .u64 100000000000), .lit (.int .u64 1000000000000), .lit (.int .u64 10000000000000), .lit (.int .u64 100000000000000), .lit (.int .u64 1000000000000000), .lit (.int .u64 10000000000000000), .lit (.int .u64 100000000000000000), .lit (.int .u64 1000000000000000000), .lit (.int .u64 10000000000000000000)]
def laid_pomander_isa_ops {H : Type} : DataW H := .agg [.agg [.lit (.string []), .lit (.int .i64 0)], .agg [.lit (.string [104, 97, 108, 116]), .lit (.int .i64 0)], .agg [.lit (.string [108, 117, 105]), .lit (.int .i64 5)], .agg [.lit (.string [97, 100, 100, 105]), .lit (.int .i64 7)], .agg [.lit (.string [97, 100, 100]), .lit (.int .i64 3)], .agg [.lit (.string [115, 117, 98]), .lit (.int .i64 3)], .agg [.lit (.string [109, 117, 108]), .lit (.int .i64 3)], .agg [.lit (.string [97, 110, 100]), .lit (.int .i64 3)], .agg [.lit (.string [111, 114]), .lit (.int .i64 3)], .agg [.lit (.string [120, 111, 114]), .lit (.int .i64 3)], .agg [.lit (.string [115, 104, 108]), .lit (.int .i64 3)], .agg [.lit (.string [115, 104, 114]), .lit (.int .i64 3)], .agg [.lit (.string [115, 108, 116]), .lit (.int .i64 3)], .agg [.lit (.string [108, 119]), .lit (.int .i64 7)], .agg [.lit (.string [115, 119]), .lit (.int .i64 7)], .agg [.lit (.string [108, 98]), .lit (.int .i64 7)], .agg [.lit (.string [115, 98]), .lit (.int .i64 7)], .agg [.lit (.string [98, 101, 113]), .lit (.int .i64 7)], .agg [.lit (.string [98, 110, 101]), .lit (.int .i64 7)], .agg [.lit (.string [98, 108, 116]), .lit (.int .i64 7)], .agg [.lit (.string [106, 97, 108]), .lit (.int .i64 5)], .agg [.lit (.string [106, 97, 108, 114]), .lit (.int .i64 3)], .agg [.lit (.string [105, 110]), .lit (.int .i64 5)], .agg [.lit (.string [111, 117, 116]), .lit (.int .i64 5)], .agg [.lit (.string [99, 97, 108, 108]), .lit (.int .i64 0)], .agg [.lit (.string [98, 97, 99, 107]), .lit (.int .i64 0)], .agg [.lit (.string [103, 101, 116]), .lit (.int .i64 5)], .agg [.lit (.string [115, 101, 116]), .lit (.int .i64 5)], .agg [.lit (.string [102, 108, 117, 115, 104]), .lit (.int .i64 0)]]

/-- 'pomanderlaw04.IsaDecode': WHATEVER THE INPUT: true; the input reads as it did. -/
def isaDecodeSpec : ChangeSpec := { name := "isaDecode", fn := fun _ => fun
  | [d] => { results := [.lit (.bool true)], args := [d] }
  | _ => none }
def isaDecodeRow : OpenClaim := { program := "ytcbbinmecnameaadoor", sum := "d88ccb90ad03e049aabe0f3074b2188bf9c2e8528d1ac4d7e2476251461a77a7", func := "pomander/pomanderlaw04.IsaDecode", spec := "isaDecode", inPlace := ["internal/abi.NoEscape", "internal/bytealg.MakeNoZero"], unfollowed := true, recurses := true, named := ["pomander/isa.ops", "internal/strconv.uint64pow10", "math/bits.deBruijn32tab", "math/bits.deBruijn64tab"], apart := false, laid := [("math/bits.deBruijn32tab", laid_math_bits_deBruijn32tab), ("math/bits.deBruijn64tab", laid_math_bits_deBruijn64tab), ("internal/strconv.uint64pow10", laid_internal_strconv_uint64pow10), ("pomander/isa.ops", laid_pomander_isa_ops)] }
def IsaDecodeSaid : Prop := isaDecodeRow.holds Tryd.pinned (OpenSpec.ofChange isaDecodeSpec)

/-- ITS FALSE NEIGHBOUR: 'it returns false'. Refute it at one input. -/
def isaDecodeWrong : ChangeSpec := { name := "isaDecode", fn := fun _ => fun
  | [d] => { results := [.lit (.bool false)], args := [d] }
  | _ => none }
def IsaDecodeWrongFalsely : Prop := isaDecodeRow.holds Tryd.pinned (OpenSpec.ofChange isaDecodeWrong)

/-- 'pomanderlaw04.IsaEncode': WHATEVER THE INPUT: true; the input reads as it did. -/
def isaEncodeSpec : ChangeSpec := { name := "isaEncode", fn := fun _ => fun
  | [d] => { results := [.lit (.bool true)], args := [d] }
  | _ => none }
def isaEncodeRow : OpenClaim := { program := "ytcbbinmecnameaadoor", sum := "d88ccb90ad03e049aabe0f3074b2188bf9c2e8528d1ac4d7e2476251461a77a7", func := "pomander/pomanderlaw04.IsaEncode", spec := "isaEncode", inPlace := ["internal/abi.NoEscape", "internal/bytealg.MakeNoZero"], unfollowed := true, recurses := true, named := ["pomander/isa.ops", "internal/strconv.uint64pow10", "math/bits.deBruijn32tab", "math/bits.deBruijn64tab"], apart := false, laid := [("math/bits.deBruijn32tab", laid_math_bits_deBruijn32tab), ("math/bits.deBruijn64tab", laid_math_bits_deBruijn64tab), ("internal/strconv.uint64pow10", laid_internal_strconv_uint64pow10), ("pomander/isa.ops", laid_pomander_isa_ops)] }
def IsaEncodeSaid : Prop := isaEncodeRow.holds Tryd.pinned (OpenSpec.ofChange isaEncodeSpec)

/-- ITS FALSE NEIGHBOUR: 'it returns false'. Refute it at one input. -/
def isaEncodeWrong : ChangeSpec := { name := "isaEncode", fn := fun _ => fun
  | [d] => { results := [.lit (.bool false)], args := [d] }
  | _ => none }
def IsaEncodeWrongFalsely : Prop := isaEncodeRow.holds Tryd.pinned (OpenSpec.ofChange isaEncodeWrong)

/-- 'pomanderlaw04.IsaUnlike': WHATEVER THE INPUT: true; the input reads as it did. -/
def isaUnlikeSpec : ChangeSpec := { name := "isaUnlike", fn := fun _ => fun
  | [d1, d2] => { results := [.lit (.bool true)], args := [d1, d2] }
  | _ => none }
def isaUnlikeRow : OpenClaim := { program := "ytcbbinmecnameaadoor", sum := "d88ccb90ad03e049aabe0f3074b2188bf9c2e8528d1ac4d7e2476251461a77a7", func := "pomander/pomanderlaw04.IsaUnlike", spec := "isaUnlike", inPlace := ["internal/abi.NoEscape", "internal/bytealg.MakeNoZero"], unfollowed := true, recurses := true, named := ["pomander/isa.ops", "internal/strconv.uint64pow10", "math/bits.deBruijn32tab", "math/bits.deBruijn64tab"], apart := false, laid := [("math/bits.deBruijn32tab", laid_math_bits_deBruijn32tab), ("math/bits.deBruijn64tab", laid_math_bits_deBruijn64tab), ("internal/strconv.uint64pow10", laid_internal_strconv_uint64pow10), ("pomander/isa.ops", laid_pomander_isa_ops)] }
def IsaUnlikeSaid : Prop := isaUnlikeRow.holds Tryd.pinned (OpenSpec.ofChange isaUnlikeSpec)

/-- ITS FALSE NEIGHBOUR: 'it returns false'. Refute it at one input. -/
def isaUnlikeWrong : ChangeSpec := { name := "isaUnlike", fn := fun _ => fun
  | [d1, d2] => { results := [.lit (.bool false)], args := [d1, d2] }
  | _ => none }
def IsaUnlikeWrongFalsely : Prop := isaUnlikeRow.holds Tryd.pinned (OpenSpec.ofChange isaUnlikeWrong)

/-- 'pomanderlaw04.IsaNames': WHATEVER THE INPUT: true; the input reads as it did. -/
def isaNamesSpec : ChangeSpec := { name := "isaNames", fn := fun _ => fun
  | [d1, d2] => { results := [.lit (.bool true)], args := [d1, d2] }
  | _ => none }
def isaNamesRow : OpenClaim := { program := "ytcbbinmecnameaadoor", sum := "d88ccb90ad03e049aabe0f3074b2188bf9c2e8528d1ac4d7e2476251461a77a7", func := "pomander/pomanderlaw04.IsaNames", spec := "isaNames", inPlace := ["internal/abi.NoEscape", "internal/bytealg.MakeNoZero"], unfollowed := true, recurses := true, named := ["pomander/isa.ops", "internal/strconv.uint64pow10", "math/bits.deBruijn32tab", "math/bits.deBruijn64tab"], apart := false, laid := [("math/bits.deBruijn32tab", laid_math_bits_deBruijn32tab), ("math/bits.deBruijn64tab", laid_math_bits_deBruijn64tab), ("internal/strconv.uint64pow10", laid_internal_strconv_uint64pow10), ("pomander/isa.ops", laid_pomander_isa_ops)] }
def IsaNamesSaid : Prop := isaNamesRow.holds Tryd.pinned (OpenSpec.ofChange isaNamesSpec)

/-- ITS FALSE NEIGHBOUR: 'it returns false'. Refute it at one input. -/
def isaNamesWrong : ChangeSpec := { name := "isaNames", fn := fun _ => fun
  | [d1, d2] => { results := [.lit (.bool false)], args := [d1, d2] }
  | _ => none }
def IsaNamesWrongFalsely : Prop := isaNamesRow.holds Tryd.pinned (OpenSpec.ofChange isaNamesWrong)

/-- 'pomanderlaw04.IsaNear': WHATEVER THE INPUT: true; the input reads as it did. -/
def isaNearSpec : ChangeSpec := { name := "isaNear", fn := fun _ => fun
  | [d] => { results := [.lit (.bool true)], args := [d] }
  | _ => none }
def isaNearRow : OpenClaim := { program := "ytcbbinmecnameaadoor", sum := "d88ccb90ad03e049aabe0f3074b2188bf9c2e8528d1ac4d7e2476251461a77a7", func := "pomander/pomanderlaw04.IsaNear", spec := "isaNear", inPlace := ["internal/abi.NoEscape", "internal/bytealg.MakeNoZero"], unfollowed := true, recurses := true, named := ["pomander/isa.ops", "internal/strconv.uint64pow10", "math/bits.deBruijn32tab", "math/bits.deBruijn64tab"], apart := false, laid := [("math/bits.deBruijn32tab", laid_math_bits_deBruijn32tab), ("math/bits.deBruijn64tab", laid_math_bits_deBruijn64tab), ("internal/strconv.uint64pow10", laid_internal_strconv_uint64pow10), ("pomander/isa.ops", laid_pomander_isa_ops)] }
def IsaNearSaid : Prop := isaNearRow.holds Tryd.pinned (OpenSpec.ofChange isaNearSpec)

/-- ITS FALSE NEIGHBOUR: 'it returns false'. Refute it at one input. -/
def isaNearWrong : ChangeSpec := { name := "isaNear", fn := fun _ => fun
  | [d] => { results := [.lit (.bool false)], args := [d] }
  | _ => none }
def IsaNearWrongFalsely : Prop := isaNearRow.holds Tryd.pinned (OpenSpec.ofChange isaNearWrong)

/-- 'pomanderlaw04.IsaBits': WHATEVER THE INPUT: true; the input reads as it did. -/
def isaBitsSpec : ChangeSpec := { name := "isaBits", fn := fun _ => fun
  | [d] => { results := [.lit (.bool true)], args := [d] }
  | _ => none }
def isaBitsRow : OpenClaim := { program := "ytcbbinmecnameaadoor", sum := "d88ccb90ad03e049aabe0f3074b2188bf9c2e8528d1ac4d7e2476251461a77a7", func := "pomander/pomanderlaw04.IsaBits", spec := "isaBits", inPlace := ["internal/abi.NoEscape", "internal/bytealg.MakeNoZero"], unfollowed := true, recurses := true, named := ["pomander/isa.ops", "internal/strconv.uint64pow10", "math/bits.deBruijn32tab", "math/bits.deBruijn64tab"], apart := false, laid := [("math/bits.deBruijn32tab", laid_math_bits_deBruijn32tab), ("math/bits.deBruijn64tab", laid_math_bits_deBruijn64tab), ("internal/strconv.uint64pow10", laid_internal_strconv_uint64pow10), ("pomander/isa.ops", laid_pomander_isa_ops)] }
def IsaBitsSaid : Prop := isaBitsRow.holds Tryd.pinned (OpenSpec.ofChange isaBitsSpec)

/-- ITS FALSE NEIGHBOUR: 'it returns false'. Refute it at one input. -/
def isaBitsWrong : ChangeSpec := { name := "isaBits", fn := fun _ => fun
  | [d] => { results := [.lit (.bool false)], args := [d] }
  | _ => none }
def IsaBitsWrongFalsely : Prop := isaBitsRow.holds Tryd.pinned (OpenSpec.ofChange isaBitsWrong)

/- THE SECOND FORM. 'bulk': how many values and letters a reading holds, each counted each time it is reached (what is shared counts as often as it is met; a slice's spare places count too). A statement '..UptoSaid' is the law's where the arguments, and the package variables that the reading takes, are together of bulk at most 1048576: NARROWER than '..Said'. Prove '..Said' where nothing that the law and all that it calls make is longer than what came in: it says more and counts as full. Else prove '..UptoSaid'. A law counts once. -/
mutual
def uptoBulk {H : Type} : DataW H → Nat
  | .lit (.string bytes) => bytes.length + 1
  | .lit _ => 1
  | .nil => 1
  | .ptr d => uptoBulk d + 1
  | .slice elems spare => uptoBulkAll elems + uptoBulkAll spare + 1
  | .agg parts => uptoBulkAll parts + 1
  | .iface _ d => uptoBulk d + 1
  | .map entries => uptoBulkEntries entries + 1
  | .held _ => 1
def uptoBulkAll {H : Type} : List (DataW H) → Nat
  | [] => 0
  | d :: r => uptoBulk d + uptoBulkAll r
def uptoBulkEntries {H : Type} : List (Lit × DataW H) → Nat
  | [] => 0
  | x :: r => uptoBulkEntry x + uptoBulkEntries r
def uptoBulkEntry {H : Type} : Lit × DataW H → Nat
  | (.string bytes, d) => bytes.length + uptoBulk d + 1
  | (_, d) => uptoBulk d + 1
 end
def uptoSmall : (H : Type) → List (DataW H) → Bool := fun _ ds => decide (uptoBulkAll ds ≤ 1048576)
def OpenSpec.upto (s : _root_.Go.ChangeSpec) : _root_.Go.OpenSpec := { _root_.Go.OpenSpec.ofChange s with cond := some uptoSmall }

/-- 'pomanderlaw04.IsaDecode', WHERE WHAT IT READS IS OF BULK AT MOST 1048576: true; the input reads as it did. -/
def isaDecodeUptoRow : OpenClaim := { program := "ytcbbinmecnameaadoor", sum := "d88ccb90ad03e049aabe0f3074b2188bf9c2e8528d1ac4d7e2476251461a77a7", func := "pomander/pomanderlaw04.IsaDecode", spec := "isaDecode", inPlace := ["internal/abi.NoEscape", "internal/bytealg.MakeNoZero"], unfollowed := true, recurses := true, named := ["pomander/isa.ops", "internal/strconv.uint64pow10", "math/bits.deBruijn32tab", "math/bits.deBruijn64tab"], apart := false, laid := [("math/bits.deBruijn32tab", laid_math_bits_deBruijn32tab), ("math/bits.deBruijn64tab", laid_math_bits_deBruijn64tab), ("internal/strconv.uint64pow10", laid_internal_strconv_uint64pow10), ("pomander/isa.ops", laid_pomander_isa_ops)], narrowed := true }
def IsaDecodeUptoSaid : Prop := isaDecodeUptoRow.holds Tryd.pinned (OpenSpec.upto isaDecodeSpec)

/-- 'pomanderlaw04.IsaEncode', WHERE WHAT IT READS IS OF BULK AT MOST 1048576: true; the input reads as it did. -/
def isaEncodeUptoRow : OpenClaim := { program := "ytcbbinmecnameaadoor", sum := "d88ccb90ad03e049aabe0f3074b2188bf9c2e8528d1ac4d7e2476251461a77a7", func := "pomander/pomanderlaw04.IsaEncode", spec := "isaEncode", inPlace := ["internal/abi.NoEscape", "internal/bytealg.MakeNoZero"], unfollowed := true, recurses := true, named := ["pomander/isa.ops", "internal/strconv.uint64pow10", "math/bits.deBruijn32tab", "math/bits.deBruijn64tab"], apart := false, laid := [("math/bits.deBruijn32tab", laid_math_bits_deBruijn32tab), ("math/bits.deBruijn64tab", laid_math_bits_deBruijn64tab), ("internal/strconv.uint64pow10", laid_internal_strconv_uint64pow10), ("pomander/isa.ops", laid_pomander_isa_ops)], narrowed := true }
def IsaEncodeUptoSaid : Prop := isaEncodeUptoRow.holds Tryd.pinned (OpenSpec.upto isaEncodeSpec)

/-- 'pomanderlaw04.IsaUnlike', WHERE WHAT IT READS IS OF BULK AT MOST 1048576: true; the input reads as it did. -/
def isaUnlikeUptoRow : OpenClaim := { program := "ytcbbinmecnameaadoor", sum := "d88ccb90ad03e049aabe0f3074b2188bf9c2e8528d1ac4d7e2476251461a77a7", func := "pomander/pomanderlaw04.IsaUnlike", spec := "isaUnlike", inPlace := ["internal/abi.NoEscape", "internal/bytealg.MakeNoZero"], unfollowed := true, recurses := true, named := ["pomander/isa.ops", "internal/strconv.uint64pow10", "math/bits.deBruijn32tab", "math/bits.deBruijn64tab"], apart := false, laid := [("math/bits.deBruijn32tab", laid_math_bits_deBruijn32tab), ("math/bits.deBruijn64tab", laid_math_bits_deBruijn64tab), ("internal/strconv.uint64pow10", laid_internal_strconv_uint64pow10), ("pomander/isa.ops", laid_pomander_isa_ops)], narrowed := true }
def IsaUnlikeUptoSaid : Prop := isaUnlikeUptoRow.holds Tryd.pinned (OpenSpec.upto isaUnlikeSpec)

/-- 'pomanderlaw04.IsaNames', WHERE WHAT IT READS IS OF BULK AT MOST 1048576: true; the input reads as it did. -/
def isaNamesUptoRow : OpenClaim := { program := "ytcbbinmecnameaadoor", sum := "d88ccb90ad03e049aabe0f3074b2188bf9c2e8528d1ac4d7e2476251461a77a7", func := "pomander/pomanderlaw04.IsaNames", spec := "isaNames", inPlace := ["internal/abi.NoEscape", "internal/bytealg.MakeNoZero"], unfollowed := true, recurses := true, named := ["pomander/isa.ops", "internal/strconv.uint64pow10", "math/bits.deBruijn32tab", "math/bits.deBruijn64tab"], apart := false, laid := [("math/bits.deBruijn32tab", laid_math_bits_deBruijn32tab), ("math/bits.deBruijn64tab", laid_math_bits_deBruijn64tab), ("internal/strconv.uint64pow10", laid_internal_strconv_uint64pow10), ("pomander/isa.ops", laid_pomander_isa_ops)], narrowed := true }
def IsaNamesUptoSaid : Prop := isaNamesUptoRow.holds Tryd.pinned (OpenSpec.upto isaNamesSpec)

/-- 'pomanderlaw04.IsaNear', WHERE WHAT IT READS IS OF BULK AT MOST 1048576: true; the input reads as it did. -/
def isaNearUptoRow : OpenClaim := { program := "ytcbbinmecnameaadoor", sum := "d88ccb90ad03e049aabe0f3074b2188bf9c2e8528d1ac4d7e2476251461a77a7", func := "pomander/pomanderlaw04.IsaNear", spec := "isaNear", inPlace := ["internal/abi.NoEscape", "internal/bytealg.MakeNoZero"], unfollowed := true, recurses := true, named := ["pomander/isa.ops", "internal/strconv.uint64pow10", "math/bits.deBruijn32tab", "math/bits.deBruijn64tab"], apart := false, laid := [("math/bits.deBruijn32tab", laid_math_bits_deBruijn32tab), ("math/bits.deBruijn64tab", laid_math_bits_deBruijn64tab), ("internal/strconv.uint64pow10", laid_internal_strconv_uint64pow10), ("pomander/isa.ops", laid_pomander_isa_ops)], narrowed := true }
def IsaNearUptoSaid : Prop := isaNearUptoRow.holds Tryd.pinned (OpenSpec.upto isaNearSpec)

/-- 'pomanderlaw04.IsaBits', WHERE WHAT IT READS IS OF BULK AT MOST 1048576: true; the input reads as it did. -/
def isaBitsUptoRow : OpenClaim := { program := "ytcbbinmecnameaadoor", sum := "d88ccb90ad03e049aabe0f3074b2188bf9c2e8528d1ac4d7e2476251461a77a7", func := "pomander/pomanderlaw04.IsaBits", spec := "isaBits", inPlace := ["internal/abi.NoEscape", "internal/bytealg.MakeNoZero"], unfollowed := true, recurses := true, named := ["pomander/isa.ops", "internal/strconv.uint64pow10", "math/bits.deBruijn32tab", "math/bits.deBruijn64tab"], apart := false, laid := [("math/bits.deBruijn32tab", laid_math_bits_deBruijn32tab), ("math/bits.deBruijn64tab", laid_math_bits_deBruijn64tab), ("internal/strconv.uint64pow10", laid_internal_strconv_uint64pow10), ("pomander/isa.ops", laid_pomander_isa_ops)], narrowed := true }
def IsaBitsUptoSaid : Prop := isaBitsUptoRow.holds Tryd.pinned (OpenSpec.upto isaBitsSpec)

end Rows
end Go.Proofs.YtcbbinmecnameaaDoor

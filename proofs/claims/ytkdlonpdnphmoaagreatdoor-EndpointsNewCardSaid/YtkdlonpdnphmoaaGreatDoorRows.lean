/-
  NARROWER THAN 'FOR EVERY INPUT', by the rows' own cells (each row's printed sentence says how): EndpointsNew: laid · EndpointsScript: laid · EndpointsUse: laid · EndpointsWrite: laid · EndpointsRead: laid · EndpointsIso: laid.
  DERIVED. THE GIVEN ROWS OF THIS SEAT. 6 by the template 'for every input the law returns true; each argument reads behind the call as it read before'; 0 by the template 'total and deterministic' (their statements: YtkdlonpdnphmoaaGreatDoorTotals.lean).
  GIVEN WITH THE SEED: the statements are not yours to turn. If you find one false, say at which input.
  Laid BY PROGRAM, IN A SANDBOX (cutbox-rows.mjs): the forced cells as the released guide's own fill.sh prints them over the translation 1568eb6e02eedba3… (all of the seat's roots in one cut). By AI agents, Wed Nov 11 2026. No macro, syntax, notation, axiom, sorry.
-/
import Derived.Test.YtkdlonpdnphmoaaGreatDoorChecked
import GoSem.Claim
import GoSem.ClaimJoined
import GoSem.ClaimMapViews
import Derived.JoinedTies
import Derived.KernelRfl
namespace Go.Proofs.YtkdlonpdnphmoaaGreatDoor
/- THE CELL 'sum', in the pinned program and in every row, IS THE sha256 OF THE DUMP (.gsa) THAT YtkdlonpdnphmoaaGreatDoorProg.lean LOADS. Nothing in Lean hashes anything: it is a label: what it is worth is what the hold of that sum in a sandbox is worth. -/
noncomputable def Tryz.pinned : Pinned := { name := "ytkdlonpdnphmoaagreatdoor", sum := "1568eb6e02eedba3a7e95c64a3089fb80827daeca448e9a81e1c2837e160646f", checked := Tryz.checked }
namespace Rows
def none {H : Type} : Left H := { results := [], args := [] }

/- WHAT THE LISTED PACKAGE-LEVEL VARIABLES READ AS WHEN THE CALL BEGINS. Each datum BY PROGRAM (the guide's laid-datum.mjs) off the statement by which the dump's own 'gosem.cut.vars' lays the variable. In a bare row this is a premise. The card (YtkdlonpdnphmoaaGreatDoorCards.lean) ties it to the program's text. -/
def laid_math_bits_deBruijn32tab {H : Type} : DataW H := .agg [.lit (.int .u8 0), .lit (.int .u8 1), .lit (.int .u8 28), .lit (.int .u8 2), .lit (.int .u8 29), .lit (.int .u8 14), .lit (.int .u8 24), .lit (.int .u8 3), .lit (.int .u8 30), .lit (.int .u8 22), .lit (.int .u8 20), .lit (.int .u8 15), .lit (.int .u8 25), .lit (.int .u8 17), .lit (.int .u8 4), .lit (.int .u8 8), .lit (.int .u8 31), .lit (.int .u8 27), .lit (.int .u8 13), .lit (.int .u8 23), .lit (.int .u8 21), .lit (.int .u8 19), .lit (.int .u8 16), .lit (.int .u8 7), .lit (.int .u8 26), .lit (.int .u8 12), .lit (.int .u8 18), .lit (.int .u8 6), .lit (.int .u8 11), .lit (.int .u8 5), .lit (.int .u8 10), .lit (.int .u8 9)]
def laid_math_bits_deBruijn64tab {H : Type} : DataW H := .agg [.lit (.int .u8 0), .lit (.int .u8 1), .lit (.int .u8 56), .lit (.int .u8 2), .lit (.int .u8 57), .lit (.int .u8 49), .lit (.int .u8 28), .lit (.int .u8 3), .lit (.int .u8 61), .lit (.int .u8 58), .lit (.int .u8 42), .lit (.int .u8 50), .lit (.int .u8 38), .lit (.int .u8 29), .lit (.int .u8 17), .lit (.int .u8 4), .lit (.int .u8 62), .lit (.int .u8 47), .lit (.int .u8 59), .lit (.int .u8 36), .lit (.int .u8 45), .lit (.int .u8 43), .lit (.int .u8 51), .lit (.int .u8 22), .lit (.int .u8 53), .lit (.int .u8 39), .lit (.int .u8 33), .lit (.int .u8 30), .lit (.int .u8 24), .lit (.int .u8 18), .lit (.int .u8 12), .lit (.int .u8 5), .lit (.int .u8 63), .lit (.int .u8 55), .lit (.int .u8 48), .lit (.int .u8 27), .lit (.int .u8 60), .lit (.int .u8 41), .lit (.int .u8 37), .lit (.int .u8 16), .lit (.int .u8 46), .lit (.int .u8 35), .lit (.int .u8 44), .lit (.int .u8 21), .lit (.int .u8 52), .lit (.int .u8 32), .lit (.int .u8 23), .lit (.int .u8 11), .lit (.int .u8 54), .lit (.int .u8 26), .lit (.int .u8 40), .lit (.int .u8 15), .lit (.int .u8 34), .lit (.int .u8 20), .lit (.int .u8 31), .lit (.int .u8 10), .lit (.int .u8 25), .lit (.int .u8 14), .lit (.int .u8 19), .lit (.int .u8 9), .lit (.int .u8 13), .lit (.int .u8 8), .lit (.int .u8 7), .lit (.int .u8 6)]
def laid_internal_strconv_uint64pow10 {H : Type} : DataW H := .agg [.lit (.int .u64 1), .lit (.int .u64 10), .lit (.int .u64 100), .lit (.int .u64 1000), .lit (.int .u64 10000), .lit (.int .u64 100000), .lit (.int .u64 1000000), .lit (.int .u64 10000000), .lit (.int .u64 100000000), .lit (.int .u64 1000000000), .lit (.int .u64 10000000000), .lit (.int .u64 100000000000), .lit (.int .u64 1000000000000), .lit (.int .u64 10000000000000), .lit (.int .u64 100000000000000), .lit (.int .u64 1000000000000000), .lit (.int .u64 10000000000000000), .lit (.int .u64 100000000000000000), .lit (.int .u64 1000000000000000000), .lit (.int .u64 10000000000000000000)]
def laid_plugboard_packets_pidNames {H : Type} : DataW H := .agg [.lit (.string []), .lit (.string [111, 117, 116]), .lit (.string [97, 99, 107]), .lit (.string [100, 97, 116, 97, 48]), .lit (.string []), .lit (.string [115, 111, 102]), .lit (.string [110, 121, 101, 116]), .lit (.string []), .lit (.string [115, 112, 108, 105, 116]), .lit (.string [105, 110]), .lit (.string [110, 97, 107]), .lit (.string [100, 97, 116, 97, 49]), .lit (.string []), .lit (.string [115, 101, 116, 117, 112]), .lit (.string [115, 116, 97, 108, 108]), .lit (.string [])]
def laid_plugboard_packets_stepNames {H : Type} : DataW H := .agg [.lit (.string [115, 116, 97, 114, 116]), .lit (.string [99, 111, 109, 112, 108, 101, 116, 101])]
def laid_plugboard_packets_kindNames {H : Type} : DataW H := .agg [.lit (.string [99, 111, 110, 116, 114, 111, 108]), .lit (.string [105, 115, 111, 99, 104, 114, 111, 110, 111, 117, 115]), .lit (.string [98, 117, 108, 107]), .lit (.string [105, 110, 116, 101, 114, 114, 117, 112, 116])]

/-- 'plugboardlaw07.EndpointsNew': WHATEVER THE INPUT: true; the input reads as it did. -/
def endpointsNewSpec : ChangeSpec := { name := "endpointsNew", fn := fun _ => fun
  | [d1, d2] => { results := [.lit (.bool true)], args := [d1, d2] }
  | _ => none }
def endpointsNewRow : OpenClaim := { program := "ytkdlonpdnphmoaagreatdoor", sum := "1568eb6e02eedba3a7e95c64a3089fb80827daeca448e9a81e1c2837e160646f", func := "plugboard/plugboardlaw07.EndpointsNew", spec := "endpointsNew", inPlace := ["internal/abi.NoEscape", "internal/bytealg.MakeNoZero"], unfollowed := true, recurses := true, named := ["plugboard/packets.pidNames", "internal/strconv.uint64pow10", "math/bits.deBruijn32tab", "math/bits.deBruijn64tab", "plugboard/packets.stepNames", "plugboard/packets.kindNames"], plainKeys := false, apart := false, laid := [("math/bits.deBruijn32tab", laid_math_bits_deBruijn32tab), ("math/bits.deBruijn64tab", laid_math_bits_deBruijn64tab), ("internal/strconv.uint64pow10", laid_internal_strconv_uint64pow10), ("plugboard/packets.pidNames", laid_plugboard_packets_pidNames), ("plugboard/packets.stepNames", laid_plugboard_packets_stepNames), ("plugboard/packets.kindNames", laid_plugboard_packets_kindNames)] }
def EndpointsNewSaid : Prop := endpointsNewRow.holds Tryz.pinned (OpenSpec.ofChange endpointsNewSpec)

/-- ITS FALSE NEIGHBOUR: 'it returns false'. Refute it at one input. -/
def endpointsNewWrong : ChangeSpec := { name := "endpointsNew", fn := fun _ => fun
  | [d1, d2] => { results := [.lit (.bool false)], args := [d1, d2] }
  | _ => none }
def EndpointsNewWrongFalsely : Prop := endpointsNewRow.holds Tryz.pinned (OpenSpec.ofChange endpointsNewWrong)

/-- 'plugboardlaw07.EndpointsScript': WHATEVER THE INPUT: true; the input reads as it did. -/
def endpointsScriptSpec : ChangeSpec := { name := "endpointsScript", fn := fun _ => fun
  | [d] => { results := [.lit (.bool true)], args := [d] }
  | _ => none }
def endpointsScriptRow : OpenClaim := { program := "ytkdlonpdnphmoaagreatdoor", sum := "1568eb6e02eedba3a7e95c64a3089fb80827daeca448e9a81e1c2837e160646f", func := "plugboard/plugboardlaw07.EndpointsScript", spec := "endpointsScript", inPlace := ["internal/abi.NoEscape", "internal/bytealg.MakeNoZero"], unfollowed := true, recurses := true, named := ["plugboard/packets.pidNames", "internal/strconv.uint64pow10", "math/bits.deBruijn32tab", "math/bits.deBruijn64tab", "plugboard/packets.stepNames", "plugboard/packets.kindNames"], plainKeys := false, apart := false, laid := [("math/bits.deBruijn32tab", laid_math_bits_deBruijn32tab), ("math/bits.deBruijn64tab", laid_math_bits_deBruijn64tab), ("internal/strconv.uint64pow10", laid_internal_strconv_uint64pow10), ("plugboard/packets.pidNames", laid_plugboard_packets_pidNames), ("plugboard/packets.stepNames", laid_plugboard_packets_stepNames), ("plugboard/packets.kindNames", laid_plugboard_packets_kindNames)] }
def EndpointsScriptSaid : Prop := endpointsScriptRow.holds Tryz.pinned (OpenSpec.ofChange endpointsScriptSpec)

/-- ITS FALSE NEIGHBOUR: 'it returns false'. Refute it at one input. -/
def endpointsScriptWrong : ChangeSpec := { name := "endpointsScript", fn := fun _ => fun
  | [d] => { results := [.lit (.bool false)], args := [d] }
  | _ => none }
def EndpointsScriptWrongFalsely : Prop := endpointsScriptRow.holds Tryz.pinned (OpenSpec.ofChange endpointsScriptWrong)

/-- 'plugboardlaw07.EndpointsUse': WHATEVER THE INPUT: true; the input reads as it did. -/
def endpointsUseSpec : ChangeSpec := { name := "endpointsUse", fn := fun _ => fun
  | [d1, d2] => { results := [.lit (.bool true)], args := [d1, d2] }
  | _ => none }
def endpointsUseRow : OpenClaim := { program := "ytkdlonpdnphmoaagreatdoor", sum := "1568eb6e02eedba3a7e95c64a3089fb80827daeca448e9a81e1c2837e160646f", func := "plugboard/plugboardlaw07.EndpointsUse", spec := "endpointsUse", inPlace := ["internal/abi.NoEscape", "internal/bytealg.MakeNoZero"], unfollowed := true, recurses := true, named := ["plugboard/packets.pidNames", "internal/strconv.uint64pow10", "math/bits.deBruijn32tab", "math/bits.deBruijn64tab", "plugboard/packets.stepNames", "plugboard/packets.kindNames"], plainKeys := false, apart := false, laid := [("math/bits.deBruijn32tab", laid_math_bits_deBruijn32tab), ("math/bits.deBruijn64tab", laid_math_bits_deBruijn64tab), ("internal/strconv.uint64pow10", laid_internal_strconv_uint64pow10), ("plugboard/packets.pidNames", laid_plugboard_packets_pidNames), ("plugboard/packets.stepNames", laid_plugboard_packets_stepNames), ("plugboard/packets.kindNames", laid_plugboard_packets_kindNames)] }
def EndpointsUseSaid : Prop := endpointsUseRow.holds Tryz.pinned (OpenSpec.ofChange endpointsUseSpec)

/-- ITS FALSE NEIGHBOUR: 'it returns false'. Refute it at one input. -/
def endpointsUseWrong : ChangeSpec := { name := "endpointsUse", fn := fun _ => fun
  | [d1, d2] => { results := [.lit (.bool false)], args := [d1, d2] }
  | _ => none }
def EndpointsUseWrongFalsely : Prop := endpointsUseRow.holds Tryz.pinned (OpenSpec.ofChange endpointsUseWrong)

/-- 'plugboardlaw07.EndpointsWrite': WHATEVER THE INPUT: true; the input reads as it did. -/
def endpointsWriteSpec : ChangeSpec := { name := "endpointsWrite", fn := fun _ => fun
  | [d1, d2, d3] => { results := [.lit (.bool true)], args := [d1, d2, d3] }
  | _ => none }
def endpointsWriteRow : OpenClaim := { program := "ytkdlonpdnphmoaagreatdoor", sum := "1568eb6e02eedba3a7e95c64a3089fb80827daeca448e9a81e1c2837e160646f", func := "plugboard/plugboardlaw07.EndpointsWrite", spec := "endpointsWrite", inPlace := ["internal/abi.NoEscape", "internal/bytealg.MakeNoZero"], unfollowed := true, recurses := true, named := ["plugboard/packets.pidNames", "internal/strconv.uint64pow10", "math/bits.deBruijn32tab", "math/bits.deBruijn64tab", "plugboard/packets.stepNames", "plugboard/packets.kindNames"], plainKeys := false, apart := false, laid := [("math/bits.deBruijn32tab", laid_math_bits_deBruijn32tab), ("math/bits.deBruijn64tab", laid_math_bits_deBruijn64tab), ("internal/strconv.uint64pow10", laid_internal_strconv_uint64pow10), ("plugboard/packets.pidNames", laid_plugboard_packets_pidNames), ("plugboard/packets.stepNames", laid_plugboard_packets_stepNames), ("plugboard/packets.kindNames", laid_plugboard_packets_kindNames)] }
def EndpointsWriteSaid : Prop := endpointsWriteRow.holds Tryz.pinned (OpenSpec.ofChange endpointsWriteSpec)

/-- ITS FALSE NEIGHBOUR: 'it returns false'. Refute it at one input. -/
def endpointsWriteWrong : ChangeSpec := { name := "endpointsWrite", fn := fun _ => fun
  | [d1, d2, d3] => { results := [.lit (.bool false)], args := [d1, d2, d3] }
  | _ => none }
def EndpointsWriteWrongFalsely : Prop := endpointsWriteRow.holds Tryz.pinned (OpenSpec.ofChange endpointsWriteWrong)

/-- 'plugboardlaw07.EndpointsRead': WHATEVER THE INPUT: true; the input reads as it did. -/
def endpointsReadSpec : ChangeSpec := { name := "endpointsRead", fn := fun _ => fun
  | [d1, d2, d3] => { results := [.lit (.bool true)], args := [d1, d2, d3] }
  | _ => none }
def endpointsReadRow : OpenClaim := { program := "ytkdlonpdnphmoaagreatdoor", sum := "1568eb6e02eedba3a7e95c64a3089fb80827daeca448e9a81e1c2837e160646f", func := "plugboard/plugboardlaw07.EndpointsRead", spec := "endpointsRead", inPlace := ["internal/abi.NoEscape", "internal/bytealg.MakeNoZero"], unfollowed := true, recurses := true, named := ["plugboard/packets.pidNames", "internal/strconv.uint64pow10", "math/bits.deBruijn32tab", "math/bits.deBruijn64tab", "plugboard/packets.stepNames", "plugboard/packets.kindNames"], plainKeys := false, apart := false, laid := [("math/bits.deBruijn32tab", laid_math_bits_deBruijn32tab), ("math/bits.deBruijn64tab", laid_math_bits_deBruijn64tab), ("internal/strconv.uint64pow10", laid_internal_strconv_uint64pow10), ("plugboard/packets.pidNames", laid_plugboard_packets_pidNames), ("plugboard/packets.stepNames", laid_plugboard_packets_stepNames), ("plugboard/packets.kindNames", laid_plugboard_packets_kindNames)] }
def EndpointsReadSaid : Prop := endpointsReadRow.holds Tryz.pinned (OpenSpec.ofChange endpointsReadSpec)

/-- ITS FALSE NEIGHBOUR: 'it returns false'. Refute it at one input. -/
def endpointsReadWrong : ChangeSpec := { name := "endpointsRead", fn := fun _ => fun
  | [d1, d2, d3] => { results := [.lit (.bool false)], args := [d1, d2, d3] }
  | _ => none }
def EndpointsReadWrongFalsely : Prop := endpointsReadRow.holds Tryz.pinned (OpenSpec.ofChange endpointsReadWrong)

/-- 'plugboardlaw07.EndpointsIso': WHATEVER THE INPUT: true; the input reads as it did. -/
def endpointsIsoSpec : ChangeSpec := { name := "endpointsIso", fn := fun _ => fun
  | [d1, d2, d3] => { results := [.lit (.bool true)], args := [d1, d2, d3] }
  | _ => none }
def endpointsIsoRow : OpenClaim := { program := "ytkdlonpdnphmoaagreatdoor", sum := "1568eb6e02eedba3a7e95c64a3089fb80827daeca448e9a81e1c2837e160646f", func := "plugboard/plugboardlaw07.EndpointsIso", spec := "endpointsIso", inPlace := ["internal/abi.NoEscape", "internal/bytealg.MakeNoZero"], unfollowed := true, recurses := true, named := ["plugboard/packets.pidNames", "internal/strconv.uint64pow10", "math/bits.deBruijn32tab", "math/bits.deBruijn64tab", "plugboard/packets.stepNames", "plugboard/packets.kindNames"], plainKeys := false, apart := false, laid := [("math/bits.deBruijn32tab", laid_math_bits_deBruijn32tab), ("math/bits.deBruijn64tab", laid_math_bits_deBruijn64tab), ("internal/strconv.uint64pow10", laid_internal_strconv_uint64pow10), ("plugboard/packets.pidNames", laid_plugboard_packets_pidNames), ("plugboard/packets.stepNames", laid_plugboard_packets_stepNames), ("plugboard/packets.kindNames", laid_plugboard_packets_kindNames)] }
def EndpointsIsoSaid : Prop := endpointsIsoRow.holds Tryz.pinned (OpenSpec.ofChange endpointsIsoSpec)

/-- ITS FALSE NEIGHBOUR: 'it returns false'. Refute it at one input. -/
def endpointsIsoWrong : ChangeSpec := { name := "endpointsIso", fn := fun _ => fun
  | [d1, d2, d3] => { results := [.lit (.bool false)], args := [d1, d2, d3] }
  | _ => none }
def EndpointsIsoWrongFalsely : Prop := endpointsIsoRow.holds Tryz.pinned (OpenSpec.ofChange endpointsIsoWrong)

/- THE SECOND FORM. 'bulk': how many values and letters a reading holds, each counted each time it is reached (what is shared counts as often as it is met; a slice's spare places count too). A statement '..UptoSaid' is the law's where the arguments, and the package variables that the reading takes, are together of bulk at most 1048576: NARROWER than '..Said'. Prove '..Said' where nothing that the law and all that it calls make is longer than what came in: it says more and counts as full. Else prove '..UptoSaid'. A law counts once. -/
mutual
def uptoBulk {H : Type} : DataW H → Nat
  | .lit (.string bytes) => bytes.length + 1
  | .lit _ => 1
  | .nil => 1
  | .ptr d => uptoBulk d + 1
  | .slice elems spare => uptoBulkAll elems + uptoBulkAll spare + 1
  | .agg parts => uptoBulkAll parts + 1
  | .iface _ d => uptoBulk d + 1
  | .map entries => uptoBulkEntries entries + 1
  | .held _ => 1
def uptoBulkAll {H : Type} : List (DataW H) → Nat
  | [] => 0
  | d :: r => uptoBulk d + uptoBulkAll r
def uptoBulkEntries {H : Type} : List (Lit × DataW H) → Nat
  | [] => 0
  | x :: r => uptoBulkEntry x + uptoBulkEntries r
def uptoBulkEntry {H : Type} : Lit × DataW H → Nat
  | (.string bytes, d) => bytes.length + uptoBulk d + 1
  | (_, d) => uptoBulk d + 1
 end
def uptoSmall : (H : Type) → List (DataW H) → Bool := fun _ ds => decide (uptoBulkAll ds ≤ 1048576)
def OpenSpec.upto (s : _root_.Go.ChangeSpec) : _root_.Go.OpenSpec := { _root_.Go.OpenSpec.ofChange s with cond := some uptoSmall }

/-- 'plugboardlaw07.EndpointsNew', WHERE WHAT IT READS IS OF BULK AT MOST 1048576: true; the input reads as it did. -/
def endpointsNewUptoRow : OpenClaim := { program := "ytkdlonpdnphmoaagreatdoor", sum := "1568eb6e02eedba3a7e95c64a3089fb80827daeca448e9a81e1c2837e160646f", func := "plugboard/plugboardlaw07.EndpointsNew", spec := "endpointsNew", inPlace := ["internal/abi.NoEscape", "internal/bytealg.MakeNoZero"], unfollowed := true, recurses := true, named := ["plugboard/packets.pidNames", "internal/strconv.uint64pow10", "math/bits.deBruijn32tab", "math/bits.deBruijn64tab", "plugboard/packets.stepNames", "plugboard/packets.kindNames"], plainKeys := false, apart := false, laid := [("math/bits.deBruijn32tab", laid_math_bits_deBruijn32tab), ("math/bits.deBruijn64tab", laid_math_bits_deBruijn64tab), ("internal/strconv.uint64pow10", laid_internal_strconv_uint64pow10), ("plugboard/packets.pidNames", laid_plugboard_packets_pidNames), ("plugboard/packets.stepNames", laid_plugboard_packets_stepNames), ("plugboard/packets.kindNames", laid_plugboard_packets_kindNames)], narrowed := true }
def EndpointsNewUptoSaid : Prop := endpointsNewUptoRow.holds Tryz.pinned (OpenSpec.upto endpointsNewSpec)

/-- 'plugboardlaw07.EndpointsScript', WHERE WHAT IT READS IS OF BULK AT MOST 1048576: true; the input reads as it did. -/
def endpointsScriptUptoRow : OpenClaim := { program := "ytkdlonpdnphmoaagreatdoor", sum := "1568eb6e02eedba3a7e95c64a3089fb80827daeca448e9a81e1c2837e160646f", func := "plugboard/plugboardlaw07.EndpointsScript", spec := "endpointsScript", inPlace := ["internal/abi.NoEscape", "internal/bytealg.MakeNoZero"], unfollowed := true, recurses := true, named := ["plugboard/packets.pidNames", "internal/strconv.uint64pow10", "math/bits.deBruijn32tab", "math/bits.deBruijn64tab", "plugboard/packets.stepNames", "plugboard/packets.kindNames"], plainKeys := false, apart := false, laid := [("math/bits.deBruijn32tab", laid_math_bits_deBruijn32tab), ("math/bits.deBruijn64tab", laid_math_bits_deBruijn64tab), ("internal/strconv.uint64pow10", laid_internal_strconv_uint64pow10), ("plugboard/packets.pidNames", laid_plugboard_packets_pidNames), ("plugboard/packets.stepNames", laid_plugboard_packets_stepNames), ("plugboard/packets.kindNames", laid_plugboard_packets_kindNames)], narrowed := true }
def EndpointsScriptUptoSaid : Prop := endpointsScriptUptoRow.holds Tryz.pinned (OpenSpec.upto endpointsScriptSpec)

/-- 'plugboardlaw07.EndpointsUse', WHERE WHAT IT READS IS OF BULK AT MOST 1048576: true; the input reads as it did. -/
def endpointsUseUptoRow : OpenClaim := { program := "ytkdlonpdnphmoaagreatdoor", sum := "1568eb6e02eedba3a7e95c64a3089fb80827daeca448e9a81e1c2837e160646f", func := "plugboard/plugboardlaw07.EndpointsUse", spec := "endpointsUse", inPlace := ["internal/abi.NoEscape", "internal/bytealg.MakeNoZero"], unfollowed := true, recurses := true, named := ["plugboard/packets.pidNames", "internal/strconv.uint64pow10", "math/bits.deBruijn32tab", "math/bits.deBruijn64tab", "plugboard/packets.stepNames", "plugboard/packets.kindNames"], plainKeys := false, apart := false, laid := [("math/bits.deBruijn32tab", laid_math_bits_deBruijn32tab), ("math/bits.deBruijn64tab", laid_math_bits_deBruijn64tab), ("internal/strconv.uint64pow10", laid_internal_strconv_uint64pow10), ("plugboard/packets.pidNames", laid_plugboard_packets_pidNames), ("plugboard/packets.stepNames", laid_plugboard_packets_stepNames), ("plugboard/packets.kindNames", laid_plugboard_packets_kindNames)], narrowed := true }
def EndpointsUseUptoSaid : Prop := endpointsUseUptoRow.holds Tryz.pinned (OpenSpec.upto endpointsUseSpec)

/-- 'plugboardlaw07.EndpointsWrite', WHERE WHAT IT READS IS OF BULK AT MOST 1048576: true; the input reads as it did. -/
def endpointsWriteUptoRow : OpenClaim := { program := "ytkdlonpdnphmoaagreatdoor", sum := "1568eb6e02eedba3a7e95c64a3089fb80827daeca448e9a81e1c2837e160646f", func := "plugboard/plugboardlaw07.EndpointsWrite", spec := "endpointsWrite", inPlace := ["internal/abi.NoEscape", "internal/bytealg.MakeNoZero"], unfollowed := true, recurses := true, named := ["plugboard/packets.pidNames", "internal/strconv.uint64pow10", "math/bits.deBruijn32tab", "math/bits.deBruijn64tab", "plugboard/packets.stepNames", "plugboard/packets.kindNames"], plainKeys := false, apart := false, laid := [("math/bits.deBruijn32tab", laid_math_bits_deBruijn32tab), ("math/bits.deBruijn64tab", laid_math_bits_deBruijn64tab), ("internal/strconv.uint64pow10", laid_internal_strconv_uint64pow10), ("plugboard/packets.pidNames", laid_plugboard_packets_pidNames), ("plugboard/packets.stepNames", laid_plugboard_packets_stepNames), ("plugboard/packets.kindNames", laid_plugboard_packets_kindNames)], narrowed := true }
def EndpointsWriteUptoSaid : Prop := endpointsWriteUptoRow.holds Tryz.pinned (OpenSpec.upto endpointsWriteSpec)

/-- 'plugboardlaw07.EndpointsRead', WHERE WHAT IT READS IS OF BULK AT MOST 1048576: true; the input reads as it did. -/
def endpointsReadUptoRow : OpenClaim := { program := "ytkdlonpdnphmoaagreatdoor", sum := "1568eb6e02eedba3a7e95c64a3089fb80827daeca448e9a81e1c2837e160646f", func := "plugboard/plugboardlaw07.EndpointsRead", spec := "endpointsRead", inPlace := ["internal/abi.NoEscape", "internal/bytealg.MakeNoZero"], unfollowed := true, recurses := true, named := ["plugboard/packets.pidNames", "internal/strconv.uint64pow10", "math/bits.deBruijn32tab", "math/bits.deBruijn64tab", "plugboard/packets.stepNames", "plugboard/packets.kindNames"], plainKeys := false, apart := false, laid := [("math/bits.deBruijn32tab", laid_math_bits_deBruijn32tab), ("math/bits.deBruijn64tab", laid_math_bits_deBruijn64tab), ("internal/strconv.uint64pow10", laid_internal_strconv_uint64pow10), ("plugboard/packets.pidNames", laid_plugboard_packets_pidNames), ("plugboard/packets.stepNames", laid_plugboard_packets_stepNames), ("plugboard/packets.kindNames", laid_plugboard_packets_kindNames)], narrowed := true }
def EndpointsReadUptoSaid : Prop := endpointsReadUptoRow.holds Tryz.pinned (OpenSpec.upto endpointsReadSpec)

/-- 'plugboardlaw07.EndpointsIso', WHERE WHAT IT READS IS OF BULK AT MOST 1048576: true; the input reads as it did. -/
def endpointsIsoUptoRow : OpenClaim := { program := "ytkdlonpdnphmoaagreatdoor", sum := "1568eb6e02eedba3a7e95c64a3089fb80827daeca448e9a81e1c2837e160646f", func := "plugboard/plugboardlaw07.EndpointsIso", spec := "endpointsIso", inPlace := ["internal/abi.NoEscape", "internal/bytealg.MakeNoZero"], unfollowed := true, recurses := true, named := ["plugboard/packets.pidNames", "internal/strconv.uint64pow10", "math/bits.deBruijn32tab", "math/bits.deBruijn64tab", "plugboard/packets.stepNames", "plugboard/packets.kindNames"], plainKeys := false, apart := false, laid := [("math/bits.deBruijn32tab", laid_math_bits_deBruijn32tab), ("math/bits.deBruijn64tab", laid_math_bits_deBruijn64tab), ("internal/strconv.uint64pow10", laid_internal_strconv_uint64pow10), ("plugboard/packets.pidNames", laid_plugboard_packets_pidNames), ("plugboard/packets.stepNames", laid_plugboard_packets_stepNames), ("plugboard/packets.kindNames", laid_plugboard_packets_kindNames)], narrowed := true }
def EndpointsIsoUptoSaid : Prop := endpointsIsoUptoRow.holds Tryz.pinned (OpenSpec.upto endpointsIsoSpec)

end Rows
end Go.Proofs.YtkdlonpdnphmoaaGreatDoor

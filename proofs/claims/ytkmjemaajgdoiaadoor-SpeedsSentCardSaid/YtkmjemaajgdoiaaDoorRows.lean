/-
  NARROWER THAN 'FOR EVERY INPUT', by the rows' own cells (each row's printed sentence says how): SpeedsWorst: laid · SpeedsSent: laid.
  DERIVED. THE GIVEN ROWS OF THIS SEAT. 2 by the template 'for every input the law returns true; each argument reads behind the call as it read before'; 0 by the template 'total and deterministic' (their statements: YtkmjemaajgdoiaaDoorTotals.lean).
  GIVEN WITH THE SEED: the statements are not yours to turn. If you find one false, say at which input.
  Laid BY PROGRAM, IN A SANDBOX (cutbox-rows.mjs): the forced cells as the released guide's own fill.sh prints them over the translation 695c1f0c3b73353b… (all of the seat's roots in one cut). By AI agents, Wed Nov 11 2026. No macro, syntax, notation, axiom, sorry.
-/
import Derived.Test.YtkmjemaajgdoiaaDoorChecked
import GoSem.Claim
import GoSem.ClaimJoined
import GoSem.ClaimMapViews
import Derived.JoinedTies
import Derived.KernelRfl
namespace Go.Proofs.YtkmjemaajgdoiaaDoor
/- THE CELL 'sum', in the pinned program and in every row, IS THE sha256 OF THE DUMP (.gsa) THAT YtkmjemaajgdoiaaDoorProg.lean LOADS. Nothing in Lean hashes anything: it is a label: what it is worth is what the hold of that sum in a sandbox is worth. -/
noncomputable def Tryd.pinned : Pinned := { name := "ytkmjemaajgdoiaadoor", sum := "695c1f0c3b73353b474c2c062526a20f5861c5bc05b48c7a03bdf9f488f70c06", checked := Tryd.checked }
namespace Rows
def none {H : Type} : Left H := { results := [], args := [] }

/- WHAT THE LISTED PACKAGE-LEVEL VARIABLES READ AS WHEN THE CALL BEGINS. Each datum BY PROGRAM (the guide's laid-datum.mjs) off the statement by which the dump's own 'gosem.cut.vars' lays the variable. In a bare row this is a premise. The card (YtkmjemaajgdoiaaDoorCards.lean) ties it to the program's text. -/
def laid_plugboard_levels_syncBits {H : Type} : DataW H := .agg [.lit (.int .u8 0), .lit (.int .u8 0), .lit (.int .u8 0), .lit (.int .u8 0), .lit (.int .u8 0), .lit (.int .u8 0), .lit (.int .u8 0), .lit (.int .u8 1)]
def laid_plugboard_levels_endStates {H : Type} : DataW H := .agg [.lit (.int .u8 2), .lit (.int .u8 2), .lit (.int .u8 0)]
def laid_plugboard_checks_behindOne {H : Type} : DataW H := .agg [.lit (.int .u8 0), .lit (.int .u8 20)]
def laid_plugboard_checks_behindFour {H : Type} : DataW H := .agg [.lit (.int .u16 0), .lit (.int .u16 52225), .lit (.int .u16 55297), .lit (.int .u16 5120), .lit (.int .u16 61441), .lit (.int .u16 15360), .lit (.int .u16 10240), .lit (.int .u16 58369), .lit (.int .u16 40961), .lit (.int .u16 27648), .lit (.int .u16 30720), .lit (.int .u16 46081), .lit (.int .u16 20480), .lit (.int .u16 39937), .lit (.int .u16 34817), .lit (.int .u16 17408)]
def laid_plugboard_packets_pidNames {H : Type} : DataW H := .agg [.lit (.string []), .lit (.string [111, 117, 116]), .lit (.string [97, 99, 107]), .lit (.string [100, 97, 116, 97, 48]), .lit (.string []), .lit (.string [115, 111, 102]), .lit (.string [110, 121, 101, 116]), .lit (.string []), .lit (.string [115, 112, 108, 105, 116]), .lit (.string [105, 110]), .lit (.string [110, 97, 107]), .lit (.string [100, 97, 116, 97, 49]), .lit (.string []), .lit (.string [115, 101, 116, 117, 112]), .lit (.string [115, 116, 97, 108, 108]), .lit (.string [])]

/-- 'plugboardlaw04.SpeedsWorst': WHATEVER THE INPUT: true; the input reads as it did. -/
def speedsWorstSpec : ChangeSpec := { name := "speedsWorst", fn := fun _ => fun
  | [d1, d2] => { results := [.lit (.bool true)], args := [d1, d2] }
  | _ => none }
def speedsWorstRow : OpenClaim := { program := "ytkmjemaajgdoiaadoor", sum := "695c1f0c3b73353b474c2c062526a20f5861c5bc05b48c7a03bdf9f488f70c06", func := "plugboard/plugboardlaw04.SpeedsWorst", spec := "speedsWorst", unfollowed := true, recurses := true, named := ["plugboard/levels.syncBits", "plugboard/levels.endStates"], apart := false, laid := [("plugboard/levels.syncBits", laid_plugboard_levels_syncBits), ("plugboard/levels.endStates", laid_plugboard_levels_endStates)] }
def SpeedsWorstSaid : Prop := speedsWorstRow.holds Tryd.pinned (OpenSpec.ofChange speedsWorstSpec)

/-- ITS FALSE NEIGHBOUR: 'it returns false'. Refute it at one input. -/
def speedsWorstWrong : ChangeSpec := { name := "speedsWorst", fn := fun _ => fun
  | [d1, d2] => { results := [.lit (.bool false)], args := [d1, d2] }
  | _ => none }
def SpeedsWorstWrongFalsely : Prop := speedsWorstRow.holds Tryd.pinned (OpenSpec.ofChange speedsWorstWrong)

/-- 'plugboardlaw04.SpeedsSent': WHATEVER THE INPUT: true; the input reads as it did. -/
def speedsSentSpec : ChangeSpec := { name := "speedsSent", fn := fun _ => fun
  | [d1, d2, d3] => { results := [.lit (.bool true)], args := [d1, d2, d3] }
  | _ => none }
def speedsSentRow : OpenClaim := { program := "ytkmjemaajgdoiaadoor", sum := "695c1f0c3b73353b474c2c062526a20f5861c5bc05b48c7a03bdf9f488f70c06", func := "plugboard/plugboardlaw04.SpeedsSent", spec := "speedsSent", unfollowed := true, recurses := true, named := ["plugboard/packets.pidNames", "plugboard/checks.behindFour", "plugboard/checks.behindOne", "plugboard/levels.syncBits", "plugboard/levels.endStates"], apart := false, laid := [("plugboard/checks.behindOne", laid_plugboard_checks_behindOne), ("plugboard/checks.behindFour", laid_plugboard_checks_behindFour), ("plugboard/levels.syncBits", laid_plugboard_levels_syncBits), ("plugboard/levels.endStates", laid_plugboard_levels_endStates), ("plugboard/packets.pidNames", laid_plugboard_packets_pidNames)] }
def SpeedsSentSaid : Prop := speedsSentRow.holds Tryd.pinned (OpenSpec.ofChange speedsSentSpec)

/-- ITS FALSE NEIGHBOUR: 'it returns false'. Refute it at one input. -/
def speedsSentWrong : ChangeSpec := { name := "speedsSent", fn := fun _ => fun
  | [d1, d2, d3] => { results := [.lit (.bool false)], args := [d1, d2, d3] }
  | _ => none }
def SpeedsSentWrongFalsely : Prop := speedsSentRow.holds Tryd.pinned (OpenSpec.ofChange speedsSentWrong)

/- THE SECOND FORM. 'bulk': how many values and letters a reading holds, each counted each time it is reached (what is shared counts as often as it is met; a slice's spare places count too). A statement '..UptoSaid' is the law's where the arguments, and the package variables that the reading takes, are together of bulk at most 1048576: NARROWER than '..Said'. Prove '..Said' where nothing that the law and all that it calls make is longer than what came in: it says more and counts as full. Else prove '..UptoSaid'. A law counts once. -/
mutual
def uptoBulk {H : Type} : DataW H → Nat
  | .lit (.string bytes) => bytes.length + 1
  | .lit _ => 1
  | .nil => 1
  | .ptr d => uptoBulk d + 1
  | .slice elems spare => uptoBulkAll elems + uptoBulkAll spare + 1
  | .agg parts => uptoBulkAll parts + 1
  | .iface _ d => uptoBulk d + 1
  | .map entries => uptoBulkEntries entries + 1
  | .held _ => 1
def uptoBulkAll {H : Type} : List (DataW H) → Nat
  | [] => 0
  | d :: r => uptoBulk d + uptoBulkAll r
def uptoBulkEntries {H : Type} : List (Lit × DataW H) → Nat
  | [] => 0
  | x :: r => uptoBulkEntry x + uptoBulkEntries r
def uptoBulkEntry {H : Type} : Lit × DataW H → Nat
  | (.string bytes, d) => bytes.length + uptoBulk d + 1
  | (_, d) => uptoBulk d + 1
 end
def uptoSmall : (H : Type) → List (DataW H) → Bool := fun _ ds => decide (uptoBulkAll ds ≤ 1048576)
def OpenSpec.upto (s : _root_.Go.ChangeSpec) : _root_.Go.OpenSpec := { _root_.Go.OpenSpec.ofChange s with cond := some uptoSmall }

/-- 'plugboardlaw04.SpeedsWorst', WHERE WHAT IT READS IS OF BULK AT MOST 1048576: true; the input reads as it did. -/
def speedsWorstUptoRow : OpenClaim := { program := "ytkmjemaajgdoiaadoor", sum := "695c1f0c3b73353b474c2c062526a20f5861c5bc05b48c7a03bdf9f488f70c06", func := "plugboard/plugboardlaw04.SpeedsWorst", spec := "speedsWorst", unfollowed := true, recurses := true, named := ["plugboard/levels.syncBits", "plugboard/levels.endStates"], apart := false, laid := [("plugboard/levels.syncBits", laid_plugboard_levels_syncBits), ("plugboard/levels.endStates", laid_plugboard_levels_endStates)], narrowed := true }
def SpeedsWorstUptoSaid : Prop := speedsWorstUptoRow.holds Tryd.pinned (OpenSpec.upto speedsWorstSpec)

/-- 'plugboardlaw04.SpeedsSent', WHERE WHAT IT READS IS OF BULK AT MOST 1048576: true; the input reads as it did. -/
def speedsSentUptoRow : OpenClaim := { program := "ytkmjemaajgdoiaadoor", sum := "695c1f0c3b73353b474c2c062526a20f5861c5bc05b48c7a03bdf9f488f70c06", func := "plugboard/plugboardlaw04.SpeedsSent", spec := "speedsSent", unfollowed := true, recurses := true, named := ["plugboard/packets.pidNames", "plugboard/checks.behindFour", "plugboard/checks.behindOne", "plugboard/levels.syncBits", "plugboard/levels.endStates"], apart := false, laid := [("plugboard/checks.behindOne", laid_plugboard_checks_behindOne), ("plugboard/checks.behindFour", laid_plugboard_checks_behindFour), ("plugboard/levels.syncBits", laid_plugboard_levels_syncBits), ("plugboard/levels.endStates", laid_plugboard_levels_endStates), ("plugboard/packets.pidNames", laid_plugboard_packets_pidNames)], narrowed := true }
def SpeedsSentUptoSaid : Prop := speedsSentUptoRow.holds Tryd.pinned (OpenSpec.upto speedsSentSpec)

end Rows
end Go.Proofs.YtkmjemaajgdoiaaDoor

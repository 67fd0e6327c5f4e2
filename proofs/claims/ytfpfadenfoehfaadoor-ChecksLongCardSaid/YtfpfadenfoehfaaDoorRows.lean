/-
  NARROWER THAN 'FOR EVERY INPUT', by the rows' own cells (each row's printed sentence says how): ChecksFive: laid · ChecksPart: laid · ChecksSixteen: laid · ChecksShort: laid · ChecksLong: laid.
  DERIVED. THE GIVEN ROWS OF THIS SEAT. 5 by the template 'for every input the law returns true; each argument reads behind the call as it read before'; 0 by the template 'total and deterministic' (their statements: YtfpfadenfoehfaaDoorTotals.lean).
  GIVEN WITH THE SEED: the statements are not yours to turn. If you find one false, say at which input.
  Laid BY PROGRAM, IN A SANDBOX (cutbox-rows.mjs): the forced cells as the released guide's own fill.sh prints them over the translation b504f14f562d3721… (all of the seat's roots in one cut). By AI agents, Wed Nov 11 2026. No macro, syntax, notation, axiom, sorry.
-/
import Derived.Test.YtfpfadenfoehfaaDoorChecked
import GoSem.Claim
import GoSem.ClaimJoined
import GoSem.ClaimMapViews
import Derived.JoinedTies
import Derived.KernelRfl
namespace Go.Proofs.YtfpfadenfoehfaaDoor
/- THE CELL 'sum', in the pinned program and in every row, IS THE sha256 OF THE DUMP (.gsa) THAT YtfpfadenfoehfaaDoorProg.lean LOADS. Nothing in Lean hashes anything: it is a label: what it is worth is what the hold of that sum in a sandbox is worth. -/
noncomputable def Tryd.pinned : Pinned := { name := "ytfpfadenfoehfaadoor", sum := "b504f14f562d3721190f14ec91d92960047760f805012471f17735de910f76ba", checked := Tryd.checked }
namespace Rows
def none {H : Type} : Left H := { results := [], args := [] }

/- WHAT THE LISTED PACKAGE-LEVEL VARIABLES READ AS WHEN THE CALL BEGINS. Each datum BY PROGRAM (the guide's laid-datum.mjs) off the statement by which the dump's own 'gosem.cut.vars' lays the variable. In a bare row this is a premise. The card (YtfpfadenfoehfaaDoorCards.lean) ties it to the program's text. -/
def laid_plugboard_checks_behindOne {H : Type} : DataW H := .agg [.lit (.int .u8 0), .lit (.int .u8 20)]
def laid_plugboard_checks_behindFour {H : Type} : DataW H := .agg [.lit (.int .u16 0), .lit (.int .u16 52225), .lit (.int .u16 55297), .lit (.int .u16 5120), .lit (.int .u16 61441), .lit (.int .u16 15360), .lit (.int .u16 10240), .lit (.int .u16 58369), .lit (.int .u16 40961), .lit (.int .u16 27648), .lit (.int .u16 30720), .lit (.int .u16 46081), .lit (.int .u16 20480), .lit (.int .u16 39937), .lit (.int .u16 34817), .lit (.int .u16 17408)]

/-- 'plugboardlaw02.ChecksFive': WHATEVER THE INPUT: true; the input reads as it did. -/
def checksFiveSpec : ChangeSpec := { name := "checksFive", fn := fun _ => fun
  | [d1, d2] => { results := [.lit (.bool true)], args := [d1, d2] }
  | _ => none }
def checksFiveRow : OpenClaim := { program := "ytfpfadenfoehfaadoor", sum := "b504f14f562d3721190f14ec91d92960047760f805012471f17735de910f76ba", func := "plugboard/plugboardlaw02.ChecksFive", spec := "checksFive", unfollowed := true, recurses := true, named := ["plugboard/checks.behindOne", "plugboard/checks.behindFour"], apart := false, laid := [("plugboard/checks.behindOne", laid_plugboard_checks_behindOne), ("plugboard/checks.behindFour", laid_plugboard_checks_behindFour)] }
def ChecksFiveSaid : Prop := checksFiveRow.holds Tryd.pinned (OpenSpec.ofChange checksFiveSpec)

/-- ITS FALSE NEIGHBOUR: 'it returns false'. Refute it at one input. -/
def checksFiveWrong : ChangeSpec := { name := "checksFive", fn := fun _ => fun
  | [d1, d2] => { results := [.lit (.bool false)], args := [d1, d2] }
  | _ => none }
def ChecksFiveWrongFalsely : Prop := checksFiveRow.holds Tryd.pinned (OpenSpec.ofChange checksFiveWrong)

/-- 'plugboardlaw02.ChecksPart': WHATEVER THE INPUT: true; the input reads as it did. -/
def checksPartSpec : ChangeSpec := { name := "checksPart", fn := fun _ => fun
  | [d1, d2] => { results := [.lit (.bool true)], args := [d1, d2] }
  | _ => none }
def checksPartRow : OpenClaim := { program := "ytfpfadenfoehfaadoor", sum := "b504f14f562d3721190f14ec91d92960047760f805012471f17735de910f76ba", func := "plugboard/plugboardlaw02.ChecksPart", spec := "checksPart", unfollowed := true, recurses := true, named := ["plugboard/checks.behindOne", "plugboard/checks.behindFour"], apart := false, laid := [("plugboard/checks.behindOne", laid_plugboard_checks_behindOne), ("plugboard/checks.behindFour", laid_plugboard_checks_behindFour)] }
def ChecksPartSaid : Prop := checksPartRow.holds Tryd.pinned (OpenSpec.ofChange checksPartSpec)

/-- ITS FALSE NEIGHBOUR: 'it returns false'. Refute it at one input. -/
def checksPartWrong : ChangeSpec := { name := "checksPart", fn := fun _ => fun
  | [d1, d2] => { results := [.lit (.bool false)], args := [d1, d2] }
  | _ => none }
def ChecksPartWrongFalsely : Prop := checksPartRow.holds Tryd.pinned (OpenSpec.ofChange checksPartWrong)

/-- 'plugboardlaw02.ChecksSixteen': WHATEVER THE INPUT: true; the input reads as it did. -/
def checksSixteenSpec : ChangeSpec := { name := "checksSixteen", fn := fun _ => fun
  | [d] => { results := [.lit (.bool true)], args := [d] }
  | _ => none }
def checksSixteenRow : OpenClaim := { program := "ytfpfadenfoehfaadoor", sum := "b504f14f562d3721190f14ec91d92960047760f805012471f17735de910f76ba", func := "plugboard/plugboardlaw02.ChecksSixteen", spec := "checksSixteen", unfollowed := true, recurses := true, named := ["plugboard/checks.behindFour", "plugboard/checks.behindOne"], apart := false, laid := [("plugboard/checks.behindOne", laid_plugboard_checks_behindOne), ("plugboard/checks.behindFour", laid_plugboard_checks_behindFour)] }
def ChecksSixteenSaid : Prop := checksSixteenRow.holds Tryd.pinned (OpenSpec.ofChange checksSixteenSpec)

/-- ITS FALSE NEIGHBOUR: 'it returns false'. Refute it at one input. -/
def checksSixteenWrong : ChangeSpec := { name := "checksSixteen", fn := fun _ => fun
  | [d] => { results := [.lit (.bool false)], args := [d] }
  | _ => none }
def ChecksSixteenWrongFalsely : Prop := checksSixteenRow.holds Tryd.pinned (OpenSpec.ofChange checksSixteenWrong)

/-- 'plugboardlaw02.ChecksShort': WHATEVER THE INPUT: true; the input reads as it did. -/
def checksShortSpec : ChangeSpec := { name := "checksShort", fn := fun _ => fun
  | [d] => { results := [.lit (.bool true)], args := [d] }
  | _ => none }
def checksShortRow : OpenClaim := { program := "ytfpfadenfoehfaadoor", sum := "b504f14f562d3721190f14ec91d92960047760f805012471f17735de910f76ba", func := "plugboard/plugboardlaw02.ChecksShort", spec := "checksShort", unfollowed := true, recurses := true, named := ["plugboard/checks.behindOne", "plugboard/checks.behindFour"], apart := false, laid := [("plugboard/checks.behindOne", laid_plugboard_checks_behindOne), ("plugboard/checks.behindFour", laid_plugboard_checks_behindFour)] }
def ChecksShortSaid : Prop := checksShortRow.holds Tryd.pinned (OpenSpec.ofChange checksShortSpec)

/-- ITS FALSE NEIGHBOUR: 'it returns false'. Refute it at one input. -/
def checksShortWrong : ChangeSpec := { name := "checksShort", fn := fun _ => fun
  | [d] => { results := [.lit (.bool false)], args := [d] }
  | _ => none }
def ChecksShortWrongFalsely : Prop := checksShortRow.holds Tryd.pinned (OpenSpec.ofChange checksShortWrong)

/-- 'plugboardlaw02.ChecksLong': WHATEVER THE INPUT: true; the input reads as it did. -/
def checksLongSpec : ChangeSpec := { name := "checksLong", fn := fun _ => fun
  | [d1, d2, d3] => { results := [.lit (.bool true)], args := [d1, d2, d3] }
  | _ => none }
def checksLongRow : OpenClaim := { program := "ytfpfadenfoehfaadoor", sum := "b504f14f562d3721190f14ec91d92960047760f805012471f17735de910f76ba", func := "plugboard/plugboardlaw02.ChecksLong", spec := "checksLong", unfollowed := true, recurses := true, named := ["plugboard/checks.behindFour", "plugboard/checks.behindOne"], apart := false, laid := [("plugboard/checks.behindOne", laid_plugboard_checks_behindOne), ("plugboard/checks.behindFour", laid_plugboard_checks_behindFour)] }
def ChecksLongSaid : Prop := checksLongRow.holds Tryd.pinned (OpenSpec.ofChange checksLongSpec)

/-- ITS FALSE NEIGHBOUR: 'it returns false'. Refute it at one input. -/
def checksLongWrong : ChangeSpec := { name := "checksLong", fn := fun _ => fun
  | [d1, d2, d3] => { results := [.lit (.bool false)], args := [d1, d2, d3] }
  | _ => none }
def ChecksLongWrongFalsely : Prop := checksLongRow.holds Tryd.pinned (OpenSpec.ofChange checksLongWrong)

/- THE SECOND FORM. 'bulk': how many values and letters a reading holds, each counted each time it is reached (what is shared counts as often as it is met; a slice's spare places count too). A statement '..UptoSaid' is the law's where the arguments, and the package variables that the reading takes, are together of bulk at most 1048576: NARROWER than '..Said'. Prove '..Said' where nothing that the law and all that it calls make is longer than what came in: it says more and counts as full. Else prove '..UptoSaid'. A law counts once. -/
mutual
def uptoBulk {H : Type} : DataW H → Nat
  | .lit (.string bytes) => bytes.length + 1
  | .lit _ => 1
  | .nil => 1
  | .ptr d => uptoBulk d + 1
  | .slice elems spare => uptoBulkAll elems + uptoBulkAll spare + 1
  | .agg parts => uptoBulkAll parts + 1
  | .iface _ d => uptoBulk d + 1
  | .map entries => uptoBulkEntries entries + 1
  | .held _ => 1
def uptoBulkAll {H : Type} : List (DataW H) → Nat
  | [] => 0
  | d :: r => uptoBulk d + uptoBulkAll r
def uptoBulkEntries {H : Type} : List (Lit × DataW H) → Nat
  | [] => 0
  | x :: r => uptoBulkEntry x + uptoBulkEntries r
def uptoBulkEntry {H : Type} : Lit × DataW H → Nat
  | (.string bytes, d) => bytes.length + uptoBulk d + 1
  | (_, d) => uptoBulk d + 1
 end
def uptoSmall : (H : Type) → List (DataW H) → Bool := fun _ ds => decide (uptoBulkAll ds ≤ 1048576)
def OpenSpec.upto (s : _root_.Go.ChangeSpec) : _root_.Go.OpenSpec := { _root_.Go.OpenSpec.ofChange s with cond := some uptoSmall }

/-- 'plugboardlaw02.ChecksFive', WHERE WHAT IT READS IS OF BULK AT MOST 1048576: true; the input reads as it did. -/
def checksFiveUptoRow : OpenClaim := { program := "ytfpfadenfoehfaadoor", sum := "b504f14f562d3721190f14ec91d92960047760f805012471f17735de910f76ba", func := "plugboard/plugboardlaw02.ChecksFive", spec := "checksFive", unfollowed := true, recurses := true, named := ["plugboard/checks.behindOne", "plugboard/checks.behindFour"], apart := false, laid := [("plugboard/checks.behindOne", laid_plugboard_checks_behindOne), ("plugboard/checks.behindFour", laid_plugboard_checks_behindFour)], narrowed := true }
def ChecksFiveUptoSaid : Prop := checksFiveUptoRow.holds Tryd.pinned (OpenSpec.upto checksFiveSpec)

/-- 'plugboardlaw02.ChecksPart', WHERE WHAT IT READS IS OF BULK AT MOST 1048576: true; the input reads as it did. -/
def checksPartUptoRow : OpenClaim := { program := "ytfpfadenfoehfaadoor", sum := "b504f14f562d3721190f14ec91d92960047760f805012471f17735de910f76ba", func := "plugboard/plugboardlaw02.ChecksPart", spec := "checksPart", unfollowed := true, recurses := true, named := ["plugboard/checks.behindOne", "plugboard/checks.behindFour"], apart := false, laid := [("plugboard/checks.behindOne", laid_plugboard_checks_behindOne), ("plugboard/checks.behindFour", laid_plugboard_checks_behindFour)], narrowed := true }
def ChecksPartUptoSaid : Prop := checksPartUptoRow.holds Tryd.pinned (OpenSpec.upto checksPartSpec)

/-- 'plugboardlaw02.ChecksSixteen', WHERE WHAT IT READS IS OF BULK AT MOST 1048576: true; the input reads as it did. -/
def checksSixteenUptoRow : OpenClaim := { program := "ytfpfadenfoehfaadoor", sum := "b504f14f562d3721190f14ec91d92960047760f805012471f17735de910f76ba", func := "plugboard/plugboardlaw02.ChecksSixteen", spec := "checksSixteen", unfollowed := true, recurses := true, named := ["plugboard/checks.behindFour", "plugboard/checks.behindOne"], apart := false, laid := [("plugboard/checks.behindOne", laid_plugboard_checks_behindOne), ("plugboard/checks.behindFour", laid_plugboard_checks_behindFour)], narrowed := true }
def ChecksSixteenUptoSaid : Prop := checksSixteenUptoRow.holds Tryd.pinned (OpenSpec.upto checksSixteenSpec)

/-- 'plugboardlaw02.ChecksShort', WHERE WHAT IT READS IS OF BULK AT MOST 1048576: true; the input reads as it did. -/
def checksShortUptoRow : OpenClaim := { program := "ytfpfadenfoehfaadoor", sum := "b504f14f562d3721190f14ec91d92960047760f805012471f17735de910f76ba", func := "plugboard/plugboardlaw02.ChecksShort", spec := "checksShort", unfollowed := true, recurses := true, named := ["plugboard/checks.behindOne", "plugboard/checks.behindFour"], apart := false, laid := [("plugboard/checks.behindOne", laid_plugboard_checks_behindOne), ("plugboard/checks.behindFour", laid_plugboard_checks_behindFour)], narrowed := true }
def ChecksShortUptoSaid : Prop := checksShortUptoRow.holds Tryd.pinned (OpenSpec.upto checksShortSpec)

/-- 'plugboardlaw02.ChecksLong', WHERE WHAT IT READS IS OF BULK AT MOST 1048576: true; the input reads as it did. -/
def checksLongUptoRow : OpenClaim := { program := "ytfpfadenfoehfaadoor", sum := "b504f14f562d3721190f14ec91d92960047760f805012471f17735de910f76ba", func := "plugboard/plugboardlaw02.ChecksLong", spec := "checksLong", unfollowed := true, recurses := true, named := ["plugboard/checks.behindFour", "plugboard/checks.behindOne"], apart := false, laid := [("plugboard/checks.behindOne", laid_plugboard_checks_behindOne), ("plugboard/checks.behindFour", laid_plugboard_checks_behindFour)], narrowed := true }
def ChecksLongUptoSaid : Prop := checksLongUptoRow.holds Tryd.pinned (OpenSpec.upto checksLongSpec)

end Rows
end Go.Proofs.YtfpfadenfoehfaaDoor

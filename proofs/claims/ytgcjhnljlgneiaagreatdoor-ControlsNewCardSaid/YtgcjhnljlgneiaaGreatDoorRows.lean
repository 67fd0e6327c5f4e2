/-
  NARROWER THAN 'FOR EVERY INPUT', by the rows' own cells (each row's printed sentence says how): ControlsBytes: laid · ControlsNew: laid · ControlsHost: laid · ControlsOnce: laid · ControlsFew: laid.
  DERIVED. THE GIVEN ROWS OF THIS SEAT. 5 by the template 'for every input the law returns true; each argument reads behind the call as it read before'; 0 by the template 'total and deterministic' (their statements: YtgcjhnljlgneiaaGreatDoorTotals.lean).
  GIVEN WITH THE SEED: the statements are not yours to turn. If you find one false, say at which input.
  Laid BY PROGRAM, IN A SANDBOX (cutbox-rows.mjs): the forced cells as the released guide's own fill.sh prints them over the translation aee4ddd8e04b766a… (all of the seat's roots in one cut). By AI agents, Wed Nov 11 2026. No macro, syntax, notation, axiom, sorry.
-/
import Derived.Test.YtgcjhnljlgneiaaGreatDoorChecked
import GoSem.Claim
import GoSem.ClaimJoined
import GoSem.ClaimMapViews
import Derived.JoinedTies
import Derived.KernelRfl
namespace Go.Proofs.YtgcjhnljlgneiaaGreatDoor
/- THE CELL 'sum', in the pinned program and in every row, IS THE sha256 OF THE DUMP (.gsa) THAT YtgcjhnljlgneiaaGreatDoorProg.lean LOADS. Nothing in Lean hashes anything: it is a label: what it is worth is what the hold of that sum in a sandbox is worth. -/
noncomputable def Tryz.pinned : Pinned := { name := "ytgcjhnljlgneiaagreatdoor", sum := "aee4ddd8e04b766ae0ce444fdebb45dc4dbccd024622bf51e055a4cf4e63c834", checked := Tryz.checked }
namespace Rows
def none {H : Type} : Left H := { results := [], args := [] }

/- WHAT THE LISTED PACKAGE-LEVEL VARIABLES READ AS WHEN THE CALL BEGINS. Each datum BY PROGRAM (the guide's laid-datum.mjs) off the statement by which the dump's own 'gosem.cut.vars' lays the variable. In a bare row this is a premise. The card (YtgcjhnljlgneiaaGreatDoorCards.lean) ties it to the program's text. -/
def laid_plugboard_packets_pidNames {H : Type} : DataW H := .agg [.lit (.string []), .lit (.string [111, 117, 116]), .lit (.string [97, 99, 107]), .lit (.string [100, 97, 116, 97, 48]), .lit (.string []), .lit (.string [115, 111, 102]), .lit (.string [110, 121, 101, 116]), .lit (.string []), .lit (.string [115, 112, 108, 105, 116]), .lit (.string [105, 110]), .lit (.string [110, 97, 107]), .lit (.string [100, 97, 116, 97, 49]), .lit (.string []), .lit (.string [115, 101, 116, 117, 112]), .lit (.string [115, 116, 97, 108, 108]), .lit (.string [])]

/-- 'plugboardlaw08.ControlsBytes': WHATEVER THE INPUT: true; the input reads as it did. -/
def controlsBytesSpec : ChangeSpec := { name := "controlsBytes", fn := fun _ => fun
  | [d1, d2] => { results := [.lit (.bool true)], args := [d1, d2] }
  | _ => none }
def controlsBytesRow : OpenClaim := { program := "ytgcjhnljlgneiaagreatdoor", sum := "aee4ddd8e04b766ae0ce444fdebb45dc4dbccd024622bf51e055a4cf4e63c834", func := "plugboard/plugboardlaw08.ControlsBytes", spec := "controlsBytes", unfollowed := true, recurses := true, named := ["plugboard/packets.pidNames"], plainKeys := false, apart := false, laid := [("plugboard/packets.pidNames", laid_plugboard_packets_pidNames)] }
def ControlsBytesSaid : Prop := controlsBytesRow.holds Tryz.pinned (OpenSpec.ofChange controlsBytesSpec)

/-- ITS FALSE NEIGHBOUR: 'it returns false'. Refute it at one input. -/
def controlsBytesWrong : ChangeSpec := { name := "controlsBytes", fn := fun _ => fun
  | [d1, d2] => { results := [.lit (.bool false)], args := [d1, d2] }
  | _ => none }
def ControlsBytesWrongFalsely : Prop := controlsBytesRow.holds Tryz.pinned (OpenSpec.ofChange controlsBytesWrong)

/-- 'plugboardlaw08.ControlsNew': WHATEVER THE INPUT: true; the input reads as it did. -/
def controlsNewSpec : ChangeSpec := { name := "controlsNew", fn := fun _ => fun
  | [d1, d2, d3] => { results := [.lit (.bool true)], args := [d1, d2, d3] }
  | _ => none }
def controlsNewRow : OpenClaim := { program := "ytgcjhnljlgneiaagreatdoor", sum := "aee4ddd8e04b766ae0ce444fdebb45dc4dbccd024622bf51e055a4cf4e63c834", func := "plugboard/plugboardlaw08.ControlsNew", spec := "controlsNew", unfollowed := true, recurses := true, named := ["plugboard/packets.pidNames"], plainKeys := false, apart := false, laid := [("plugboard/packets.pidNames", laid_plugboard_packets_pidNames)] }
def ControlsNewSaid : Prop := controlsNewRow.holds Tryz.pinned (OpenSpec.ofChange controlsNewSpec)

/-- ITS FALSE NEIGHBOUR: 'it returns false'. Refute it at one input. -/
def controlsNewWrong : ChangeSpec := { name := "controlsNew", fn := fun _ => fun
  | [d1, d2, d3] => { results := [.lit (.bool false)], args := [d1, d2, d3] }
  | _ => none }
def ControlsNewWrongFalsely : Prop := controlsNewRow.holds Tryz.pinned (OpenSpec.ofChange controlsNewWrong)

/-- 'plugboardlaw08.ControlsHost': WHATEVER THE INPUT: true; the input reads as it did. -/
def controlsHostSpec : ChangeSpec := { name := "controlsHost", fn := fun _ => fun
  | [d1, d2] => { results := [.lit (.bool true)], args := [d1, d2] }
  | _ => none }
def controlsHostRow : OpenClaim := { program := "ytgcjhnljlgneiaagreatdoor", sum := "aee4ddd8e04b766ae0ce444fdebb45dc4dbccd024622bf51e055a4cf4e63c834", func := "plugboard/plugboardlaw08.ControlsHost", spec := "controlsHost", unfollowed := true, recurses := true, named := ["plugboard/packets.pidNames"], plainKeys := false, apart := false, laid := [("plugboard/packets.pidNames", laid_plugboard_packets_pidNames)] }
def ControlsHostSaid : Prop := controlsHostRow.holds Tryz.pinned (OpenSpec.ofChange controlsHostSpec)

/-- ITS FALSE NEIGHBOUR: 'it returns false'. Refute it at one input. -/
def controlsHostWrong : ChangeSpec := { name := "controlsHost", fn := fun _ => fun
  | [d1, d2] => { results := [.lit (.bool false)], args := [d1, d2] }
  | _ => none }
def ControlsHostWrongFalsely : Prop := controlsHostRow.holds Tryz.pinned (OpenSpec.ofChange controlsHostWrong)

/-- 'plugboardlaw08.ControlsOnce': WHATEVER THE INPUT: true; the input reads as it did. -/
def controlsOnceSpec : ChangeSpec := { name := "controlsOnce", fn := fun _ => fun
  | [d1, d2, d3] => { results := [.lit (.bool true)], args := [d1, d2, d3] }
  | _ => none }
def controlsOnceRow : OpenClaim := { program := "ytgcjhnljlgneiaagreatdoor", sum := "aee4ddd8e04b766ae0ce444fdebb45dc4dbccd024622bf51e055a4cf4e63c834", func := "plugboard/plugboardlaw08.ControlsOnce", spec := "controlsOnce", unfollowed := true, recurses := true, named := ["plugboard/packets.pidNames"], plainKeys := false, apart := false, laid := [("plugboard/packets.pidNames", laid_plugboard_packets_pidNames)] }
def ControlsOnceSaid : Prop := controlsOnceRow.holds Tryz.pinned (OpenSpec.ofChange controlsOnceSpec)

/-- ITS FALSE NEIGHBOUR: 'it returns false'. Refute it at one input. -/
def controlsOnceWrong : ChangeSpec := { name := "controlsOnce", fn := fun _ => fun
  | [d1, d2, d3] => { results := [.lit (.bool false)], args := [d1, d2, d3] }
  | _ => none }
def ControlsOnceWrongFalsely : Prop := controlsOnceRow.holds Tryz.pinned (OpenSpec.ofChange controlsOnceWrong)

/-- 'plugboardlaw08.ControlsFew': WHATEVER THE INPUT: true; the input reads as it did. -/
def controlsFewSpec : ChangeSpec := { name := "controlsFew", fn := fun _ => fun
  | [d1, d2, d3] => { results := [.lit (.bool true)], args := [d1, d2, d3] }
  | _ => none }
def controlsFewRow : OpenClaim := { program := "ytgcjhnljlgneiaagreatdoor", sum := "aee4ddd8e04b766ae0ce444fdebb45dc4dbccd024622bf51e055a4cf4e63c834", func := "plugboard/plugboardlaw08.ControlsFew", spec := "controlsFew", unfollowed := true, recurses := true, named := ["plugboard/packets.pidNames"], plainKeys := false, apart := false, laid := [("plugboard/packets.pidNames", laid_plugboard_packets_pidNames)] }
def ControlsFewSaid : Prop := controlsFewRow.holds Tryz.pinned (OpenSpec.ofChange controlsFewSpec)

/-- ITS FALSE NEIGHBOUR: 'it returns false'. Refute it at one input. -/
def controlsFewWrong : ChangeSpec := { name := "controlsFew", fn := fun _ => fun
  | [d1, d2, d3] => { results := [.lit (.bool false)], args := [d1, d2, d3] }
  | _ => none }
def ControlsFewWrongFalsely : Prop := controlsFewRow.holds Tryz.pinned (OpenSpec.ofChange controlsFewWrong)

/- THE SECOND FORM. 'bulk': how many values and letters a reading holds, each counted each time it is reached (what is shared counts as often as it is met; a slice's spare places count too). A statement '..UptoSaid' is the law's where the arguments, and the package variables that the reading takes, are together of bulk at most 1048576: NARROWER than '..Said'. Prove '..Said' where nothing that the law and all that it calls make is longer than what came in: it says more and counts as full. Else prove '..UptoSaid'. A law counts once. -/
mutual
def uptoBulk {H : Type} : DataW H → Nat
  | .lit (.string bytes) => bytes.length + 1
  | .lit _ => 1
  | .nil => 1
  | .ptr d => uptoBulk d + 1
  | .slice elems spare => uptoBulkAll elems + uptoBulkAll spare + 1
  | .agg parts => uptoBulkAll parts + 1
  | .iface _ d => uptoBulk d + 1
  | .map entries => uptoBulkEntries entries + 1
  | .held _ => 1
def uptoBulkAll {H : Type} : List (DataW H) → Nat
  | [] => 0
  | d :: r => uptoBulk d + uptoBulkAll r
def uptoBulkEntries {H : Type} : List (Lit × DataW H) → Nat
  | [] => 0
  | x :: r => uptoBulkEntry x + uptoBulkEntries r
def uptoBulkEntry {H : Type} : Lit × DataW H → Nat
  | (.string bytes, d) => bytes.length + uptoBulk d + 1
  | (_, d) => uptoBulk d + 1
 end
def uptoSmall : (H : Type) → List (DataW H) → Bool := fun _ ds => decide (uptoBulkAll ds ≤ 1048576)
def OpenSpec.upto (s : _root_.Go.ChangeSpec) : _root_.Go.OpenSpec := { _root_.Go.OpenSpec.ofChange s with cond := some uptoSmall }

/-- 'plugboardlaw08.ControlsBytes', WHERE WHAT IT READS IS OF BULK AT MOST 1048576: true; the input reads as it did. -/
def controlsBytesUptoRow : OpenClaim := { program := "ytgcjhnljlgneiaagreatdoor", sum := "aee4ddd8e04b766ae0ce444fdebb45dc4dbccd024622bf51e055a4cf4e63c834", func := "plugboard/plugboardlaw08.ControlsBytes", spec := "controlsBytes", unfollowed := true, recurses := true, named := ["plugboard/packets.pidNames"], plainKeys := false, apart := false, laid := [("plugboard/packets.pidNames", laid_plugboard_packets_pidNames)], narrowed := true }
def ControlsBytesUptoSaid : Prop := controlsBytesUptoRow.holds Tryz.pinned (OpenSpec.upto controlsBytesSpec)

/-- 'plugboardlaw08.ControlsNew', WHERE WHAT IT READS IS OF BULK AT MOST 1048576: true; the input reads as it did. -/
def controlsNewUptoRow : OpenClaim := { program := "ytgcjhnljlgneiaagreatdoor", sum := "aee4ddd8e04b766ae0ce444fdebb45dc4dbccd024622bf51e055a4cf4e63c834", func := "plugboard/plugboardlaw08.ControlsNew", spec := "controlsNew", unfollowed := true, recurses := true, named := ["plugboard/packets.pidNames"], plainKeys := false, apart := false, laid := [("plugboard/packets.pidNames", laid_plugboard_packets_pidNames)], narrowed := true }
def ControlsNewUptoSaid : Prop := controlsNewUptoRow.holds Tryz.pinned (OpenSpec.upto controlsNewSpec)

/-- 'plugboardlaw08.ControlsHost', WHERE WHAT IT READS IS OF BULK AT MOST 1048576: true; the input reads as it did. -/
def controlsHostUptoRow : OpenClaim := { program := "ytgcjhnljlgneiaagreatdoor", sum := "aee4ddd8e04b766ae0ce444fdebb45dc4dbccd024622bf51e055a4cf4e63c834", func := "plugboard/plugboardlaw08.ControlsHost", spec := "controlsHost", unfollowed := true, recurses := true, named := ["plugboard/packets.pidNames"], plainKeys := false, apart := false, laid := [("plugboard/packets.pidNames", laid_plugboard_packets_pidNames)], narrowed := true }
def ControlsHostUptoSaid : Prop := controlsHostUptoRow.holds Tryz.pinned (OpenSpec.upto controlsHostSpec)

/-- 'plugboardlaw08.ControlsOnce', WHERE WHAT IT READS IS OF BULK AT MOST 1048576: true; the input reads as it did. -/
def controlsOnceUptoRow : OpenClaim := { program := "ytgcjhnljlgneiaagreatdoor", sum := "aee4ddd8e04b766ae0ce444fdebb45dc4dbccd024622bf51e055a4cf4e63c834", func := "plugboard/plugboardlaw08.ControlsOnce", spec := "controlsOnce", unfollowed := true, recurses := true, named := ["plugboard/packets.pidNames"], plainKeys := false, apart := false, laid := [("plugboard/packets.pidNames", laid_plugboard_packets_pidNames)], narrowed := true }
def ControlsOnceUptoSaid : Prop := controlsOnceUptoRow.holds Tryz.pinned (OpenSpec.upto controlsOnceSpec)

/-- 'plugboardlaw08.ControlsFew', WHERE WHAT IT READS IS OF BULK AT MOST 1048576: true; the input reads as it did. -/
def controlsFewUptoRow : OpenClaim := { program := "ytgcjhnljlgneiaagreatdoor", sum := "aee4ddd8e04b766ae0ce444fdebb45dc4dbccd024622bf51e055a4cf4e63c834", func := "plugboard/plugboardlaw08.ControlsFew", spec := "controlsFew", unfollowed := true, recurses := true, named := ["plugboard/packets.pidNames"], plainKeys := false, apart := false, laid := [("plugboard/packets.pidNames", laid_plugboard_packets_pidNames)], narrowed := true }
def ControlsFewUptoSaid : Prop := controlsFewUptoRow.holds Tryz.pinned (OpenSpec.upto controlsFewSpec)

end Rows
end Go.Proofs.YtgcjhnljlgneiaaGreatDoor

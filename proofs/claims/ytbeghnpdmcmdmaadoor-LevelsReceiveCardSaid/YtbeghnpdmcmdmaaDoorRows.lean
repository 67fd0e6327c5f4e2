/-
  NARROWER THAN 'FOR EVERY INPUT', by the rows' own cells (each row's printed sentence says how): LevelsBits: laid · LevelsStuff: laid · LevelsStates: laid · LevelsSend: laid · LevelsReceive: laid · LevelsChange: laid · LevelsLine: laid.
  DERIVED. THE GIVEN ROWS OF THIS SEAT. 7 by the template 'for every input the law returns true; each argument reads behind the call as it read before'; 0 by the template 'total and deterministic' (their statements: YtbeghnpdmcmdmaaDoorTotals.lean).
  GIVEN WITH THE SEED: the statements are not yours to turn. If you find one false, say at which input.
  Laid BY PROGRAM, IN A SANDBOX (cutbox-rows.mjs): the forced cells as the released guide's own fill.sh prints them over the translation 09ae5026d921b7a2… (all of the seat's roots in one cut). By AI agents, Wed Nov 11 2026. No macro, syntax, notation, axiom, sorry.
-/
import Derived.Test.YtbeghnpdmcmdmaaDoorChecked
import GoSem.Claim
import GoSem.ClaimJoined
import GoSem.ClaimMapViews
import Derived.JoinedTies
import Derived.KernelRfl
namespace Go.Proofs.YtbeghnpdmcmdmaaDoor
/- THE CELL 'sum', in the pinned program and in every row, IS THE sha256 OF THE DUMP (.gsa) THAT YtbeghnpdmcmdmaaDoorProg.lean LOADS. Nothing in Lean hashes anything: it is a label: what it is worth is what the hold of that sum in a sandbox is worth. -/
noncomputable def Tryd.pinned : Pinned := { name := "ytbeghnpdmcmdmaadoor", sum := "09ae5026d921b7a23efaa63491b29ad4987197fc4c82b183cb1412dfe3703da4", checked := Tryd.checked }
namespace Rows
def none {H : Type} : Left H := { results := [], args := [] }

/- WHAT THE LISTED PACKAGE-LEVEL VARIABLES READ AS WHEN THE CALL BEGINS. Each datum BY PROGRAM (the guide's laid-datum.mjs) off the statement by which the dump's own 'gosem.cut.vars' lays the variable. In a bare row this is a premise. The card (YtbeghnpdmcmdmaaDoorCards.lean) ties it to the program's text. -/
def laid_plugboard_levels_syncBits {H : Type} : DataW H := .agg [.lit (.int .u8 0), .lit (.int .u8 0), .lit (.int .u8 0), .lit (.int .u8 0), .lit (.int .u8 0), .lit (.int .u8 0), .lit (.int .u8 0), .lit (.int .u8 1)]
def laid_plugboard_levels_endStates {H : Type} : DataW H := .agg [.lit (.int .u8 2), .lit (.int .u8 2), .lit (.int .u8 0)]

/-- 'plugboardlaw01.LevelsBits': WHATEVER THE INPUT: true; the input reads as it did. -/
def levelsBitsSpec : ChangeSpec := { name := "levelsBits", fn := fun _ => fun
  | [d1, d2] => { results := [.lit (.bool true)], args := [d1, d2] }
  | _ => none }
def levelsBitsRow : OpenClaim := { program := "ytbeghnpdmcmdmaadoor", sum := "09ae5026d921b7a23efaa63491b29ad4987197fc4c82b183cb1412dfe3703da4", func := "plugboard/plugboardlaw01.LevelsBits", spec := "levelsBits", named := ["plugboard/levels.syncBits", "plugboard/levels.endStates"], apart := false, laid := [("plugboard/levels.syncBits", laid_plugboard_levels_syncBits), ("plugboard/levels.endStates", laid_plugboard_levels_endStates)] }
def LevelsBitsSaid : Prop := levelsBitsRow.holds Tryd.pinned (OpenSpec.ofChange levelsBitsSpec)

/-- ITS FALSE NEIGHBOUR: 'it returns false'. Refute it at one input. -/
def levelsBitsWrong : ChangeSpec := { name := "levelsBits", fn := fun _ => fun
  | [d1, d2] => { results := [.lit (.bool false)], args := [d1, d2] }
  | _ => none }
def LevelsBitsWrongFalsely : Prop := levelsBitsRow.holds Tryd.pinned (OpenSpec.ofChange levelsBitsWrong)

/-- 'plugboardlaw01.LevelsStuff': WHATEVER THE INPUT: true; the input reads as it did. -/
def levelsStuffSpec : ChangeSpec := { name := "levelsStuff", fn := fun _ => fun
  | [d] => { results := [.lit (.bool true)], args := [d] }
  | _ => none }
def levelsStuffRow : OpenClaim := { program := "ytbeghnpdmcmdmaadoor", sum := "09ae5026d921b7a23efaa63491b29ad4987197fc4c82b183cb1412dfe3703da4", func := "plugboard/plugboardlaw01.LevelsStuff", spec := "levelsStuff", named := ["plugboard/levels.syncBits", "plugboard/levels.endStates"], apart := false, laid := [("plugboard/levels.syncBits", laid_plugboard_levels_syncBits), ("plugboard/levels.endStates", laid_plugboard_levels_endStates)] }
def LevelsStuffSaid : Prop := levelsStuffRow.holds Tryd.pinned (OpenSpec.ofChange levelsStuffSpec)

/-- ITS FALSE NEIGHBOUR: 'it returns false'. Refute it at one input. -/
def levelsStuffWrong : ChangeSpec := { name := "levelsStuff", fn := fun _ => fun
  | [d] => { results := [.lit (.bool false)], args := [d] }
  | _ => none }
def LevelsStuffWrongFalsely : Prop := levelsStuffRow.holds Tryd.pinned (OpenSpec.ofChange levelsStuffWrong)

/-- 'plugboardlaw01.LevelsStates': WHATEVER THE INPUT: true; the input reads as it did. -/
def levelsStatesSpec : ChangeSpec := { name := "levelsStates", fn := fun _ => fun
  | [d1, d2] => { results := [.lit (.bool true)], args := [d1, d2] }
  | _ => none }
def levelsStatesRow : OpenClaim := { program := "ytbeghnpdmcmdmaadoor", sum := "09ae5026d921b7a23efaa63491b29ad4987197fc4c82b183cb1412dfe3703da4", func := "plugboard/plugboardlaw01.LevelsStates", spec := "levelsStates", named := ["plugboard/levels.syncBits", "plugboard/levels.endStates"], apart := false, laid := [("plugboard/levels.syncBits", laid_plugboard_levels_syncBits), ("plugboard/levels.endStates", laid_plugboard_levels_endStates)] }
def LevelsStatesSaid : Prop := levelsStatesRow.holds Tryd.pinned (OpenSpec.ofChange levelsStatesSpec)

/-- ITS FALSE NEIGHBOUR: 'it returns false'. Refute it at one input. -/
def levelsStatesWrong : ChangeSpec := { name := "levelsStates", fn := fun _ => fun
  | [d1, d2] => { results := [.lit (.bool false)], args := [d1, d2] }
  | _ => none }
def LevelsStatesWrongFalsely : Prop := levelsStatesRow.holds Tryd.pinned (OpenSpec.ofChange levelsStatesWrong)

/-- 'plugboardlaw01.LevelsSend': WHATEVER THE INPUT: true; the input reads as it did. -/
def levelsSendSpec : ChangeSpec := { name := "levelsSend", fn := fun _ => fun
  | [d1, d2] => { results := [.lit (.bool true)], args := [d1, d2] }
  | _ => none }
def levelsSendRow : OpenClaim := { program := "ytbeghnpdmcmdmaadoor", sum := "09ae5026d921b7a23efaa63491b29ad4987197fc4c82b183cb1412dfe3703da4", func := "plugboard/plugboardlaw01.LevelsSend", spec := "levelsSend", named := ["plugboard/levels.syncBits", "plugboard/levels.endStates"], apart := false, laid := [("plugboard/levels.syncBits", laid_plugboard_levels_syncBits), ("plugboard/levels.endStates", laid_plugboard_levels_endStates)] }
def LevelsSendSaid : Prop := levelsSendRow.holds Tryd.pinned (OpenSpec.ofChange levelsSendSpec)

/-- ITS FALSE NEIGHBOUR: 'it returns false'. Refute it at one input. -/
def levelsSendWrong : ChangeSpec := { name := "levelsSend", fn := fun _ => fun
  | [d1, d2] => { results := [.lit (.bool false)], args := [d1, d2] }
  | _ => none }
def LevelsSendWrongFalsely : Prop := levelsSendRow.holds Tryd.pinned (OpenSpec.ofChange levelsSendWrong)

/-- 'plugboardlaw01.LevelsReceive': WHATEVER THE INPUT: true; the input reads as it did. -/
def levelsReceiveSpec : ChangeSpec := { name := "levelsReceive", fn := fun _ => fun
  | [d1, d2, d3] => { results := [.lit (.bool true)], args := [d1, d2, d3] }
  | _ => none }
def levelsReceiveRow : OpenClaim := { program := "ytbeghnpdmcmdmaadoor", sum := "09ae5026d921b7a23efaa63491b29ad4987197fc4c82b183cb1412dfe3703da4", func := "plugboard/plugboardlaw01.LevelsReceive", spec := "levelsReceive", named := ["plugboard/levels.endStates", "plugboard/levels.syncBits"], apart := false, laid := [("plugboard/levels.syncBits", laid_plugboard_levels_syncBits), ("plugboard/levels.endStates", laid_plugboard_levels_endStates)] }
def LevelsReceiveSaid : Prop := levelsReceiveRow.holds Tryd.pinned (OpenSpec.ofChange levelsReceiveSpec)

/-- ITS FALSE NEIGHBOUR: 'it returns false'. Refute it at one input. -/
def levelsReceiveWrong : ChangeSpec := { name := "levelsReceive", fn := fun _ => fun
  | [d1, d2, d3] => { results := [.lit (.bool false)], args := [d1, d2, d3] }
  | _ => none }
def LevelsReceiveWrongFalsely : Prop := levelsReceiveRow.holds Tryd.pinned (OpenSpec.ofChange levelsReceiveWrong)

/-- 'plugboardlaw01.LevelsChange': WHATEVER THE INPUT: true; the input reads as it did. -/
def levelsChangeSpec : ChangeSpec := { name := "levelsChange", fn := fun _ => fun
  | [d1, d2, d3] => { results := [.lit (.bool true)], args := [d1, d2, d3] }
  | _ => none }
def levelsChangeRow : OpenClaim := { program := "ytbeghnpdmcmdmaadoor", sum := "09ae5026d921b7a23efaa63491b29ad4987197fc4c82b183cb1412dfe3703da4", func := "plugboard/plugboardlaw01.LevelsChange", spec := "levelsChange", named := ["plugboard/levels.syncBits", "plugboard/levels.endStates"], apart := false, laid := [("plugboard/levels.syncBits", laid_plugboard_levels_syncBits), ("plugboard/levels.endStates", laid_plugboard_levels_endStates)] }
def LevelsChangeSaid : Prop := levelsChangeRow.holds Tryd.pinned (OpenSpec.ofChange levelsChangeSpec)

/-- ITS FALSE NEIGHBOUR: 'it returns false'. Refute it at one input. -/
def levelsChangeWrong : ChangeSpec := { name := "levelsChange", fn := fun _ => fun
  | [d1, d2, d3] => { results := [.lit (.bool false)], args := [d1, d2, d3] }
  | _ => none }
def LevelsChangeWrongFalsely : Prop := levelsChangeRow.holds Tryd.pinned (OpenSpec.ofChange levelsChangeWrong)

/-- 'plugboardlaw01.LevelsLine': WHATEVER THE INPUT: true; the input reads as it did. -/
def levelsLineSpec : ChangeSpec := { name := "levelsLine", fn := fun _ => fun
  | [d] => { results := [.lit (.bool true)], args := [d] }
  | _ => none }
def levelsLineRow : OpenClaim := { program := "ytbeghnpdmcmdmaadoor", sum := "09ae5026d921b7a23efaa63491b29ad4987197fc4c82b183cb1412dfe3703da4", func := "plugboard/plugboardlaw01.LevelsLine", spec := "levelsLine", named := ["plugboard/levels.endStates", "plugboard/levels.syncBits"], apart := false, laid := [("plugboard/levels.syncBits", laid_plugboard_levels_syncBits), ("plugboard/levels.endStates", laid_plugboard_levels_endStates)] }
def LevelsLineSaid : Prop := levelsLineRow.holds Tryd.pinned (OpenSpec.ofChange levelsLineSpec)

/-- ITS FALSE NEIGHBOUR: 'it returns false'. Refute it at one input. -/
def levelsLineWrong : ChangeSpec := { name := "levelsLine", fn := fun _ => fun
  | [d] => { results := [.lit (.bool false)], args := [d] }
  | _ => none }
def LevelsLineWrongFalsely : Prop := levelsLineRow.holds Tryd.pinned (OpenSpec.ofChange levelsLineWrong)

/- THE SECOND FORM. 'bulk': how many values and letters a reading holds, each counted each time it is reached (what is shared counts as often as it is met; a slice's spare places count too). A statement '..UptoSaid' is the law's where the arguments, and the package variables that the reading takes, are together of bulk at most 1048576: NARROWER than '..Said'. Prove '..Said' where nothing that the law and all that it calls make is longer than what came in: it says more and counts as full. Else prove '..UptoSaid'. A law counts once. -/
mutual
def uptoBulk {H : Type} : DataW H → Nat
  | .lit (.string bytes) => bytes.length + 1
  | .lit _ => 1
  | .nil => 1
  | .ptr d => uptoBulk d + 1
  | .slice elems spare => uptoBulkAll elems + uptoBulkAll spare + 1
  | .agg parts => uptoBulkAll parts + 1
  | .iface _ d => uptoBulk d + 1
  | .map entries => uptoBulkEntries entries + 1
  | .held _ => 1
def uptoBulkAll {H : Type} : List (DataW H) → Nat
  | [] => 0
  | d :: r => uptoBulk d + uptoBulkAll r
def uptoBulkEntries {H : Type} : List (Lit × DataW H) → Nat
  | [] => 0
  | x :: r => uptoBulkEntry x + uptoBulkEntries r
def uptoBulkEntry {H : Type} : Lit × DataW H → Nat
  | (.string bytes, d) => bytes.length + uptoBulk d + 1
  | (_, d) => uptoBulk d + 1
 end
def uptoSmall : (H : Type) → List (DataW H) → Bool := fun _ ds => decide (uptoBulkAll ds ≤ 1048576)
def OpenSpec.upto (s : _root_.Go.ChangeSpec) : _root_.Go.OpenSpec := { _root_.Go.OpenSpec.ofChange s with cond := some uptoSmall }

/-- 'plugboardlaw01.LevelsBits', WHERE WHAT IT READS IS OF BULK AT MOST 1048576: true; the input reads as it did. -/
def levelsBitsUptoRow : OpenClaim := { program := "ytbeghnpdmcmdmaadoor", sum := "09ae5026d921b7a23efaa63491b29ad4987197fc4c82b183cb1412dfe3703da4", func := "plugboard/plugboardlaw01.LevelsBits", spec := "levelsBits", named := ["plugboard/levels.syncBits", "plugboard/levels.endStates"], apart := false, laid := [("plugboard/levels.syncBits", laid_plugboard_levels_syncBits), ("plugboard/levels.endStates", laid_plugboard_levels_endStates)], narrowed := true }
def LevelsBitsUptoSaid : Prop := levelsBitsUptoRow.holds Tryd.pinned (OpenSpec.upto levelsBitsSpec)

/-- 'plugboardlaw01.LevelsStuff', WHERE WHAT IT READS IS OF BULK AT MOST 1048576: true; the input reads as it did. -/
def levelsStuffUptoRow : OpenClaim := { program := "ytbeghnpdmcmdmaadoor", sum := "09ae5026d921b7a23efaa63491b29ad4987197fc4c82b183cb1412dfe3703da4", func := "plugboard/plugboardlaw01.LevelsStuff", spec := "levelsStuff", named := ["plugboard/levels.syncBits", "plugboard/levels.endStates"], apart := false, laid := [("plugboard/levels.syncBits", laid_plugboard_levels_syncBits), ("plugboard/levels.endStates", laid_plugboard_levels_endStates)], narrowed := true }
def LevelsStuffUptoSaid : Prop := levelsStuffUptoRow.holds Tryd.pinned (OpenSpec.upto levelsStuffSpec)

/-- 'plugboardlaw01.LevelsStates', WHERE WHAT IT READS IS OF BULK AT MOST 1048576: true; the input reads as it did. -/
def levelsStatesUptoRow : OpenClaim := { program := "ytbeghnpdmcmdmaadoor", sum := "09ae5026d921b7a23efaa63491b29ad4987197fc4c82b183cb1412dfe3703da4", func := "plugboard/plugboardlaw01.LevelsStates", spec := "levelsStates", named := ["plugboard/levels.syncBits", "plugboard/levels.endStates"], apart := false, laid := [("plugboard/levels.syncBits", laid_plugboard_levels_syncBits), ("plugboard/levels.endStates", laid_plugboard_levels_endStates)], narrowed := true }
def LevelsStatesUptoSaid : Prop := levelsStatesUptoRow.holds Tryd.pinned (OpenSpec.upto levelsStatesSpec)

/-- 'plugboardlaw01.LevelsSend', WHERE WHAT IT READS IS OF BULK AT MOST 1048576: true; the input reads as it did. -/
def levelsSendUptoRow : OpenClaim := { program := "ytbeghnpdmcmdmaadoor", sum := "09ae5026d921b7a23efaa63491b29ad4987197fc4c82b183cb1412dfe3703da4", func := "plugboard/plugboardlaw01.LevelsSend", spec := "levelsSend", named := ["plugboard/levels.syncBits", "plugboard/levels.endStates"], apart := false, laid := [("plugboard/levels.syncBits", laid_plugboard_levels_syncBits), ("plugboard/levels.endStates", laid_plugboard_levels_endStates)], narrowed := true }
def LevelsSendUptoSaid : Prop := levelsSendUptoRow.holds Tryd.pinned (OpenSpec.upto levelsSendSpec)

/-- 'plugboardlaw01.LevelsReceive', WHERE WHAT IT READS IS OF BULK AT MOST 1048576: true; the input reads as it did. -/
def levelsReceiveUptoRow : OpenClaim := { program := "ytbeghnpdmcmdmaadoor", sum := "09ae5026d921b7a23efaa63491b29ad4987197fc4c82b183cb1412dfe3703da4", func := "plugboard/plugboardlaw01.LevelsReceive", spec := "levelsReceive", named := ["plugboard/levels.endStates", "plugboard/levels.syncBits"], apart := false, laid := [("plugboard/levels.syncBits", laid_plugboard_levels_syncBits), ("plugboard/levels.endStates", laid_plugboard_levels_endStates)], narrowed := true }
def LevelsReceiveUptoSaid : Prop := levelsReceiveUptoRow.holds Tryd.pinned (OpenSpec.upto levelsReceiveSpec)

/-- 'plugboardlaw01.LevelsChange', WHERE WHAT IT READS IS OF BULK AT MOST 1048576: true; the input reads as it did. -/
def levelsChangeUptoRow : OpenClaim := { program := "ytbeghnpdmcmdmaadoor", sum := "09ae5026d921b7a23efaa63491b29ad4987197fc4c82b183cb1412dfe3703da4", func := "plugboard/plugboardlaw01.LevelsChange", spec := "levelsChange", named := ["plugboard/levels.syncBits", "plugboard/levels.endStates"], apart := false, laid := [("plugboard/levels.syncBits", laid_plugboard_levels_syncBits), ("plugboard/levels.endStates", laid_plugboard_levels_endStates)], narrowed := true }
def LevelsChangeUptoSaid : Prop := levelsChangeUptoRow.holds Tryd.pinned (OpenSpec.upto levelsChangeSpec)

/-- 'plugboardlaw01.LevelsLine', WHERE WHAT IT READS IS OF BULK AT MOST 1048576: true; the input reads as it did. -/
def levelsLineUptoRow : OpenClaim := { program := "ytbeghnpdmcmdmaadoor", sum := "09ae5026d921b7a23efaa63491b29ad4987197fc4c82b183cb1412dfe3703da4", func := "plugboard/plugboardlaw01.LevelsLine", spec := "levelsLine", named := ["plugboard/levels.endStates", "plugboard/levels.syncBits"], apart := false, laid := [("plugboard/levels.syncBits", laid_plugboard_levels_syncBits), ("plugboard/levels.endStates", laid_plugboard_levels_endStates)], narrowed := true }
def LevelsLineUptoSaid : Prop := levelsLineUptoRow.holds Tryd.pinned (OpenSpec.upto levelsLineSpec)

end Rows
end Go.Proofs.YtbeghnpdmcmdmaaDoor

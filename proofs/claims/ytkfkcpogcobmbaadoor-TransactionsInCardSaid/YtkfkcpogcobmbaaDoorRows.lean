/-
  NARROWER THAN 'FOR EVERY INPUT', by the rows' own cells (each row's printed sentence says how): TransactionsLine: laid · TransactionsCheck: laid · TransactionsSpeak: laid · TransactionsDo: laid · TransactionsOut: laid · TransactionsIn: laid.
  DERIVED. THE GIVEN ROWS OF THIS SEAT. 6 by the template 'for every input the law returns true; each argument reads behind the call as it read before'; 0 by the template 'total and deterministic' (their statements: YtkfkcpogcobmbaaDoorTotals.lean).
  GIVEN WITH THE SEED: the statements are not yours to turn. If you find one false, say at which input.
  Laid BY PROGRAM, IN A SANDBOX (cutbox-rows.mjs): the forced cells as the released guide's own fill.sh prints them over the translation 8c82e990a2219685… (all of the seat's roots in one cut). By AI agents, Wed Nov 11 2026. No macro, syntax, notation, axiom, sorry.
-/
import Derived.Test.YtkfkcpogcobmbaaDoorChecked
import GoSem.Claim
import GoSem.ClaimJoined
import GoSem.ClaimMapViews
import Derived.JoinedTies
import Derived.KernelRfl
namespace Go.Proofs.YtkfkcpogcobmbaaDoor
/- THE CELL 'sum', in the pinned program and in every row, IS THE sha256 OF THE DUMP (.gsa) THAT YtkfkcpogcobmbaaDoorProg.lean LOADS. Nothing in Lean hashes anything: it is a label: what it is worth is what the hold of that sum in a sandbox is worth. -/
noncomputable def Tryd.pinned : Pinned := { name := "ytkfkcpogcobmbaadoor", sum := "8c82e990a2219685e5aba94d55a55d75e75f1ec2688a85e4fa6ad4b414fcbabb", checked := Tryd.checked }
namespace Rows
def none {H : Type} : Left H := { results := [], args := [] }

/- WHAT THE LISTED PACKAGE-LEVEL VARIABLES READ AS WHEN THE CALL BEGINS. Each datum BY PROGRAM (the guide's laid-datum.mjs) off the statement by which the dump's own 'gosem.cut.vars' lays the variable. In a bare row this is a premise. The card (YtkfkcpogcobmbaaDoorCards.lean) ties it to the program's text. -/
def laid_plugboard_packets_pidNames {H : Type} : DataW H := .agg [.lit (.string []), .lit (.string [111, 117, 116]), .lit (.string [97, 99, 107]), .lit (.string [100, 97, 116, 97, 48]), .lit (.string []), .lit (.string [115, 111, 102]), .lit (.string [110, 121, 101, 116]), .lit (.string []), .lit (.string [115, 112, 108, 105, 116]), .lit (.string [105, 110]), .lit (.string [110, 97, 107]), .lit (.string [100, 97, 116, 97, 49]), .lit (.string []), .lit (.string [115, 101, 116, 117, 112]), .lit (.string [115, 116, 97, 108, 108]), .lit (.string [])]

/-- 'plugboardlaw06.TransactionsLine': WHATEVER THE INPUT: true; the input reads as it did. -/
def transactionsLineSpec : ChangeSpec := { name := "transactionsLine", fn := fun _ => fun
  | [d1, d2] => { results := [.lit (.bool true)], args := [d1, d2] }
  | _ => none }
def transactionsLineRow : OpenClaim := { program := "ytkfkcpogcobmbaadoor", sum := "8c82e990a2219685e5aba94d55a55d75e75f1ec2688a85e4fa6ad4b414fcbabb", func := "plugboard/plugboardlaw06.TransactionsLine", spec := "transactionsLine", unfollowed := true, recurses := true, named := ["plugboard/packets.pidNames"], apart := false, laid := [("plugboard/packets.pidNames", laid_plugboard_packets_pidNames)] }
def TransactionsLineSaid : Prop := transactionsLineRow.holds Tryd.pinned (OpenSpec.ofChange transactionsLineSpec)

/-- ITS FALSE NEIGHBOUR: 'it returns false'. Refute it at one input. -/
def transactionsLineWrong : ChangeSpec := { name := "transactionsLine", fn := fun _ => fun
  | [d1, d2] => { results := [.lit (.bool false)], args := [d1, d2] }
  | _ => none }
def TransactionsLineWrongFalsely : Prop := transactionsLineRow.holds Tryd.pinned (OpenSpec.ofChange transactionsLineWrong)

/-- 'plugboardlaw06.TransactionsCheck': WHATEVER THE INPUT: true; the input reads as it did. -/
def transactionsCheckSpec : ChangeSpec := { name := "transactionsCheck", fn := fun _ => fun
  | [d] => { results := [.lit (.bool true)], args := [d] }
  | _ => none }
def transactionsCheckRow : OpenClaim := { program := "ytkfkcpogcobmbaadoor", sum := "8c82e990a2219685e5aba94d55a55d75e75f1ec2688a85e4fa6ad4b414fcbabb", func := "plugboard/plugboardlaw06.TransactionsCheck", spec := "transactionsCheck", unfollowed := true, recurses := true, named := ["plugboard/packets.pidNames"], apart := false, laid := [("plugboard/packets.pidNames", laid_plugboard_packets_pidNames)] }
def TransactionsCheckSaid : Prop := transactionsCheckRow.holds Tryd.pinned (OpenSpec.ofChange transactionsCheckSpec)

/-- ITS FALSE NEIGHBOUR: 'it returns false'. Refute it at one input. -/
def transactionsCheckWrong : ChangeSpec := { name := "transactionsCheck", fn := fun _ => fun
  | [d] => { results := [.lit (.bool false)], args := [d] }
  | _ => none }
def TransactionsCheckWrongFalsely : Prop := transactionsCheckRow.holds Tryd.pinned (OpenSpec.ofChange transactionsCheckWrong)

/-- 'plugboardlaw06.TransactionsSpeak': WHATEVER THE INPUT: true; the input reads as it did. -/
def transactionsSpeakSpec : ChangeSpec := { name := "transactionsSpeak", fn := fun _ => fun
  | [d1, d2] => { results := [.lit (.bool true)], args := [d1, d2] }
  | _ => none }
def transactionsSpeakRow : OpenClaim := { program := "ytkfkcpogcobmbaadoor", sum := "8c82e990a2219685e5aba94d55a55d75e75f1ec2688a85e4fa6ad4b414fcbabb", func := "plugboard/plugboardlaw06.TransactionsSpeak", spec := "transactionsSpeak", unfollowed := true, recurses := true, named := ["plugboard/packets.pidNames"], apart := false, laid := [("plugboard/packets.pidNames", laid_plugboard_packets_pidNames)] }
def TransactionsSpeakSaid : Prop := transactionsSpeakRow.holds Tryd.pinned (OpenSpec.ofChange transactionsSpeakSpec)

/-- ITS FALSE NEIGHBOUR: 'it returns false'. Refute it at one input. -/
def transactionsSpeakWrong : ChangeSpec := { name := "transactionsSpeak", fn := fun _ => fun
  | [d1, d2] => { results := [.lit (.bool false)], args := [d1, d2] }
  | _ => none }
def TransactionsSpeakWrongFalsely : Prop := transactionsSpeakRow.holds Tryd.pinned (OpenSpec.ofChange transactionsSpeakWrong)

/-- 'plugboardlaw06.TransactionsDo': WHATEVER THE INPUT: true; the input reads as it did. -/
def transactionsDoSpec : ChangeSpec := { name := "transactionsDo", fn := fun _ => fun
  | [d1, d2] => { results := [.lit (.bool true)], args := [d1, d2] }
  | _ => none }
def transactionsDoRow : OpenClaim := { program := "ytkfkcpogcobmbaadoor", sum := "8c82e990a2219685e5aba94d55a55d75e75f1ec2688a85e4fa6ad4b414fcbabb", func := "plugboard/plugboardlaw06.TransactionsDo", spec := "transactionsDo", unfollowed := true, recurses := true, named := ["plugboard/packets.pidNames"], apart := false, laid := [("plugboard/packets.pidNames", laid_plugboard_packets_pidNames)] }
def TransactionsDoSaid : Prop := transactionsDoRow.holds Tryd.pinned (OpenSpec.ofChange transactionsDoSpec)

/-- ITS FALSE NEIGHBOUR: 'it returns false'. Refute it at one input. -/
def transactionsDoWrong : ChangeSpec := { name := "transactionsDo", fn := fun _ => fun
  | [d1, d2] => { results := [.lit (.bool false)], args := [d1, d2] }
  | _ => none }
def TransactionsDoWrongFalsely : Prop := transactionsDoRow.holds Tryd.pinned (OpenSpec.ofChange transactionsDoWrong)

/-- 'plugboardlaw06.TransactionsOut': WHATEVER THE INPUT: true; the input reads as it did. -/
def transactionsOutSpec : ChangeSpec := { name := "transactionsOut", fn := fun _ => fun
  | [d1, d2] => { results := [.lit (.bool true)], args := [d1, d2] }
  | _ => none }
def transactionsOutRow : OpenClaim := { program := "ytkfkcpogcobmbaadoor", sum := "8c82e990a2219685e5aba94d55a55d75e75f1ec2688a85e4fa6ad4b414fcbabb", func := "plugboard/plugboardlaw06.TransactionsOut", spec := "transactionsOut", unfollowed := true, recurses := true, named := ["plugboard/packets.pidNames"], apart := false, laid := [("plugboard/packets.pidNames", laid_plugboard_packets_pidNames)] }
def TransactionsOutSaid : Prop := transactionsOutRow.holds Tryd.pinned (OpenSpec.ofChange transactionsOutSpec)

/-- ITS FALSE NEIGHBOUR: 'it returns false'. Refute it at one input. -/
def transactionsOutWrong : ChangeSpec := { name := "transactionsOut", fn := fun _ => fun
  | [d1, d2] => { results := [.lit (.bool false)], args := [d1, d2] }
  | _ => none }
def TransactionsOutWrongFalsely : Prop := transactionsOutRow.holds Tryd.pinned (OpenSpec.ofChange transactionsOutWrong)

/-- 'plugboardlaw06.TransactionsIn': WHATEVER THE INPUT: true; the input reads as it did. -/
def transactionsInSpec : ChangeSpec := { name := "transactionsIn", fn := fun _ => fun
  | [d1, d2] => { results := [.lit (.bool true)], args := [d1, d2] }
  | _ => none }
def transactionsInRow : OpenClaim := { program := "ytkfkcpogcobmbaadoor", sum := "8c82e990a2219685e5aba94d55a55d75e75f1ec2688a85e4fa6ad4b414fcbabb", func := "plugboard/plugboardlaw06.TransactionsIn", spec := "transactionsIn", unfollowed := true, recurses := true, named := ["plugboard/packets.pidNames"], apart := false, laid := [("plugboard/packets.pidNames", laid_plugboard_packets_pidNames)] }
def TransactionsInSaid : Prop := transactionsInRow.holds Tryd.pinned (OpenSpec.ofChange transactionsInSpec)

/-- ITS FALSE NEIGHBOUR: 'it returns false'. Refute it at one input. -/
def transactionsInWrong : ChangeSpec := { name := "transactionsIn", fn := fun _ => fun
  | [d1, d2] => { results := [.lit (.bool false)], args := [d1, d2] }
  | _ => none }
def TransactionsInWrongFalsely : Prop := transactionsInRow.holds Tryd.pinned (OpenSpec.ofChange transactionsInWrong)

/- THE SECOND FORM. 'bulk': how many values and letters a reading holds, each counted each time it is reached (what is shared counts as often as it is met; a slice's spare places count too). A statement '..UptoSaid' is the law's where the arguments, and the package variables that the reading takes, are together of bulk at most 1048576: NARROWER than '..Said'. Prove '..Said' where nothing that the law and all that it calls make is longer than what came in: it says more and counts as full. Else prove '..UptoSaid'. A law counts once. -/
mutual
def uptoBulk {H : Type} : DataW H → Nat
  | .lit (.string bytes) => bytes.length + 1
  | .lit _ => 1
  | .nil => 1
  | .ptr d => uptoBulk d + 1
  | .slice elems spare => uptoBulkAll elems + uptoBulkAll spare + 1
  | .agg parts => uptoBulkAll parts + 1
  | .iface _ d => uptoBulk d + 1
  | .map entries => uptoBulkEntries entries + 1
  | .held _ => 1
def uptoBulkAll {H : Type} : List (DataW H) → Nat
  | [] => 0
  | d :: r => uptoBulk d + uptoBulkAll r
def uptoBulkEntries {H : Type} : List (Lit × DataW H) → Nat
  | [] => 0
  | x :: r => uptoBulkEntry x + uptoBulkEntries r
def uptoBulkEntry {H : Type} : Lit × DataW H → Nat
  | (.string bytes, d) => bytes.length + uptoBulk d + 1
  | (_, d) => uptoBulk d + 1
 end
def uptoSmall : (H : Type) → List (DataW H) → Bool := fun _ ds => decide (uptoBulkAll ds ≤ 1048576)
def OpenSpec.upto (s : _root_.Go.ChangeSpec) : _root_.Go.OpenSpec := { _root_.Go.OpenSpec.ofChange s with cond := some uptoSmall }

/-- 'plugboardlaw06.TransactionsLine', WHERE WHAT IT READS IS OF BULK AT MOST 1048576: true; the input reads as it did. -/
def transactionsLineUptoRow : OpenClaim := { program := "ytkfkcpogcobmbaadoor", sum := "8c82e990a2219685e5aba94d55a55d75e75f1ec2688a85e4fa6ad4b414fcbabb", func := "plugboard/plugboardlaw06.TransactionsLine", spec := "transactionsLine", unfollowed := true, recurses := true, named := ["plugboard/packets.pidNames"], apart := false, laid := [("plugboard/packets.pidNames", laid_plugboard_packets_pidNames)], narrowed := true }
def TransactionsLineUptoSaid : Prop := transactionsLineUptoRow.holds Tryd.pinned (OpenSpec.upto transactionsLineSpec)

/-- 'plugboardlaw06.TransactionsCheck', WHERE WHAT IT READS IS OF BULK AT MOST 1048576: true; the input reads as it did. -/
def transactionsCheckUptoRow : OpenClaim := { program := "ytkfkcpogcobmbaadoor", sum := "8c82e990a2219685e5aba94d55a55d75e75f1ec2688a85e4fa6ad4b414fcbabb", func := "plugboard/plugboardlaw06.TransactionsCheck", spec := "transactionsCheck", unfollowed := true, recurses := true, named := ["plugboard/packets.pidNames"], apart := false, laid := [("plugboard/packets.pidNames", laid_plugboard_packets_pidNames)], narrowed := true }
def TransactionsCheckUptoSaid : Prop := transactionsCheckUptoRow.holds Tryd.pinned (OpenSpec.upto transactionsCheckSpec)

/-- 'plugboardlaw06.TransactionsSpeak', WHERE WHAT IT READS IS OF BULK AT MOST 1048576: true; the input reads as it did. -/
def transactionsSpeakUptoRow : OpenClaim := { program := "ytkfkcpogcobmbaadoor", sum := "8c82e990a2219685e5aba94d55a55d75e75f1ec2688a85e4fa6ad4b414fcbabb", func := "plugboard/plugboardlaw06.TransactionsSpeak", spec := "transactionsSpeak", unfollowed := true, recurses := true, named := ["plugboard/packets.pidNames"], apart := false, laid := [("plugboard/packets.pidNames", laid_plugboard_packets_pidNames)], narrowed := true }
def TransactionsSpeakUptoSaid : Prop := transactionsSpeakUptoRow.holds Tryd.pinned (OpenSpec.upto transactionsSpeakSpec)

/-- 'plugboardlaw06.TransactionsDo', WHERE WHAT IT READS IS OF BULK AT MOST 1048576: true; the input reads as it did. -/
def transactionsDoUptoRow : OpenClaim := { program := "ytkfkcpogcobmbaadoor", sum := "8c82e990a2219685e5aba94d55a55d75e75f1ec2688a85e4fa6ad4b414fcbabb", func := "plugboard/plugboardlaw06.TransactionsDo", spec := "transactionsDo", unfollowed := true, recurses := true, named := ["plugboard/packets.pidNames"], apart := false, laid := [("plugboard/packets.pidNames", laid_plugboard_packets_pidNames)], narrowed := true }
def TransactionsDoUptoSaid : Prop := transactionsDoUptoRow.holds Tryd.pinned (OpenSpec.upto transactionsDoSpec)

/-- 'plugboardlaw06.TransactionsOut', WHERE WHAT IT READS IS OF BULK AT MOST 1048576: true; the input reads as it did. -/
def transactionsOutUptoRow : OpenClaim := { program := "ytkfkcpogcobmbaadoor", sum := "8c82e990a2219685e5aba94d55a55d75e75f1ec2688a85e4fa6ad4b414fcbabb", func := "plugboard/plugboardlaw06.TransactionsOut", spec := "transactionsOut", unfollowed := true, recurses := true, named := ["plugboard/packets.pidNames"], apart := false, laid := [("plugboard/packets.pidNames", laid_plugboard_packets_pidNames)], narrowed := true }
def TransactionsOutUptoSaid : Prop := transactionsOutUptoRow.holds Tryd.pinned (OpenSpec.upto transactionsOutSpec)

/-- 'plugboardlaw06.TransactionsIn', WHERE WHAT IT READS IS OF BULK AT MOST 1048576: true; the input reads as it did. -/
def transactionsInUptoRow : OpenClaim := { program := "ytkfkcpogcobmbaadoor", sum := "8c82e990a2219685e5aba94d55a55d75e75f1ec2688a85e4fa6ad4b414fcbabb", func := "plugboard/plugboardlaw06.TransactionsIn", spec := "transactionsIn", unfollowed := true, recurses := true, named := ["plugboard/packets.pidNames"], apart := false, laid := [("plugboard/packets.pidNames", laid_plugboard_packets_pidNames)], narrowed := true }
def TransactionsInUptoSaid : Prop := transactionsInUptoRow.holds Tryd.pinned (OpenSpec.upto transactionsInSpec)

end Rows
end Go.Proofs.YtkfkcpogcobmbaaDoor

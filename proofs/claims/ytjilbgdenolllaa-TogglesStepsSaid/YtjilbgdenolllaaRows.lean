/-
  No cell of these rows narrows 'for every input' (looked for: loops, veiled, ifaces, maps, wideKeys, modest, calm, conditions, laid).
  DERIVED. THE GIVEN ROWS OF THIS SEAT. 5 by the template 'for every input the law returns true; each argument reads behind the call as it read before'; 0 by the template 'total and deterministic' (their statements: YtjilbgdenolllaaTotals.lean).
  GIVEN WITH THE SEED: the statements are not yours to turn. If you find one false, say at which input.
  Laid BY PROGRAM, IN A SANDBOX (cutbox-rows.mjs): the forced cells as the released guide's own fill.sh prints them over the translation cf31e75230255344… (all of the seat's roots in one cut). By AI agents, Wed Nov 11 2026. No macro, syntax, notation, axiom, sorry.
-/
import Derived.Test.YtjilbgdenolllaaChecked
import GoSem.Claim
import GoSem.ClaimJoined
import GoSem.ClaimMapViews
import Derived.JoinedTies
import Derived.KernelRfl
namespace Go.Proofs.Ytjilbgdenolllaa
/- THE CELL 'sum', in the pinned program and in every row, IS THE sha256 OF THE DUMP (.gsa) THAT YtjilbgdenolllaaProg.lean LOADS. Nothing in Lean hashes anything: it is a label: what it is worth is what the hold of that sum in a sandbox is worth. -/
noncomputable def Try.pinned : Pinned := { name := "ytjilbgdenolllaa", sum := "cf31e75230255344e9cd3a7ff7c198c8604e0fcc41584ea10fa6fb8f7c548f4e", checked := Try.checked }
namespace Rows
def none {H : Type} : Left H := { results := [], args := [] }

/-- 'plugboardlaw05.TogglesNew': WHATEVER THE INPUT: true; the input reads as it did. -/
def togglesNewSpec : ChangeSpec := { name := "togglesNew", fn := fun _ => fun
  | [d1, d2, d3] => { results := [.lit (.bool true)], args := [d1, d2, d3] }
  | _ => none }
def togglesNewRow : OpenClaim := { program := "ytjilbgdenolllaa", sum := "cf31e75230255344e9cd3a7ff7c198c8604e0fcc41584ea10fa6fb8f7c548f4e", func := "plugboard/plugboardlaw05.TogglesNew", spec := "togglesNew", unfollowed := true, recurses := true, apart := false }
def TogglesNewSaid : Prop := togglesNewRow.holds Try.pinned (OpenSpec.ofChange togglesNewSpec)

/-- ITS FALSE NEIGHBOUR: 'it returns false'. Refute it at one input. -/
def togglesNewWrong : ChangeSpec := { name := "togglesNew", fn := fun _ => fun
  | [d1, d2, d3] => { results := [.lit (.bool false)], args := [d1, d2, d3] }
  | _ => none }
def TogglesNewWrongFalsely : Prop := togglesNewRow.holds Try.pinned (OpenSpec.ofChange togglesNewWrong)

/-- 'plugboardlaw05.TogglesSteps': WHATEVER THE INPUT: true; the input reads as it did. -/
def togglesStepsSpec : ChangeSpec := { name := "togglesSteps", fn := fun _ => fun
  | [d1, d2, d3] => { results := [.lit (.bool true)], args := [d1, d2, d3] }
  | _ => none }
def togglesStepsRow : OpenClaim := { program := "ytjilbgdenolllaa", sum := "cf31e75230255344e9cd3a7ff7c198c8604e0fcc41584ea10fa6fb8f7c548f4e", func := "plugboard/plugboardlaw05.TogglesSteps", spec := "togglesSteps", unfollowed := true, recurses := true, apart := false }
def TogglesStepsSaid : Prop := togglesStepsRow.holds Try.pinned (OpenSpec.ofChange togglesStepsSpec)

/-- ITS FALSE NEIGHBOUR: 'it returns false'. Refute it at one input. -/
def togglesStepsWrong : ChangeSpec := { name := "togglesSteps", fn := fun _ => fun
  | [d1, d2, d3] => { results := [.lit (.bool false)], args := [d1, d2, d3] }
  | _ => none }
def TogglesStepsWrongFalsely : Prop := togglesStepsRow.holds Try.pinned (OpenSpec.ofChange togglesStepsWrong)

/-- 'plugboardlaw05.TogglesRun': WHATEVER THE INPUT: true; the input reads as it did. -/
def togglesRunSpec : ChangeSpec := { name := "togglesRun", fn := fun _ => fun
  | [d1, d2, d3] => { results := [.lit (.bool true)], args := [d1, d2, d3] }
  | _ => none }
def togglesRunRow : OpenClaim := { program := "ytjilbgdenolllaa", sum := "cf31e75230255344e9cd3a7ff7c198c8604e0fcc41584ea10fa6fb8f7c548f4e", func := "plugboard/plugboardlaw05.TogglesRun", spec := "togglesRun", unfollowed := true, recurses := true, apart := false }
def TogglesRunSaid : Prop := togglesRunRow.holds Try.pinned (OpenSpec.ofChange togglesRunSpec)

/-- ITS FALSE NEIGHBOUR: 'it returns false'. Refute it at one input. -/
def togglesRunWrong : ChangeSpec := { name := "togglesRun", fn := fun _ => fun
  | [d1, d2, d3] => { results := [.lit (.bool false)], args := [d1, d2, d3] }
  | _ => none }
def TogglesRunWrongFalsely : Prop := togglesRunRow.holds Try.pinned (OpenSpec.ofChange togglesRunWrong)

/-- 'plugboardlaw05.TogglesOrder': WHATEVER THE INPUT: true; the input reads as it did. -/
def togglesOrderSpec : ChangeSpec := { name := "togglesOrder", fn := fun _ => fun
  | [d1, d2] => { results := [.lit (.bool true)], args := [d1, d2] }
  | _ => none }
def togglesOrderRow : OpenClaim := { program := "ytjilbgdenolllaa", sum := "cf31e75230255344e9cd3a7ff7c198c8604e0fcc41584ea10fa6fb8f7c548f4e", func := "plugboard/plugboardlaw05.TogglesOrder", spec := "togglesOrder", unfollowed := true, recurses := true, apart := false }
def TogglesOrderSaid : Prop := togglesOrderRow.holds Try.pinned (OpenSpec.ofChange togglesOrderSpec)

/-- ITS FALSE NEIGHBOUR: 'it returns false'. Refute it at one input. -/
def togglesOrderWrong : ChangeSpec := { name := "togglesOrder", fn := fun _ => fun
  | [d1, d2] => { results := [.lit (.bool false)], args := [d1, d2] }
  | _ => none }
def TogglesOrderWrongFalsely : Prop := togglesOrderRow.holds Try.pinned (OpenSpec.ofChange togglesOrderWrong)

/-- 'plugboardlaw05.TogglesClear': WHATEVER THE INPUT: true; the input reads as it did. -/
def togglesClearSpec : ChangeSpec := { name := "togglesClear", fn := fun _ => fun
  | [d1, d2] => { results := [.lit (.bool true)], args := [d1, d2] }
  | _ => none }
def togglesClearRow : OpenClaim := { program := "ytjilbgdenolllaa", sum := "cf31e75230255344e9cd3a7ff7c198c8604e0fcc41584ea10fa6fb8f7c548f4e", func := "plugboard/plugboardlaw05.TogglesClear", spec := "togglesClear", unfollowed := true, recurses := true, apart := false }
def TogglesClearSaid : Prop := togglesClearRow.holds Try.pinned (OpenSpec.ofChange togglesClearSpec)

/-- ITS FALSE NEIGHBOUR: 'it returns false'. Refute it at one input. -/
def togglesClearWrong : ChangeSpec := { name := "togglesClear", fn := fun _ => fun
  | [d1, d2] => { results := [.lit (.bool false)], args := [d1, d2] }
  | _ => none }
def TogglesClearWrongFalsely : Prop := togglesClearRow.holds Try.pinned (OpenSpec.ofChange togglesClearWrong)

/- THE SECOND FORM. 'bulk': how many values and letters a reading holds, each counted each time it is reached (what is shared counts as often as it is met; a slice's spare places count too). A statement '..UptoSaid' is the law's where the arguments, and the package variables that the reading takes, are together of bulk at most 1048576: NARROWER than '..Said'. Prove '..Said' where nothing that the law and all that it calls make is longer than what came in: it says more and counts as full. Else prove '..UptoSaid'. A law counts once. -/
mutual
def uptoBulk {H : Type} : DataW H → Nat
  | .lit (.string bytes) => bytes.length + 1
  | .lit _ => 1
  | .nil => 1
  | .ptr d => uptoBulk d + 1
  | .slice elems spare => uptoBulkAll elems + uptoBulkAll spare + 1
  | .agg parts => uptoBulkAll parts + 1
  | .iface _ d => uptoBulk d + 1
  | .map entries => uptoBulkEntries entries + 1
  | .held _ => 1
def uptoBulkAll {H : Type} : List (DataW H) → Nat
  | [] => 0
  | d :: r => uptoBulk d + uptoBulkAll r
def uptoBulkEntries {H : Type} : List (Lit × DataW H) → Nat
  | [] => 0
  | x :: r => uptoBulkEntry x + uptoBulkEntries r
def uptoBulkEntry {H : Type} : Lit × DataW H → Nat
  | (.string bytes, d) => bytes.length + uptoBulk d + 1
  | (_, d) => uptoBulk d + 1
 end
def uptoSmall : (H : Type) → List (DataW H) → Bool := fun _ ds => decide (uptoBulkAll ds ≤ 1048576)
def OpenSpec.upto (s : _root_.Go.ChangeSpec) : _root_.Go.OpenSpec := { _root_.Go.OpenSpec.ofChange s with cond := some uptoSmall }

/-- 'plugboardlaw05.TogglesNew', WHERE WHAT IT READS IS OF BULK AT MOST 1048576: true; the input reads as it did. -/
def togglesNewUptoRow : OpenClaim := { program := "ytjilbgdenolllaa", sum := "cf31e75230255344e9cd3a7ff7c198c8604e0fcc41584ea10fa6fb8f7c548f4e", func := "plugboard/plugboardlaw05.TogglesNew", spec := "togglesNew", unfollowed := true, recurses := true, apart := false, narrowed := true }
def TogglesNewUptoSaid : Prop := togglesNewUptoRow.holds Try.pinned (OpenSpec.upto togglesNewSpec)

/-- 'plugboardlaw05.TogglesSteps', WHERE WHAT IT READS IS OF BULK AT MOST 1048576: true; the input reads as it did. -/
def togglesStepsUptoRow : OpenClaim := { program := "ytjilbgdenolllaa", sum := "cf31e75230255344e9cd3a7ff7c198c8604e0fcc41584ea10fa6fb8f7c548f4e", func := "plugboard/plugboardlaw05.TogglesSteps", spec := "togglesSteps", unfollowed := true, recurses := true, apart := false, narrowed := true }
def TogglesStepsUptoSaid : Prop := togglesStepsUptoRow.holds Try.pinned (OpenSpec.upto togglesStepsSpec)

/-- 'plugboardlaw05.TogglesRun', WHERE WHAT IT READS IS OF BULK AT MOST 1048576: true; the input reads as it did. -/
def togglesRunUptoRow : OpenClaim := { program := "ytjilbgdenolllaa", sum := "cf31e75230255344e9cd3a7ff7c198c8604e0fcc41584ea10fa6fb8f7c548f4e", func := "plugboard/plugboardlaw05.TogglesRun", spec := "togglesRun", unfollowed := true, recurses := true, apart := false, narrowed := true }
def TogglesRunUptoSaid : Prop := togglesRunUptoRow.holds Try.pinned (OpenSpec.upto togglesRunSpec)

/-- 'plugboardlaw05.TogglesOrder', WHERE WHAT IT READS IS OF BULK AT MOST 1048576: true; the input reads as it did. -/
def togglesOrderUptoRow : OpenClaim := { program := "ytjilbgdenolllaa", sum := "cf31e75230255344e9cd3a7ff7c198c8604e0fcc41584ea10fa6fb8f7c548f4e", func := "plugboard/plugboardlaw05.TogglesOrder", spec := "togglesOrder", unfollowed := true, recurses := true, apart := false, narrowed := true }
def TogglesOrderUptoSaid : Prop := togglesOrderUptoRow.holds Try.pinned (OpenSpec.upto togglesOrderSpec)

/-- 'plugboardlaw05.TogglesClear', WHERE WHAT IT READS IS OF BULK AT MOST 1048576: true; the input reads as it did. -/
def togglesClearUptoRow : OpenClaim := { program := "ytjilbgdenolllaa", sum := "cf31e75230255344e9cd3a7ff7c198c8604e0fcc41584ea10fa6fb8f7c548f4e", func := "plugboard/plugboardlaw05.TogglesClear", spec := "togglesClear", unfollowed := true, recurses := true, apart := false, narrowed := true }
def TogglesClearUptoSaid : Prop := togglesClearUptoRow.holds Try.pinned (OpenSpec.upto togglesClearSpec)

end Rows
end Go.Proofs.Ytjilbgdenolllaa

/-
  No cell of these rows narrows 'for every input' (looked for: loops, veiled, ifaces, maps, wideKeys, modest, calm, conditions, laid).
  DERIVED. THE GIVEN ROWS OF THIS SEAT. 5 by the template 'for every input the law returns true; each argument reads behind the call as it read before'; 0 by the template 'total and deterministic' (their statements: YtkmjemaajgdoiaaTotals.lean).
  GIVEN WITH THE SEED: the statements are not yours to turn. If you find one false, say at which input.
  Laid BY PROGRAM, IN A SANDBOX (cutbox-rows.mjs): the forced cells as the released guide's own fill.sh prints them over the translation 1c8dfe768d38807b… (all of the seat's roots in one cut). By AI agents, Wed Nov 11 2026. No macro, syntax, notation, axiom, sorry.
-/
import Derived.Test.YtkmjemaajgdoiaaChecked
import GoSem.Claim
import GoSem.ClaimJoined
import GoSem.ClaimMapViews
import Derived.JoinedTies
import Derived.KernelRfl
namespace Go.Proofs.Ytkmjemaajgdoiaa
/- THE CELL 'sum', in the pinned program and in every row, IS THE sha256 OF THE DUMP (.gsa) THAT YtkmjemaajgdoiaaProg.lean LOADS. Nothing in Lean hashes anything: it is a label: what it is worth is what the hold of that sum in a sandbox is worth. -/
noncomputable def Try.pinned : Pinned := { name := "ytkmjemaajgdoiaa", sum := "1c8dfe768d38807b8faf6bc5a215f87b35b897bd9034a70442b1b63b595596cc", checked := Try.checked }
namespace Rows
def none {H : Type} : Left H := { results := [], args := [] }

/-- 'plugboardlaw04.SpeedsCost': WHATEVER THE INPUT: true; the input reads as it did. -/
def speedsCostSpec : ChangeSpec := { name := "speedsCost", fn := fun _ => fun
  | [d1, d2, d3] => { results := [.lit (.bool true)], args := [d1, d2, d3] }
  | _ => none }
def speedsCostRow : OpenClaim := { program := "ytkmjemaajgdoiaa", sum := "1c8dfe768d38807b8faf6bc5a215f87b35b897bd9034a70442b1b63b595596cc", func := "plugboard/plugboardlaw04.SpeedsCost", spec := "speedsCost", unfollowed := true, recurses := true, apart := false }
def SpeedsCostSaid : Prop := speedsCostRow.holds Try.pinned (OpenSpec.ofChange speedsCostSpec)

/-- ITS FALSE NEIGHBOUR: 'it returns false'. Refute it at one input. -/
def speedsCostWrong : ChangeSpec := { name := "speedsCost", fn := fun _ => fun
  | [d1, d2, d3] => { results := [.lit (.bool false)], args := [d1, d2, d3] }
  | _ => none }
def SpeedsCostWrongFalsely : Prop := speedsCostRow.holds Try.pinned (OpenSpec.ofChange speedsCostWrong)

/-- 'plugboardlaw04.SpeedsSplits': WHATEVER THE INPUT: true; the input reads as it did. -/
def speedsSplitsSpec : ChangeSpec := { name := "speedsSplits", fn := fun _ => fun
  | [d1, d2, d3] => { results := [.lit (.bool true)], args := [d1, d2, d3] }
  | _ => none }
def speedsSplitsRow : OpenClaim := { program := "ytkmjemaajgdoiaa", sum := "1c8dfe768d38807b8faf6bc5a215f87b35b897bd9034a70442b1b63b595596cc", func := "plugboard/plugboardlaw04.SpeedsSplits", spec := "speedsSplits", unfollowed := true, recurses := true, apart := false }
def SpeedsSplitsSaid : Prop := speedsSplitsRow.holds Try.pinned (OpenSpec.ofChange speedsSplitsSpec)

/-- ITS FALSE NEIGHBOUR: 'it returns false'. Refute it at one input. -/
def speedsSplitsWrong : ChangeSpec := { name := "speedsSplits", fn := fun _ => fun
  | [d1, d2, d3] => { results := [.lit (.bool false)], args := [d1, d2, d3] }
  | _ => none }
def SpeedsSplitsWrongFalsely : Prop := speedsSplitsRow.holds Try.pinned (OpenSpec.ofChange speedsSplitsWrong)

/-- 'plugboardlaw04.SpeedsBudget': WHATEVER THE INPUT: true; the input reads as it did. -/
def speedsBudgetSpec : ChangeSpec := { name := "speedsBudget", fn := fun _ => fun
  | [d] => { results := [.lit (.bool true)], args := [d] }
  | _ => none }
def speedsBudgetRow : OpenClaim := { program := "ytkmjemaajgdoiaa", sum := "1c8dfe768d38807b8faf6bc5a215f87b35b897bd9034a70442b1b63b595596cc", func := "plugboard/plugboardlaw04.SpeedsBudget", spec := "speedsBudget", unfollowed := true, recurses := true, apart := false }
def SpeedsBudgetSaid : Prop := speedsBudgetRow.holds Try.pinned (OpenSpec.ofChange speedsBudgetSpec)

/-- ITS FALSE NEIGHBOUR: 'it returns false'. Refute it at one input. -/
def speedsBudgetWrong : ChangeSpec := { name := "speedsBudget", fn := fun _ => fun
  | [d] => { results := [.lit (.bool false)], args := [d] }
  | _ => none }
def SpeedsBudgetWrongFalsely : Prop := speedsBudgetRow.holds Try.pinned (OpenSpec.ofChange speedsBudgetWrong)

/-- 'plugboardlaw04.SpeedsFit': WHATEVER THE INPUT: true; the input reads as it did. -/
def speedsFitSpec : ChangeSpec := { name := "speedsFit", fn := fun _ => fun
  | [d1, d2, d3] => { results := [.lit (.bool true)], args := [d1, d2, d3] }
  | _ => none }
def speedsFitRow : OpenClaim := { program := "ytkmjemaajgdoiaa", sum := "1c8dfe768d38807b8faf6bc5a215f87b35b897bd9034a70442b1b63b595596cc", func := "plugboard/plugboardlaw04.SpeedsFit", spec := "speedsFit", unfollowed := true, recurses := true, apart := false }
def SpeedsFitSaid : Prop := speedsFitRow.holds Try.pinned (OpenSpec.ofChange speedsFitSpec)

/-- ITS FALSE NEIGHBOUR: 'it returns false'. Refute it at one input. -/
def speedsFitWrong : ChangeSpec := { name := "speedsFit", fn := fun _ => fun
  | [d1, d2, d3] => { results := [.lit (.bool false)], args := [d1, d2, d3] }
  | _ => none }
def SpeedsFitWrongFalsely : Prop := speedsFitRow.holds Try.pinned (OpenSpec.ofChange speedsFitWrong)

/-- 'plugboardlaw04.SpeedsMost': WHATEVER THE INPUT: true; the input reads as it did. -/
def speedsMostSpec : ChangeSpec := { name := "speedsMost", fn := fun _ => fun
  | [d1, d2, d3] => { results := [.lit (.bool true)], args := [d1, d2, d3] }
  | _ => none }
def speedsMostRow : OpenClaim := { program := "ytkmjemaajgdoiaa", sum := "1c8dfe768d38807b8faf6bc5a215f87b35b897bd9034a70442b1b63b595596cc", func := "plugboard/plugboardlaw04.SpeedsMost", spec := "speedsMost", unfollowed := true, recurses := true, apart := false }
def SpeedsMostSaid : Prop := speedsMostRow.holds Try.pinned (OpenSpec.ofChange speedsMostSpec)

/-- ITS FALSE NEIGHBOUR: 'it returns false'. Refute it at one input. -/
def speedsMostWrong : ChangeSpec := { name := "speedsMost", fn := fun _ => fun
  | [d1, d2, d3] => { results := [.lit (.bool false)], args := [d1, d2, d3] }
  | _ => none }
def SpeedsMostWrongFalsely : Prop := speedsMostRow.holds Try.pinned (OpenSpec.ofChange speedsMostWrong)

/- THE SECOND FORM. 'bulk': how many values and letters a reading holds, each counted each time it is reached (what is shared counts as often as it is met; a slice's spare places count too). A statement '..UptoSaid' is the law's where the arguments, and the package variables that the reading takes, are together of bulk at most 1048576: NARROWER than '..Said'. Prove '..Said' where nothing that the law and all that it calls make is longer than what came in: it says more and counts as full. Else prove '..UptoSaid'. A law counts once. -/
mutual
def uptoBulk {H : Type} : DataW H → Nat
  | .lit (.string bytes) => bytes.length + 1
  | .lit _ => 1
  | .nil => 1
  | .ptr d => uptoBulk d + 1
  | .slice elems spare => uptoBulkAll elems + uptoBulkAll spare + 1
  | .agg parts => uptoBulkAll parts + 1
  | .iface _ d => uptoBulk d + 1
  | .map entries => uptoBulkEntries entries + 1
  | .held _ => 1
def uptoBulkAll {H : Type} : List (DataW H) → Nat
  | [] => 0
  | d :: r => uptoBulk d + uptoBulkAll r
def uptoBulkEntries {H : Type} : List (Lit × DataW H) → Nat
  | [] => 0
  | x :: r => uptoBulkEntry x + uptoBulkEntries r
def uptoBulkEntry {H : Type} : Lit × DataW H → Nat
  | (.string bytes, d) => bytes.length + uptoBulk d + 1
  | (_, d) => uptoBulk d + 1
 end
def uptoSmall : (H : Type) → List (DataW H) → Bool := fun _ ds => decide (uptoBulkAll ds ≤ 1048576)
def OpenSpec.upto (s : _root_.Go.ChangeSpec) : _root_.Go.OpenSpec := { _root_.Go.OpenSpec.ofChange s with cond := some uptoSmall }

/-- 'plugboardlaw04.SpeedsCost', WHERE WHAT IT READS IS OF BULK AT MOST 1048576: true; the input reads as it did. -/
def speedsCostUptoRow : OpenClaim := { program := "ytkmjemaajgdoiaa", sum := "1c8dfe768d38807b8faf6bc5a215f87b35b897bd9034a70442b1b63b595596cc", func := "plugboard/plugboardlaw04.SpeedsCost", spec := "speedsCost", unfollowed := true, recurses := true, apart := false, narrowed := true }
def SpeedsCostUptoSaid : Prop := speedsCostUptoRow.holds Try.pinned (OpenSpec.upto speedsCostSpec)

/-- 'plugboardlaw04.SpeedsSplits', WHERE WHAT IT READS IS OF BULK AT MOST 1048576: true; the input reads as it did. -/
def speedsSplitsUptoRow : OpenClaim := { program := "ytkmjemaajgdoiaa", sum := "1c8dfe768d38807b8faf6bc5a215f87b35b897bd9034a70442b1b63b595596cc", func := "plugboard/plugboardlaw04.SpeedsSplits", spec := "speedsSplits", unfollowed := true, recurses := true, apart := false, narrowed := true }
def SpeedsSplitsUptoSaid : Prop := speedsSplitsUptoRow.holds Try.pinned (OpenSpec.upto speedsSplitsSpec)

/-- 'plugboardlaw04.SpeedsBudget', WHERE WHAT IT READS IS OF BULK AT MOST 1048576: true; the input reads as it did. -/
def speedsBudgetUptoRow : OpenClaim := { program := "ytkmjemaajgdoiaa", sum := "1c8dfe768d38807b8faf6bc5a215f87b35b897bd9034a70442b1b63b595596cc", func := "plugboard/plugboardlaw04.SpeedsBudget", spec := "speedsBudget", unfollowed := true, recurses := true, apart := false, narrowed := true }
def SpeedsBudgetUptoSaid : Prop := speedsBudgetUptoRow.holds Try.pinned (OpenSpec.upto speedsBudgetSpec)

/-- 'plugboardlaw04.SpeedsFit', WHERE WHAT IT READS IS OF BULK AT MOST 1048576: true; the input reads as it did. -/
def speedsFitUptoRow : OpenClaim := { program := "ytkmjemaajgdoiaa", sum := "1c8dfe768d38807b8faf6bc5a215f87b35b897bd9034a70442b1b63b595596cc", func := "plugboard/plugboardlaw04.SpeedsFit", spec := "speedsFit", unfollowed := true, recurses := true, apart := false, narrowed := true }
def SpeedsFitUptoSaid : Prop := speedsFitUptoRow.holds Try.pinned (OpenSpec.upto speedsFitSpec)

/-- 'plugboardlaw04.SpeedsMost', WHERE WHAT IT READS IS OF BULK AT MOST 1048576: true; the input reads as it did. -/
def speedsMostUptoRow : OpenClaim := { program := "ytkmjemaajgdoiaa", sum := "1c8dfe768d38807b8faf6bc5a215f87b35b897bd9034a70442b1b63b595596cc", func := "plugboard/plugboardlaw04.SpeedsMost", spec := "speedsMost", unfollowed := true, recurses := true, apart := false, narrowed := true }
def SpeedsMostUptoSaid : Prop := speedsMostUptoRow.holds Try.pinned (OpenSpec.upto speedsMostSpec)

end Rows
end Go.Proofs.Ytkmjemaajgdoiaa

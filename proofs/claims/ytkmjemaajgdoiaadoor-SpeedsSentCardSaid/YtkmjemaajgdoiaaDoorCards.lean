/-
  DERIVED. GIVEN WITH THE SEED: THE CARDS: each row of YtkmjemaajgdoiaaDoorRows.lean that lists a variable, with what it lists TIED to the program's text (the seventh form; the later family's looks); each row that meets fmt, with fmt's text TOLD by the authors' own Lean function (tested against real Go, not proved from fmt's source: count such statements apart). THE CARD IS WHAT COUNTS. Prove the row's statement (the work); the ties are given (YtkmjemaajgdoiaaDoorTie.lean); close each card by the builder's one call (the guide's Derived/Test/ToyasCard.lean, 'card_holds'). Laid BY PROGRAM, IN A SANDBOX (cutbox-door.mjs). By AI agents, Wed Nov 11 2026. No macro, syntax, notation, axiom, sorry.
-/
import Derived.Test.YtkmjemaajgdoiaaDoorRows
import GoSem.ClaimSeven
namespace Go.Proofs.YtkmjemaajgdoiaaDoor
namespace Rows

/-- THE TIED CARD OF 'plugboardlaw04.SpeedsWorst'. -/
def speedsWorstCard : Claim7 := { stood := { row := speedsWorstRow, standIns := [], harness := (true, "dd6bffb73d0fd0325d4facec7b2dc471305f13b26352965758f624c08940fdf8"), looks := false }, kinds := [], alts := [], laidByText := true, laidKinds := [.data, .data], laidTests := true, laidLooks := .later }
def SpeedsWorstCardSaid : Prop := Claim7.holds Tryd.pinned (.plain (OpenSpec.ofChange speedsWorstSpec)) speedsWorstCard

/-- THE TIED CARD OF 'plugboardlaw04.SpeedsSent'. -/
def speedsSentCard : Claim7 := { stood := { row := speedsSentRow, standIns := [], harness := (true, "dd6bffb73d0fd0325d4facec7b2dc471305f13b26352965758f624c08940fdf8"), looks := false }, kinds := [], alts := [], laidByText := true, laidKinds := [.data, .data, .data, .data, .data], laidTests := true, laidLooks := .later }
def SpeedsSentCardSaid : Prop := Claim7.holds Tryd.pinned (.plain (OpenSpec.ofChange speedsSentSpec)) speedsSentCard

/-- THE SECOND FORM's CARD OF 'plugboardlaw04.SpeedsWorst'. -/
def speedsWorstUptoCard : Claim7 := { stood := { row := speedsWorstUptoRow, standIns := [], harness := (true, "dd6bffb73d0fd0325d4facec7b2dc471305f13b26352965758f624c08940fdf8"), looks := false }, kinds := [], alts := [], laidByText := true, laidKinds := [.data, .data], laidTests := true, laidLooks := .later }
def SpeedsWorstUptoCardSaid : Prop := Claim7.holds Tryd.pinned (.plain (OpenSpec.upto speedsWorstSpec)) speedsWorstUptoCard

/-- THE SECOND FORM's CARD OF 'plugboardlaw04.SpeedsSent'. -/
def speedsSentUptoCard : Claim7 := { stood := { row := speedsSentUptoRow, standIns := [], harness := (true, "dd6bffb73d0fd0325d4facec7b2dc471305f13b26352965758f624c08940fdf8"), looks := false }, kinds := [], alts := [], laidByText := true, laidKinds := [.data, .data, .data, .data, .data], laidTests := true, laidLooks := .later }
def SpeedsSentUptoCardSaid : Prop := Claim7.holds Tryd.pinned (.plain (OpenSpec.upto speedsSentSpec)) speedsSentUptoCard
end Rows
end Go.Proofs.YtkmjemaajgdoiaaDoor

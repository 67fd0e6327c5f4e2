/-
  DERIVED. GIVEN WITH THE SEED: THE CARDS: each row of YtgihpgdjkanodaaGreatDoorRows.lean that lists a variable, with what it lists TIED to the program's text (the seventh form; the later family's looks); each row that meets fmt, with fmt's text TOLD by the authors' own Lean function (tested against real Go, not proved from fmt's source: count such statements apart). THE CARD IS WHAT COUNTS. Prove the row's statement (the work); the ties are given (YtgihpgdjkanodaaGreatDoorTie.lean); close each card by the builder's one call (the guide's Derived/Test/ToyasCard.lean, 'card_holds'). Laid BY PROGRAM, IN A SANDBOX (cutbox-door.mjs). By AI agents, Wed Nov 11 2026. No macro, syntax, notation, axiom, sorry.
-/
import Derived.Test.YtgihpgdjkanodaaGreatDoorRows
import GoSem.ClaimSeven
namespace Go.Proofs.YtgihpgdjkanodaaGreatDoor
namespace Rows

/-- THE TIED CARD OF 'plugboardlaw11.FramesNew'. -/
def framesNewCard : Claim7 := { stood := { row := framesNewRow, standIns := [], harness := (true, "891faa91f91da527105d19d394420d153867fe573e4a8e3473fbc6a150de69b8"), looks := false }, kinds := [], alts := [], laidByText := true, laidKinds := [.data, .data, .data, .data, .data, .data], laidTests := true, laidLooks := .later }
def FramesNewCardSaid : Prop := Claim7.holds Tryz.pinned (.plain (OpenSpec.ofChange framesNewSpec)) framesNewCard

/-- THE TIED CARD OF 'plugboardlaw11.FramesScript'. -/
def framesScriptCard : Claim7 := { stood := { row := framesScriptRow, standIns := [], harness := (true, "891faa91f91da527105d19d394420d153867fe573e4a8e3473fbc6a150de69b8"), looks := false }, kinds := [], alts := [], laidByText := true, laidKinds := [.data, .data, .data, .data, .data, .data], laidTests := true, laidLooks := .later }
def FramesScriptCardSaid : Prop := Claim7.holds Tryz.pinned (.plain (OpenSpec.ofChange framesScriptSpec)) framesScriptCard

/-- THE TIED CARD OF 'plugboardlaw11.FramesNumbers'. -/
def framesNumbersCard : Claim7 := { stood := { row := framesNumbersRow, standIns := [], harness := (true, "891faa91f91da527105d19d394420d153867fe573e4a8e3473fbc6a150de69b8"), looks := false }, kinds := [], alts := [], laidByText := true, laidKinds := [.data, .data, .data, .data, .data, .data], laidTests := true, laidLooks := .later }
def FramesNumbersCardSaid : Prop := Claim7.holds Tryz.pinned (.plain (OpenSpec.ofChange framesNumbersSpec)) framesNumbersCard

/-- THE SECOND FORM's CARD OF 'plugboardlaw11.FramesNew'. -/
def framesNewUptoCard : Claim7 := { stood := { row := framesNewUptoRow, standIns := [], harness := (true, "891faa91f91da527105d19d394420d153867fe573e4a8e3473fbc6a150de69b8"), looks := false }, kinds := [], alts := [], laidByText := true, laidKinds := [.data, .data, .data, .data, .data, .data], laidTests := true, laidLooks := .later }
def FramesNewUptoCardSaid : Prop := Claim7.holds Tryz.pinned (.plain (OpenSpec.upto framesNewSpec)) framesNewUptoCard

/-- THE SECOND FORM's CARD OF 'plugboardlaw11.FramesScript'. -/
def framesScriptUptoCard : Claim7 := { stood := { row := framesScriptUptoRow, standIns := [], harness := (true, "891faa91f91da527105d19d394420d153867fe573e4a8e3473fbc6a150de69b8"), looks := false }, kinds := [], alts := [], laidByText := true, laidKinds := [.data, .data, .data, .data, .data, .data], laidTests := true, laidLooks := .later }
def FramesScriptUptoCardSaid : Prop := Claim7.holds Tryz.pinned (.plain (OpenSpec.upto framesScriptSpec)) framesScriptUptoCard

/-- THE SECOND FORM's CARD OF 'plugboardlaw11.FramesNumbers'. -/
def framesNumbersUptoCard : Claim7 := { stood := { row := framesNumbersUptoRow, standIns := [], harness := (true, "891faa91f91da527105d19d394420d153867fe573e4a8e3473fbc6a150de69b8"), looks := false }, kinds := [], alts := [], laidByText := true, laidKinds := [.data, .data, .data, .data, .data, .data], laidTests := true, laidLooks := .later }
def FramesNumbersUptoCardSaid : Prop := Claim7.holds Tryz.pinned (.plain (OpenSpec.upto framesNumbersSpec)) framesNumbersUptoCard
end Rows
end Go.Proofs.YtgihpgdjkanodaaGreatDoor

/-
  DERIVED. GIVEN WITH THE SEED: THE CARDS: each row of YtgcjhnljlgneiaaGreatDoorRows.lean that lists a variable, with what it lists TIED to the program's text (the seventh form; the later family's looks); each row that meets fmt, with fmt's text TOLD by the authors' own Lean function (tested against real Go, not proved from fmt's source: count such statements apart). THE CARD IS WHAT COUNTS. Prove the row's statement (the work); the ties are given (YtgcjhnljlgneiaaGreatDoorTie.lean); close each card by the builder's one call (the guide's Derived/Test/ToyasCard.lean, 'card_holds'). Laid BY PROGRAM, IN A SANDBOX (cutbox-door.mjs). By AI agents, Wed Nov 11 2026. No macro, syntax, notation, axiom, sorry.
-/
import Derived.Test.YtgcjhnljlgneiaaGreatDoorRows
import GoSem.ClaimSeven
namespace Go.Proofs.YtgcjhnljlgneiaaGreatDoor
namespace Rows

/-- THE TIED CARD OF 'plugboardlaw08.ControlsBytes'. -/
def controlsBytesCard : Claim7 := { stood := { row := controlsBytesRow, standIns := [], harness := (true, "8c390926c6eeb8e831c8178a1c82fc2deb783f3f7b3a6260151b2bba5c677f84"), looks := false }, kinds := [], alts := [], laidByText := true, laidKinds := [.data], laidTests := true, laidLooks := .later }
def ControlsBytesCardSaid : Prop := Claim7.holds Tryz.pinned (.plain (OpenSpec.ofChange controlsBytesSpec)) controlsBytesCard

/-- THE TIED CARD OF 'plugboardlaw08.ControlsNew'. -/
def controlsNewCard : Claim7 := { stood := { row := controlsNewRow, standIns := [], harness := (true, "8c390926c6eeb8e831c8178a1c82fc2deb783f3f7b3a6260151b2bba5c677f84"), looks := false }, kinds := [], alts := [], laidByText := true, laidKinds := [.data], laidTests := true, laidLooks := .later }
def ControlsNewCardSaid : Prop := Claim7.holds Tryz.pinned (.plain (OpenSpec.ofChange controlsNewSpec)) controlsNewCard

/-- THE TIED CARD OF 'plugboardlaw08.ControlsHost'. -/
def controlsHostCard : Claim7 := { stood := { row := controlsHostRow, standIns := [], harness := (true, "8c390926c6eeb8e831c8178a1c82fc2deb783f3f7b3a6260151b2bba5c677f84"), looks := false }, kinds := [], alts := [], laidByText := true, laidKinds := [.data], laidTests := true, laidLooks := .later }
def ControlsHostCardSaid : Prop := Claim7.holds Tryz.pinned (.plain (OpenSpec.ofChange controlsHostSpec)) controlsHostCard

/-- THE TIED CARD OF 'plugboardlaw08.ControlsOnce'. -/
def controlsOnceCard : Claim7 := { stood := { row := controlsOnceRow, standIns := [], harness := (true, "8c390926c6eeb8e831c8178a1c82fc2deb783f3f7b3a6260151b2bba5c677f84"), looks := false }, kinds := [], alts := [], laidByText := true, laidKinds := [.data], laidTests := true, laidLooks := .later }
def ControlsOnceCardSaid : Prop := Claim7.holds Tryz.pinned (.plain (OpenSpec.ofChange controlsOnceSpec)) controlsOnceCard

/-- THE TIED CARD OF 'plugboardlaw08.ControlsFew'. -/
def controlsFewCard : Claim7 := { stood := { row := controlsFewRow, standIns := [], harness := (true, "8c390926c6eeb8e831c8178a1c82fc2deb783f3f7b3a6260151b2bba5c677f84"), looks := false }, kinds := [], alts := [], laidByText := true, laidKinds := [.data], laidTests := true, laidLooks := .later }
def ControlsFewCardSaid : Prop := Claim7.holds Tryz.pinned (.plain (OpenSpec.ofChange controlsFewSpec)) controlsFewCard

/-- THE SECOND FORM's CARD OF 'plugboardlaw08.ControlsBytes'. -/
def controlsBytesUptoCard : Claim7 := { stood := { row := controlsBytesUptoRow, standIns := [], harness := (true, "8c390926c6eeb8e831c8178a1c82fc2deb783f3f7b3a6260151b2bba5c677f84"), looks := false }, kinds := [], alts := [], laidByText := true, laidKinds := [.data], laidTests := true, laidLooks := .later }
def ControlsBytesUptoCardSaid : Prop := Claim7.holds Tryz.pinned (.plain (OpenSpec.upto controlsBytesSpec)) controlsBytesUptoCard

/-- THE SECOND FORM's CARD OF 'plugboardlaw08.ControlsNew'. -/
def controlsNewUptoCard : Claim7 := { stood := { row := controlsNewUptoRow, standIns := [], harness := (true, "8c390926c6eeb8e831c8178a1c82fc2deb783f3f7b3a6260151b2bba5c677f84"), looks := false }, kinds := [], alts := [], laidByText := true, laidKinds := [.data], laidTests := true, laidLooks := .later }
def ControlsNewUptoCardSaid : Prop := Claim7.holds Tryz.pinned (.plain (OpenSpec.upto controlsNewSpec)) controlsNewUptoCard

/-- THE SECOND FORM's CARD OF 'plugboardlaw08.ControlsHost'. -/
def controlsHostUptoCard : Claim7 := { stood := { row := controlsHostUptoRow, standIns := [], harness := (true, "8c390926c6eeb8e831c8178a1c82fc2deb783f3f7b3a6260151b2bba5c677f84"), looks := false }, kinds := [], alts := [], laidByText := true, laidKinds := [.data], laidTests := true, laidLooks := .later }
def ControlsHostUptoCardSaid : Prop := Claim7.holds Tryz.pinned (.plain (OpenSpec.upto controlsHostSpec)) controlsHostUptoCard

/-- THE SECOND FORM's CARD OF 'plugboardlaw08.ControlsOnce'. -/
def controlsOnceUptoCard : Claim7 := { stood := { row := controlsOnceUptoRow, standIns := [], harness := (true, "8c390926c6eeb8e831c8178a1c82fc2deb783f3f7b3a6260151b2bba5c677f84"), looks := false }, kinds := [], alts := [], laidByText := true, laidKinds := [.data], laidTests := true, laidLooks := .later }
def ControlsOnceUptoCardSaid : Prop := Claim7.holds Tryz.pinned (.plain (OpenSpec.upto controlsOnceSpec)) controlsOnceUptoCard

/-- THE SECOND FORM's CARD OF 'plugboardlaw08.ControlsFew'. -/
def controlsFewUptoCard : Claim7 := { stood := { row := controlsFewUptoRow, standIns := [], harness := (true, "8c390926c6eeb8e831c8178a1c82fc2deb783f3f7b3a6260151b2bba5c677f84"), looks := false }, kinds := [], alts := [], laidByText := true, laidKinds := [.data], laidTests := true, laidLooks := .later }
def ControlsFewUptoCardSaid : Prop := Claim7.holds Tryz.pinned (.plain (OpenSpec.upto controlsFewSpec)) controlsFewUptoCard
end Rows
end Go.Proofs.YtgcjhnljlgneiaaGreatDoor

/-
  DERIVED. GIVEN WITH THE SEED: THE CARDS: each row of YtfpfadenfoehfaaDoorRows.lean that lists a variable, with what it lists TIED to the program's text (the seventh form; the later family's looks); each row that meets fmt, with fmt's text TOLD by the authors' own Lean function (tested against real Go, not proved from fmt's source: count such statements apart). THE CARD IS WHAT COUNTS. Prove the row's statement (the work); the ties are given (YtfpfadenfoehfaaDoorTie.lean); close each card by the builder's one call (the guide's Derived/Test/ToyasCard.lean, 'card_holds'). Laid BY PROGRAM, IN A SANDBOX (cutbox-door.mjs). By AI agents, Wed Nov 11 2026. No macro, syntax, notation, axiom, sorry.
-/
import Derived.Test.YtfpfadenfoehfaaDoorRows
import GoSem.ClaimSeven
namespace Go.Proofs.YtfpfadenfoehfaaDoor
namespace Rows

/-- THE TIED CARD OF 'plugboardlaw02.ChecksFive'. -/
def checksFiveCard : Claim7 := { stood := { row := checksFiveRow, standIns := [], harness := (true, "e930a117a5f02b5b5f991404feac26380cd685b31394d70f7fff9718df6102c8"), looks := false }, kinds := [], alts := [], laidByText := true, laidKinds := [.data, .data], laidTests := true, laidLooks := .later }
def ChecksFiveCardSaid : Prop := Claim7.holds Tryd.pinned (.plain (OpenSpec.ofChange checksFiveSpec)) checksFiveCard

/-- THE TIED CARD OF 'plugboardlaw02.ChecksPart'. -/
def checksPartCard : Claim7 := { stood := { row := checksPartRow, standIns := [], harness := (true, "e930a117a5f02b5b5f991404feac26380cd685b31394d70f7fff9718df6102c8"), looks := false }, kinds := [], alts := [], laidByText := true, laidKinds := [.data, .data], laidTests := true, laidLooks := .later }
def ChecksPartCardSaid : Prop := Claim7.holds Tryd.pinned (.plain (OpenSpec.ofChange checksPartSpec)) checksPartCard

/-- THE TIED CARD OF 'plugboardlaw02.ChecksSixteen'. -/
def checksSixteenCard : Claim7 := { stood := { row := checksSixteenRow, standIns := [], harness := (true, "e930a117a5f02b5b5f991404feac26380cd685b31394d70f7fff9718df6102c8"), looks := false }, kinds := [], alts := [], laidByText := true, laidKinds := [.data, .data], laidTests := true, laidLooks := .later }
def ChecksSixteenCardSaid : Prop := Claim7.holds Tryd.pinned (.plain (OpenSpec.ofChange checksSixteenSpec)) checksSixteenCard

/-- THE TIED CARD OF 'plugboardlaw02.ChecksShort'. -/
def checksShortCard : Claim7 := { stood := { row := checksShortRow, standIns := [], harness := (true, "e930a117a5f02b5b5f991404feac26380cd685b31394d70f7fff9718df6102c8"), looks := false }, kinds := [], alts := [], laidByText := true, laidKinds := [.data, .data], laidTests := true, laidLooks := .later }
def ChecksShortCardSaid : Prop := Claim7.holds Tryd.pinned (.plain (OpenSpec.ofChange checksShortSpec)) checksShortCard

/-- THE TIED CARD OF 'plugboardlaw02.ChecksLong'. -/
def checksLongCard : Claim7 := { stood := { row := checksLongRow, standIns := [], harness := (true, "e930a117a5f02b5b5f991404feac26380cd685b31394d70f7fff9718df6102c8"), looks := false }, kinds := [], alts := [], laidByText := true, laidKinds := [.data, .data], laidTests := true, laidLooks := .later }
def ChecksLongCardSaid : Prop := Claim7.holds Tryd.pinned (.plain (OpenSpec.ofChange checksLongSpec)) checksLongCard

/-- THE SECOND FORM's CARD OF 'plugboardlaw02.ChecksFive'. -/
def checksFiveUptoCard : Claim7 := { stood := { row := checksFiveUptoRow, standIns := [], harness := (true, "e930a117a5f02b5b5f991404feac26380cd685b31394d70f7fff9718df6102c8"), looks := false }, kinds := [], alts := [], laidByText := true, laidKinds := [.data, .data], laidTests := true, laidLooks := .later }
def ChecksFiveUptoCardSaid : Prop := Claim7.holds Tryd.pinned (.plain (OpenSpec.upto checksFiveSpec)) checksFiveUptoCard

/-- THE SECOND FORM's CARD OF 'plugboardlaw02.ChecksPart'. -/
def checksPartUptoCard : Claim7 := { stood := { row := checksPartUptoRow, standIns := [], harness := (true, "e930a117a5f02b5b5f991404feac26380cd685b31394d70f7fff9718df6102c8"), looks := false }, kinds := [], alts := [], laidByText := true, laidKinds := [.data, .data], laidTests := true, laidLooks := .later }
def ChecksPartUptoCardSaid : Prop := Claim7.holds Tryd.pinned (.plain (OpenSpec.upto checksPartSpec)) checksPartUptoCard

/-- THE SECOND FORM's CARD OF 'plugboardlaw02.ChecksSixteen'. -/
def checksSixteenUptoCard : Claim7 := { stood := { row := checksSixteenUptoRow, standIns := [], harness := (true, "e930a117a5f02b5b5f991404feac26380cd685b31394d70f7fff9718df6102c8"), looks := false }, kinds := [], alts := [], laidByText := true, laidKinds := [.data, .data], laidTests := true, laidLooks := .later }
def ChecksSixteenUptoCardSaid : Prop := Claim7.holds Tryd.pinned (.plain (OpenSpec.upto checksSixteenSpec)) checksSixteenUptoCard

/-- THE SECOND FORM's CARD OF 'plugboardlaw02.ChecksShort'. -/
def checksShortUptoCard : Claim7 := { stood := { row := checksShortUptoRow, standIns := [], harness := (true, "e930a117a5f02b5b5f991404feac26380cd685b31394d70f7fff9718df6102c8"), looks := false }, kinds := [], alts := [], laidByText := true, laidKinds := [.data, .data], laidTests := true, laidLooks := .later }
def ChecksShortUptoCardSaid : Prop := Claim7.holds Tryd.pinned (.plain (OpenSpec.upto checksShortSpec)) checksShortUptoCard

/-- THE SECOND FORM's CARD OF 'plugboardlaw02.ChecksLong'. -/
def checksLongUptoCard : Claim7 := { stood := { row := checksLongUptoRow, standIns := [], harness := (true, "e930a117a5f02b5b5f991404feac26380cd685b31394d70f7fff9718df6102c8"), looks := false }, kinds := [], alts := [], laidByText := true, laidKinds := [.data, .data], laidTests := true, laidLooks := .later }
def ChecksLongUptoCardSaid : Prop := Claim7.holds Tryd.pinned (.plain (OpenSpec.upto checksLongSpec)) checksLongUptoCard
end Rows
end Go.Proofs.YtfpfadenfoehfaaDoor

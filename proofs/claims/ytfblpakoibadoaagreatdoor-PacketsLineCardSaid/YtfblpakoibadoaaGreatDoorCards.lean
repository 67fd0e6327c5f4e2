/-
  DERIVED. GIVEN WITH THE SEED: THE CARDS: each row of YtfblpakoibadoaaGreatDoorRows.lean that lists a variable, with what it lists TIED to the program's text (the seventh form; the later family's looks); each row that meets fmt, with fmt's text TOLD by the authors' own Lean function (tested against real Go, not proved from fmt's source: count such statements apart). THE CARD IS WHAT COUNTS. Prove the row's statement (the work); the ties are given (YtfblpakoibadoaaGreatDoorTie.lean); close each card by the builder's one call (the guide's Derived/Test/ToyasCard.lean, 'card_holds'). Laid BY PROGRAM, IN A SANDBOX (cutbox-door.mjs). By AI agents, Wed Nov 11 2026. No macro, syntax, notation, axiom, sorry.
-/
import Derived.Test.YtfblpakoibadoaaGreatDoorRows
import GoSem.ClaimSeven
namespace Go.Proofs.YtfblpakoibadoaaGreatDoor
namespace Rows

/-- THE TIED CARD OF 'plugboardlaw03.PacketsCheck'. -/
def packetsCheckCard : Claim7 := { stood := { row := packetsCheckRow, standIns := [], harness := (true, "b0ea54382a0f9a22eb15c5a30807f9a82d56ef38a774515ad5189a3d446d98fb"), looks := false }, kinds := [], alts := [], laidByText := true, laidKinds := [.data, .data, .data, .data, .data, .data, .data, .data], laidTests := true, laidLooks := .later }
def PacketsCheckCardSaid : Prop := Claim7.holds Tryz.pinned (.plain (OpenSpec.ofChange packetsCheckSpec)) packetsCheckCard

/-- THE TIED CARD OF 'plugboardlaw03.PacketsBack'. -/
def packetsBackCard : Claim7 := { stood := { row := packetsBackRow, standIns := [], harness := (true, "b0ea54382a0f9a22eb15c5a30807f9a82d56ef38a774515ad5189a3d446d98fb"), looks := false }, kinds := [], alts := [], laidByText := true, laidKinds := [.data, .data, .data, .data, .data, .data, .data, .data], laidTests := true, laidLooks := .later }
def PacketsBackCardSaid : Prop := Claim7.holds Tryz.pinned (.plain (OpenSpec.ofChange packetsBackSpec)) packetsBackCard

/-- THE TIED CARD OF 'plugboardlaw03.PacketsDecode'. -/
def packetsDecodeCard : Claim7 := { stood := { row := packetsDecodeRow, standIns := [], harness := (true, "b0ea54382a0f9a22eb15c5a30807f9a82d56ef38a774515ad5189a3d446d98fb"), looks := false }, kinds := [], alts := [], laidByText := true, laidKinds := [.data, .data, .data, .data, .data, .data, .data, .data], laidTests := true, laidLooks := .later }
def PacketsDecodeCardSaid : Prop := Claim7.holds Tryz.pinned (.plain (OpenSpec.ofChange packetsDecodeSpec)) packetsDecodeCard

/-- THE TIED CARD OF 'plugboardlaw03.PacketsLine'. -/
def packetsLineCard : Claim7 := { stood := { row := packetsLineRow, standIns := [], harness := (true, "b0ea54382a0f9a22eb15c5a30807f9a82d56ef38a774515ad5189a3d446d98fb"), looks := false }, kinds := [], alts := [], laidByText := true, laidKinds := [.data, .data, .data, .data, .data, .data, .data, .data, .data, .data], laidTests := true, laidLooks := .later }
def PacketsLineCardSaid : Prop := Claim7.holds Tryz.pinned (.plain (OpenSpec.ofChange packetsLineSpec)) packetsLineCard

/-- THE TIED CARD OF 'plugboardlaw03.PacketsSpoiled'. -/
def packetsSpoiledCard : Claim7 := { stood := { row := packetsSpoiledRow, standIns := [], harness := (true, "b0ea54382a0f9a22eb15c5a30807f9a82d56ef38a774515ad5189a3d446d98fb"), looks := false }, kinds := [], alts := [], laidByText := true, laidKinds := [.data, .data, .data, .data, .data, .data, .data, .data, .data, .data], laidTests := true, laidLooks := .later }
def PacketsSpoiledCardSaid : Prop := Claim7.holds Tryz.pinned (.plain (OpenSpec.ofChange packetsSpoiledSpec)) packetsSpoiledCard

/-- THE SECOND FORM's CARD OF 'plugboardlaw03.PacketsCheck'. -/
def packetsCheckUptoCard : Claim7 := { stood := { row := packetsCheckUptoRow, standIns := [], harness := (true, "b0ea54382a0f9a22eb15c5a30807f9a82d56ef38a774515ad5189a3d446d98fb"), looks := false }, kinds := [], alts := [], laidByText := true, laidKinds := [.data, .data, .data, .data, .data, .data, .data, .data], laidTests := true, laidLooks := .later }
def PacketsCheckUptoCardSaid : Prop := Claim7.holds Tryz.pinned (.plain (OpenSpec.upto packetsCheckSpec)) packetsCheckUptoCard

/-- THE SECOND FORM's CARD OF 'plugboardlaw03.PacketsBack'. -/
def packetsBackUptoCard : Claim7 := { stood := { row := packetsBackUptoRow, standIns := [], harness := (true, "b0ea54382a0f9a22eb15c5a30807f9a82d56ef38a774515ad5189a3d446d98fb"), looks := false }, kinds := [], alts := [], laidByText := true, laidKinds := [.data, .data, .data, .data, .data, .data, .data, .data], laidTests := true, laidLooks := .later }
def PacketsBackUptoCardSaid : Prop := Claim7.holds Tryz.pinned (.plain (OpenSpec.upto packetsBackSpec)) packetsBackUptoCard

/-- THE SECOND FORM's CARD OF 'plugboardlaw03.PacketsDecode'. -/
def packetsDecodeUptoCard : Claim7 := { stood := { row := packetsDecodeUptoRow, standIns := [], harness := (true, "b0ea54382a0f9a22eb15c5a30807f9a82d56ef38a774515ad5189a3d446d98fb"), looks := false }, kinds := [], alts := [], laidByText := true, laidKinds := [.data, .data, .data, .data, .data, .data, .data, .data], laidTests := true, laidLooks := .later }
def PacketsDecodeUptoCardSaid : Prop := Claim7.holds Tryz.pinned (.plain (OpenSpec.upto packetsDecodeSpec)) packetsDecodeUptoCard

/-- THE SECOND FORM's CARD OF 'plugboardlaw03.PacketsLine'. -/
def packetsLineUptoCard : Claim7 := { stood := { row := packetsLineUptoRow, standIns := [], harness := (true, "b0ea54382a0f9a22eb15c5a30807f9a82d56ef38a774515ad5189a3d446d98fb"), looks := false }, kinds := [], alts := [], laidByText := true, laidKinds := [.data, .data, .data, .data, .data, .data, .data, .data, .data, .data], laidTests := true, laidLooks := .later }
def PacketsLineUptoCardSaid : Prop := Claim7.holds Tryz.pinned (.plain (OpenSpec.upto packetsLineSpec)) packetsLineUptoCard

/-- THE SECOND FORM's CARD OF 'plugboardlaw03.PacketsSpoiled'. -/
def packetsSpoiledUptoCard : Claim7 := { stood := { row := packetsSpoiledUptoRow, standIns := [], harness := (true, "b0ea54382a0f9a22eb15c5a30807f9a82d56ef38a774515ad5189a3d446d98fb"), looks := false }, kinds := [], alts := [], laidByText := true, laidKinds := [.data, .data, .data, .data, .data, .data, .data, .data, .data, .data], laidTests := true, laidLooks := .later }
def PacketsSpoiledUptoCardSaid : Prop := Claim7.holds Tryz.pinned (.plain (OpenSpec.upto packetsSpoiledSpec)) packetsSpoiledUptoCard
end Rows
end Go.Proofs.YtfblpakoibadoaaGreatDoor

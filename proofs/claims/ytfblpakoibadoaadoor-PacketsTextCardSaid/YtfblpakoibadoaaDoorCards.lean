/-
  DERIVED. GIVEN WITH THE SEED: THE CARDS: each row of YtfblpakoibadoaaDoorRows.lean that lists a variable, with what it lists TIED to the program's text (the seventh form; the later family's looks); each row that meets fmt, with fmt's text TOLD by the authors' own Lean function (tested against real Go, not proved from fmt's source: count such statements apart). THE CARD IS WHAT COUNTS. Prove the row's statement (the work); the ties are given (YtfblpakoibadoaaDoorTie.lean); close each card by the builder's one call (the guide's Derived/Test/ToyasCard.lean, 'card_holds'). Laid BY PROGRAM, IN A SANDBOX (cutbox-door.mjs). By AI agents, Wed Nov 11 2026. No macro, syntax, notation, axiom, sorry.
-/
import Derived.Test.YtfblpakoibadoaaDoorRows
import GoSem.ClaimSeven
namespace Go.Proofs.YtfblpakoibadoaaDoor
namespace Rows

/-- THE TIED CARD OF 'plugboardlaw03.PacketsSame'. -/
def packetsSameCard : Claim7 := { stood := { row := packetsSameRow, standIns := [], harness := (true, "425212c485803eb01645d89170d7ebf70e54bcb84b90316d3afd020a4306f34f"), looks := false }, kinds := [], alts := [], laidByText := true, laidKinds := [.data, .data, .data, .data, .data, .data, .data, .data], laidTests := true, laidLooks := .later }
def PacketsSameCardSaid : Prop := Claim7.holds Tryd.pinned (.plain (OpenSpec.ofChange packetsSameSpec)) packetsSameCard

/-- THE TIED CARD OF 'plugboardlaw03.PacketsText'. -/
def packetsTextCard : Claim7 := { stood := { row := packetsTextRow, standIns := [], harness := (true, "425212c485803eb01645d89170d7ebf70e54bcb84b90316d3afd020a4306f34f"), looks := false }, kinds := [], alts := [], laidByText := true, laidKinds := [.data, .data, .data, .data, .data, .data, .data, .data], laidTests := true, laidLooks := .later }
def PacketsTextCardSaid : Prop := Claim7.holds Tryd.pinned (.plain (OpenSpec.ofChange packetsTextSpec)) packetsTextCard

/-- THE SECOND FORM's CARD OF 'plugboardlaw03.PacketsSame'. -/
def packetsSameUptoCard : Claim7 := { stood := { row := packetsSameUptoRow, standIns := [], harness := (true, "425212c485803eb01645d89170d7ebf70e54bcb84b90316d3afd020a4306f34f"), looks := false }, kinds := [], alts := [], laidByText := true, laidKinds := [.data, .data, .data, .data, .data, .data, .data, .data], laidTests := true, laidLooks := .later }
def PacketsSameUptoCardSaid : Prop := Claim7.holds Tryd.pinned (.plain (OpenSpec.upto packetsSameSpec)) packetsSameUptoCard

/-- THE SECOND FORM's CARD OF 'plugboardlaw03.PacketsText'. -/
def packetsTextUptoCard : Claim7 := { stood := { row := packetsTextUptoRow, standIns := [], harness := (true, "425212c485803eb01645d89170d7ebf70e54bcb84b90316d3afd020a4306f34f"), looks := false }, kinds := [], alts := [], laidByText := true, laidKinds := [.data, .data, .data, .data, .data, .data, .data, .data], laidTests := true, laidLooks := .later }
def PacketsTextUptoCardSaid : Prop := Claim7.holds Tryd.pinned (.plain (OpenSpec.upto packetsTextSpec)) packetsTextUptoCard
end Rows
end Go.Proofs.YtfblpakoibadoaaDoor

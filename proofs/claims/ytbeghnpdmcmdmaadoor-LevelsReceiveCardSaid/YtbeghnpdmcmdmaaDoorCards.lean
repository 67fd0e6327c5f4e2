/-
  DERIVED. GIVEN WITH THE SEED: THE CARDS: each row of YtbeghnpdmcmdmaaDoorRows.lean that lists a variable, with what it lists TIED to the program's text (the seventh form; the later family's looks); each row that meets fmt, with fmt's text TOLD by the authors' own Lean function (tested against real Go, not proved from fmt's source: count such statements apart). THE CARD IS WHAT COUNTS. Prove the row's statement (the work); the ties are given (YtbeghnpdmcmdmaaDoorTie.lean); close each card by the builder's one call (the guide's Derived/Test/ToyasCard.lean, 'card_holds'). Laid BY PROGRAM, IN A SANDBOX (cutbox-door.mjs). By AI agents, Wed Nov 11 2026. No macro, syntax, notation, axiom, sorry.
-/
import Derived.Test.YtbeghnpdmcmdmaaDoorRows
import GoSem.ClaimSeven
namespace Go.Proofs.YtbeghnpdmcmdmaaDoor
namespace Rows

/-- THE TIED CARD OF 'plugboardlaw01.LevelsBits'. -/
def levelsBitsCard : Claim7 := { stood := { row := levelsBitsRow, standIns := [], harness := (true, "8b09cf5349dd271bab57137235d173a11ef13834ef052ccf48e5a1cafadef79d"), looks := false }, kinds := [], alts := [], laidByText := true, laidKinds := [.data, .data], laidTests := true, laidLooks := .later }
def LevelsBitsCardSaid : Prop := Claim7.holds Tryd.pinned (.plain (OpenSpec.ofChange levelsBitsSpec)) levelsBitsCard

/-- THE TIED CARD OF 'plugboardlaw01.LevelsStuff'. -/
def levelsStuffCard : Claim7 := { stood := { row := levelsStuffRow, standIns := [], harness := (true, "8b09cf5349dd271bab57137235d173a11ef13834ef052ccf48e5a1cafadef79d"), looks := false }, kinds := [], alts := [], laidByText := true, laidKinds := [.data, .data], laidTests := true, laidLooks := .later }
def LevelsStuffCardSaid : Prop := Claim7.holds Tryd.pinned (.plain (OpenSpec.ofChange levelsStuffSpec)) levelsStuffCard

/-- THE TIED CARD OF 'plugboardlaw01.LevelsStates'. -/
def levelsStatesCard : Claim7 := { stood := { row := levelsStatesRow, standIns := [], harness := (true, "8b09cf5349dd271bab57137235d173a11ef13834ef052ccf48e5a1cafadef79d"), looks := false }, kinds := [], alts := [], laidByText := true, laidKinds := [.data, .data], laidTests := true, laidLooks := .later }
def LevelsStatesCardSaid : Prop := Claim7.holds Tryd.pinned (.plain (OpenSpec.ofChange levelsStatesSpec)) levelsStatesCard

/-- THE TIED CARD OF 'plugboardlaw01.LevelsSend'. -/
def levelsSendCard : Claim7 := { stood := { row := levelsSendRow, standIns := [], harness := (true, "8b09cf5349dd271bab57137235d173a11ef13834ef052ccf48e5a1cafadef79d"), looks := false }, kinds := [], alts := [], laidByText := true, laidKinds := [.data, .data], laidTests := true, laidLooks := .later }
def LevelsSendCardSaid : Prop := Claim7.holds Tryd.pinned (.plain (OpenSpec.ofChange levelsSendSpec)) levelsSendCard

/-- THE TIED CARD OF 'plugboardlaw01.LevelsReceive'. -/
def levelsReceiveCard : Claim7 := { stood := { row := levelsReceiveRow, standIns := [], harness := (true, "8b09cf5349dd271bab57137235d173a11ef13834ef052ccf48e5a1cafadef79d"), looks := false }, kinds := [], alts := [], laidByText := true, laidKinds := [.data, .data], laidTests := true, laidLooks := .later }
def LevelsReceiveCardSaid : Prop := Claim7.holds Tryd.pinned (.plain (OpenSpec.ofChange levelsReceiveSpec)) levelsReceiveCard

/-- THE TIED CARD OF 'plugboardlaw01.LevelsChange'. -/
def levelsChangeCard : Claim7 := { stood := { row := levelsChangeRow, standIns := [], harness := (true, "8b09cf5349dd271bab57137235d173a11ef13834ef052ccf48e5a1cafadef79d"), looks := false }, kinds := [], alts := [], laidByText := true, laidKinds := [.data, .data], laidTests := true, laidLooks := .later }
def LevelsChangeCardSaid : Prop := Claim7.holds Tryd.pinned (.plain (OpenSpec.ofChange levelsChangeSpec)) levelsChangeCard

/-- THE TIED CARD OF 'plugboardlaw01.LevelsLine'. -/
def levelsLineCard : Claim7 := { stood := { row := levelsLineRow, standIns := [], harness := (true, "8b09cf5349dd271bab57137235d173a11ef13834ef052ccf48e5a1cafadef79d"), looks := false }, kinds := [], alts := [], laidByText := true, laidKinds := [.data, .data], laidTests := true, laidLooks := .later }
def LevelsLineCardSaid : Prop := Claim7.holds Tryd.pinned (.plain (OpenSpec.ofChange levelsLineSpec)) levelsLineCard

/-- THE SECOND FORM's CARD OF 'plugboardlaw01.LevelsBits'. -/
def levelsBitsUptoCard : Claim7 := { stood := { row := levelsBitsUptoRow, standIns := [], harness := (true, "8b09cf5349dd271bab57137235d173a11ef13834ef052ccf48e5a1cafadef79d"), looks := false }, kinds := [], alts := [], laidByText := true, laidKinds := [.data, .data], laidTests := true, laidLooks := .later }
def LevelsBitsUptoCardSaid : Prop := Claim7.holds Tryd.pinned (.plain (OpenSpec.upto levelsBitsSpec)) levelsBitsUptoCard

/-- THE SECOND FORM's CARD OF 'plugboardlaw01.LevelsStuff'. -/
def levelsStuffUptoCard : Claim7 := { stood := { row := levelsStuffUptoRow, standIns := [], harness := (true, "8b09cf5349dd271bab57137235d173a11ef13834ef052ccf48e5a1cafadef79d"), looks := false }, kinds := [], alts := [], laidByText := true, laidKinds := [.data, .data], laidTests := true, laidLooks := .later }
def LevelsStuffUptoCardSaid : Prop := Claim7.holds Tryd.pinned (.plain (OpenSpec.upto levelsStuffSpec)) levelsStuffUptoCard

/-- THE SECOND FORM's CARD OF 'plugboardlaw01.LevelsStates'. -/
def levelsStatesUptoCard : Claim7 := { stood := { row := levelsStatesUptoRow, standIns := [], harness := (true, "8b09cf5349dd271bab57137235d173a11ef13834ef052ccf48e5a1cafadef79d"), looks := false }, kinds := [], alts := [], laidByText := true, laidKinds := [.data, .data], laidTests := true, laidLooks := .later }
def LevelsStatesUptoCardSaid : Prop := Claim7.holds Tryd.pinned (.plain (OpenSpec.upto levelsStatesSpec)) levelsStatesUptoCard

/-- THE SECOND FORM's CARD OF 'plugboardlaw01.LevelsSend'. -/
def levelsSendUptoCard : Claim7 := { stood := { row := levelsSendUptoRow, standIns := [], harness := (true, "8b09cf5349dd271bab57137235d173a11ef13834ef052ccf48e5a1cafadef79d"), looks := false }, kinds := [], alts := [], laidByText := true, laidKinds := [.data, .data], laidTests := true, laidLooks := .later }
def LevelsSendUptoCardSaid : Prop := Claim7.holds Tryd.pinned (.plain (OpenSpec.upto levelsSendSpec)) levelsSendUptoCard

/-- THE SECOND FORM's CARD OF 'plugboardlaw01.LevelsReceive'. -/
def levelsReceiveUptoCard : Claim7 := { stood := { row := levelsReceiveUptoRow, standIns := [], harness := (true, "8b09cf5349dd271bab57137235d173a11ef13834ef052ccf48e5a1cafadef79d"), looks := false }, kinds := [], alts := [], laidByText := true, laidKinds := [.data, .data], laidTests := true, laidLooks := .later }
def LevelsReceiveUptoCardSaid : Prop := Claim7.holds Tryd.pinned (.plain (OpenSpec.upto levelsReceiveSpec)) levelsReceiveUptoCard

/-- THE SECOND FORM's CARD OF 'plugboardlaw01.LevelsChange'. -/
def levelsChangeUptoCard : Claim7 := { stood := { row := levelsChangeUptoRow, standIns := [], harness := (true, "8b09cf5349dd271bab57137235d173a11ef13834ef052ccf48e5a1cafadef79d"), looks := false }, kinds := [], alts := [], laidByText := true, laidKinds := [.data, .data], laidTests := true, laidLooks := .later }
def LevelsChangeUptoCardSaid : Prop := Claim7.holds Tryd.pinned (.plain (OpenSpec.upto levelsChangeSpec)) levelsChangeUptoCard

/-- THE SECOND FORM's CARD OF 'plugboardlaw01.LevelsLine'. -/
def levelsLineUptoCard : Claim7 := { stood := { row := levelsLineUptoRow, standIns := [], harness := (true, "8b09cf5349dd271bab57137235d173a11ef13834ef052ccf48e5a1cafadef79d"), looks := false }, kinds := [], alts := [], laidByText := true, laidKinds := [.data, .data], laidTests := true, laidLooks := .later }
def LevelsLineUptoCardSaid : Prop := Claim7.holds Tryd.pinned (.plain (OpenSpec.upto levelsLineSpec)) levelsLineUptoCard
end Rows
end Go.Proofs.YtbeghnpdmcmdmaaDoor

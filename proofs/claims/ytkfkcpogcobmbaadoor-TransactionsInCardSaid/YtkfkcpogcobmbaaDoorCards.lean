/-
  DERIVED. GIVEN WITH THE SEED: THE CARDS: each row of YtkfkcpogcobmbaaDoorRows.lean that lists a variable, with what it lists TIED to the program's text (the seventh form; the later family's looks); each row that meets fmt, with fmt's text TOLD by the authors' own Lean function (tested against real Go, not proved from fmt's source: count such statements apart). THE CARD IS WHAT COUNTS. Prove the row's statement (the work); the ties are given (YtkfkcpogcobmbaaDoorTie.lean); close each card by the builder's one call (the guide's Derived/Test/ToyasCard.lean, 'card_holds'). Laid BY PROGRAM, IN A SANDBOX (cutbox-door.mjs). By AI agents, Wed Nov 11 2026. No macro, syntax, notation, axiom, sorry.
-/
import Derived.Test.YtkfkcpogcobmbaaDoorRows
import GoSem.ClaimSeven
namespace Go.Proofs.YtkfkcpogcobmbaaDoor
namespace Rows

/-- THE TIED CARD OF 'plugboardlaw06.TransactionsLine'. -/
def transactionsLineCard : Claim7 := { stood := { row := transactionsLineRow, standIns := [], harness := (true, "932460405175f87677176f44198ef3323e9f311fb95b3a0912cf07518d967496"), looks := false }, kinds := [], alts := [], laidByText := true, laidKinds := [.data], laidTests := true, laidLooks := .later }
def TransactionsLineCardSaid : Prop := Claim7.holds Tryd.pinned (.plain (OpenSpec.ofChange transactionsLineSpec)) transactionsLineCard

/-- THE TIED CARD OF 'plugboardlaw06.TransactionsCheck'. -/
def transactionsCheckCard : Claim7 := { stood := { row := transactionsCheckRow, standIns := [], harness := (true, "932460405175f87677176f44198ef3323e9f311fb95b3a0912cf07518d967496"), looks := false }, kinds := [], alts := [], laidByText := true, laidKinds := [.data], laidTests := true, laidLooks := .later }
def TransactionsCheckCardSaid : Prop := Claim7.holds Tryd.pinned (.plain (OpenSpec.ofChange transactionsCheckSpec)) transactionsCheckCard

/-- THE TIED CARD OF 'plugboardlaw06.TransactionsSpeak'. -/
def transactionsSpeakCard : Claim7 := { stood := { row := transactionsSpeakRow, standIns := [], harness := (true, "932460405175f87677176f44198ef3323e9f311fb95b3a0912cf07518d967496"), looks := false }, kinds := [], alts := [], laidByText := true, laidKinds := [.data], laidTests := true, laidLooks := .later }
def TransactionsSpeakCardSaid : Prop := Claim7.holds Tryd.pinned (.plain (OpenSpec.ofChange transactionsSpeakSpec)) transactionsSpeakCard

/-- THE TIED CARD OF 'plugboardlaw06.TransactionsDo'. -/
def transactionsDoCard : Claim7 := { stood := { row := transactionsDoRow, standIns := [], harness := (true, "932460405175f87677176f44198ef3323e9f311fb95b3a0912cf07518d967496"), looks := false }, kinds := [], alts := [], laidByText := true, laidKinds := [.data], laidTests := true, laidLooks := .later }
def TransactionsDoCardSaid : Prop := Claim7.holds Tryd.pinned (.plain (OpenSpec.ofChange transactionsDoSpec)) transactionsDoCard

/-- THE TIED CARD OF 'plugboardlaw06.TransactionsOut'. -/
def transactionsOutCard : Claim7 := { stood := { row := transactionsOutRow, standIns := [], harness := (true, "932460405175f87677176f44198ef3323e9f311fb95b3a0912cf07518d967496"), looks := false }, kinds := [], alts := [], laidByText := true, laidKinds := [.data], laidTests := true, laidLooks := .later }
def TransactionsOutCardSaid : Prop := Claim7.holds Tryd.pinned (.plain (OpenSpec.ofChange transactionsOutSpec)) transactionsOutCard

/-- THE TIED CARD OF 'plugboardlaw06.TransactionsIn'. -/
def transactionsInCard : Claim7 := { stood := { row := transactionsInRow, standIns := [], harness := (true, "932460405175f87677176f44198ef3323e9f311fb95b3a0912cf07518d967496"), looks := false }, kinds := [], alts := [], laidByText := true, laidKinds := [.data], laidTests := true, laidLooks := .later }
def TransactionsInCardSaid : Prop := Claim7.holds Tryd.pinned (.plain (OpenSpec.ofChange transactionsInSpec)) transactionsInCard

/-- THE SECOND FORM's CARD OF 'plugboardlaw06.TransactionsLine'. -/
def transactionsLineUptoCard : Claim7 := { stood := { row := transactionsLineUptoRow, standIns := [], harness := (true, "932460405175f87677176f44198ef3323e9f311fb95b3a0912cf07518d967496"), looks := false }, kinds := [], alts := [], laidByText := true, laidKinds := [.data], laidTests := true, laidLooks := .later }
def TransactionsLineUptoCardSaid : Prop := Claim7.holds Tryd.pinned (.plain (OpenSpec.upto transactionsLineSpec)) transactionsLineUptoCard

/-- THE SECOND FORM's CARD OF 'plugboardlaw06.TransactionsCheck'. -/
def transactionsCheckUptoCard : Claim7 := { stood := { row := transactionsCheckUptoRow, standIns := [], harness := (true, "932460405175f87677176f44198ef3323e9f311fb95b3a0912cf07518d967496"), looks := false }, kinds := [], alts := [], laidByText := true, laidKinds := [.data], laidTests := true, laidLooks := .later }
def TransactionsCheckUptoCardSaid : Prop := Claim7.holds Tryd.pinned (.plain (OpenSpec.upto transactionsCheckSpec)) transactionsCheckUptoCard

/-- THE SECOND FORM's CARD OF 'plugboardlaw06.TransactionsSpeak'. -/
def transactionsSpeakUptoCard : Claim7 := { stood := { row := transactionsSpeakUptoRow, standIns := [], harness := (true, "932460405175f87677176f44198ef3323e9f311fb95b3a0912cf07518d967496"), looks := false }, kinds := [], alts := [], laidByText := true, laidKinds := [.data], laidTests := true, laidLooks := .later }
def TransactionsSpeakUptoCardSaid : Prop := Claim7.holds Tryd.pinned (.plain (OpenSpec.upto transactionsSpeakSpec)) transactionsSpeakUptoCard

/-- THE SECOND FORM's CARD OF 'plugboardlaw06.TransactionsDo'. -/
def transactionsDoUptoCard : Claim7 := { stood := { row := transactionsDoUptoRow, standIns := [], harness := (true, "932460405175f87677176f44198ef3323e9f311fb95b3a0912cf07518d967496"), looks := false }, kinds := [], alts := [], laidByText := true, laidKinds := [.data], laidTests := true, laidLooks := .later }
def TransactionsDoUptoCardSaid : Prop := Claim7.holds Tryd.pinned (.plain (OpenSpec.upto transactionsDoSpec)) transactionsDoUptoCard

/-- THE SECOND FORM's CARD OF 'plugboardlaw06.TransactionsOut'. -/
def transactionsOutUptoCard : Claim7 := { stood := { row := transactionsOutUptoRow, standIns := [], harness := (true, "932460405175f87677176f44198ef3323e9f311fb95b3a0912cf07518d967496"), looks := false }, kinds := [], alts := [], laidByText := true, laidKinds := [.data], laidTests := true, laidLooks := .later }
def TransactionsOutUptoCardSaid : Prop := Claim7.holds Tryd.pinned (.plain (OpenSpec.upto transactionsOutSpec)) transactionsOutUptoCard

/-- THE SECOND FORM's CARD OF 'plugboardlaw06.TransactionsIn'. -/
def transactionsInUptoCard : Claim7 := { stood := { row := transactionsInUptoRow, standIns := [], harness := (true, "932460405175f87677176f44198ef3323e9f311fb95b3a0912cf07518d967496"), looks := false }, kinds := [], alts := [], laidByText := true, laidKinds := [.data], laidTests := true, laidLooks := .later }
def TransactionsInUptoCardSaid : Prop := Claim7.holds Tryd.pinned (.plain (OpenSpec.upto transactionsInSpec)) transactionsInUptoCard
end Rows
end Go.Proofs.YtkfkcpogcobmbaaDoor

/-
  DERIVED. GIVEN WITH THE SEED: THE CARDS: each row of YtdmnjjknkcnkgaaGreatDoorRows.lean that lists a variable, with what it lists TIED to the program's text (the seventh form; the later family's looks); each row that meets fmt, with fmt's text TOLD by the authors' own Lean function (tested against real Go, not proved from fmt's source: count such statements apart). THE CARD IS WHAT COUNTS. Prove the row's statement (the work); the ties are given (YtdmnjjknkcnkgaaGreatDoorTie.lean); close each card by the builder's one call (the guide's Derived/Test/ToyasCard.lean, 'card_holds'). Laid BY PROGRAM, IN A SANDBOX (cutbox-door.mjs). By AI agents, Wed Nov 11 2026. No macro, syntax, notation, axiom, sorry.
-/
import Derived.Test.YtdmnjjknkcnkgaaGreatDoorRows
import GoSem.ClaimSeven
namespace Go.Proofs.YtdmnjjknkcnkgaaGreatDoor
namespace Rows

/-- THE TIED CARD OF 'ledgerlinelaw14.LedgerPlays'. -/
def ledgerPlaysCard : Claim7 := { stood := { row := ledgerPlaysRow, standIns := [], harness := (true, "e5341ef10e05f474dbefe8e16f432538387468cfbd96a26232bb2d51cbe6065d"), looks := false }, kinds := [], alts := [], laidByText := true, laidKinds := [.data], laidTests := true, laidLooks := .later }
def LedgerPlaysCardSaid : Prop := Claim7.holds Tryz.pinned (.plain (OpenSpec.ofChange ledgerPlaysSpec)) ledgerPlaysCard

/-- THE TIED CARD OF 'ledgerlinelaw14.LedgerSums'. -/
def ledgerSumsCard : Claim7 := { stood := { row := ledgerSumsRow, standIns := [], harness := (true, "e5341ef10e05f474dbefe8e16f432538387468cfbd96a26232bb2d51cbe6065d"), looks := false }, kinds := [], alts := [], laidByText := true, laidKinds := [.data], laidTests := true, laidLooks := .later }
def LedgerSumsCardSaid : Prop := Claim7.holds Tryz.pinned (.plain (OpenSpec.ofChange ledgerSumsSpec)) ledgerSumsCard

/-- THE TIED CARD OF 'ledgerlinelaw14.LedgerStays'. -/
def ledgerStaysCard : Claim7 := { stood := { row := ledgerStaysRow, standIns := [], harness := (true, "e5341ef10e05f474dbefe8e16f432538387468cfbd96a26232bb2d51cbe6065d"), looks := false }, kinds := [], alts := [], laidByText := true, laidKinds := [.data], laidTests := true, laidLooks := .later }
def LedgerStaysCardSaid : Prop := Claim7.holds Tryz.pinned (.plain (OpenSpec.ofChange ledgerStaysSpec)) ledgerStaysCard

/-- THE TIED CARD OF 'ledgerlinelaw14.LedgerBlocks'. -/
def ledgerBlocksCard : Claim7 := { stood := { row := ledgerBlocksRow, standIns := [], harness := (true, "e5341ef10e05f474dbefe8e16f432538387468cfbd96a26232bb2d51cbe6065d"), looks := false }, kinds := [], alts := [], laidByText := true, laidKinds := [.data], laidTests := true, laidLooks := .later }
def LedgerBlocksCardSaid : Prop := Claim7.holds Tryz.pinned (.plain (OpenSpec.ofChange ledgerBlocksSpec)) ledgerBlocksCard

/-- THE TIED CARD OF 'ledgerlinelaw14.LedgerCloses'. -/
def ledgerClosesCard : Claim7 := { stood := { row := ledgerClosesRow, standIns := [], harness := (true, "e5341ef10e05f474dbefe8e16f432538387468cfbd96a26232bb2d51cbe6065d"), looks := false }, kinds := [], alts := [], laidByText := true, laidKinds := [.data], laidTests := true, laidLooks := .later }
def LedgerClosesCardSaid : Prop := Claim7.holds Tryz.pinned (.plain (OpenSpec.ofChange ledgerClosesSpec)) ledgerClosesCard

/-- THE TIED CARD OF 'ledgerlinelaw15.ReceiptMakes'. -/
def receiptMakesCard : Claim7 := { stood := { row := receiptMakesRow, standIns := [], harness := (true, "e5341ef10e05f474dbefe8e16f432538387468cfbd96a26232bb2d51cbe6065d"), looks := false }, kinds := [], alts := [], laidByText := true, laidKinds := [.data], laidTests := true, laidLooks := .later }
def ReceiptMakesCardSaid : Prop := Claim7.holds Tryz.pinned (.plain (OpenSpec.ofChange receiptMakesSpec)) receiptMakesCard

/-- THE TIED CARD OF 'ledgerlinelaw15.ReceiptAll'. -/
def receiptAllCard : Claim7 := { stood := { row := receiptAllRow, standIns := [], harness := (true, "e5341ef10e05f474dbefe8e16f432538387468cfbd96a26232bb2d51cbe6065d"), looks := false }, kinds := [], alts := [], laidByText := true, laidKinds := [.data], laidTests := true, laidLooks := .later }
def ReceiptAllCardSaid : Prop := Claim7.holds Tryz.pinned (.plain (OpenSpec.ofChange receiptAllSpec)) receiptAllCard

/-- THE TIED CARD OF 'ledgerlinelaw15.ReceiptOther'. -/
def receiptOtherCard : Claim7 := { stood := { row := receiptOtherRow, standIns := [], harness := (true, "e5341ef10e05f474dbefe8e16f432538387468cfbd96a26232bb2d51cbe6065d"), looks := false }, kinds := [], alts := [], laidByText := true, laidKinds := [.data], laidTests := true, laidLooks := .later }
def ReceiptOtherCardSaid : Prop := Claim7.holds Tryz.pinned (.plain (OpenSpec.ofChange receiptOtherSpec)) receiptOtherCard

/-- THE TIED CARD OF 'ledgerlinelaw15.ReceiptLong'. -/
def receiptLongCard : Claim7 := { stood := { row := receiptLongRow, standIns := [], harness := (true, "e5341ef10e05f474dbefe8e16f432538387468cfbd96a26232bb2d51cbe6065d"), looks := false }, kinds := [], alts := [], laidByText := true, laidKinds := [.data], laidTests := true, laidLooks := .later }
def ReceiptLongCardSaid : Prop := Claim7.holds Tryz.pinned (.plain (OpenSpec.ofChange receiptLongSpec)) receiptLongCard

/-- THE TIED CARD OF 'ledgerlinelaw15.ReceiptStays'. -/
def receiptStaysCard : Claim7 := { stood := { row := receiptStaysRow, standIns := [], harness := (true, "e5341ef10e05f474dbefe8e16f432538387468cfbd96a26232bb2d51cbe6065d"), looks := false }, kinds := [], alts := [], laidByText := true, laidKinds := [.data], laidTests := true, laidLooks := .later }
def ReceiptStaysCardSaid : Prop := Claim7.holds Tryz.pinned (.plain (OpenSpec.ofChange receiptStaysSpec)) receiptStaysCard

/-- THE SECOND FORM's CARD OF 'ledgerlinelaw14.LedgerPlays'. -/
def ledgerPlaysUptoCard : Claim7 := { stood := { row := ledgerPlaysUptoRow, standIns := [], harness := (true, "e5341ef10e05f474dbefe8e16f432538387468cfbd96a26232bb2d51cbe6065d"), looks := false }, kinds := [], alts := [], laidByText := true, laidKinds := [.data], laidTests := true, laidLooks := .later }
def LedgerPlaysUptoCardSaid : Prop := Claim7.holds Tryz.pinned (.plain (OpenSpec.upto ledgerPlaysSpec)) ledgerPlaysUptoCard

/-- THE SECOND FORM's CARD OF 'ledgerlinelaw14.LedgerSums'. -/
def ledgerSumsUptoCard : Claim7 := { stood := { row := ledgerSumsUptoRow, standIns := [], harness := (true, "e5341ef10e05f474dbefe8e16f432538387468cfbd96a26232bb2d51cbe6065d"), looks := false }, kinds := [], alts := [], laidByText := true, laidKinds := [.data], laidTests := true, laidLooks := .later }
def LedgerSumsUptoCardSaid : Prop := Claim7.holds Tryz.pinned (.plain (OpenSpec.upto ledgerSumsSpec)) ledgerSumsUptoCard

/-- THE SECOND FORM's CARD OF 'ledgerlinelaw14.LedgerStays'. -/
def ledgerStaysUptoCard : Claim7 := { stood := { row := ledgerStaysUptoRow, standIns := [], harness := (true, "e5341ef10e05f474dbefe8e16f432538387468cfbd96a26232bb2d51cbe6065d"), looks := false }, kinds := [], alts := [], laidByText := true, laidKinds := [.data], laidTests := true, laidLooks := .later }
def LedgerStaysUptoCardSaid : Prop := Claim7.holds Tryz.pinned (.plain (OpenSpec.upto ledgerStaysSpec)) ledgerStaysUptoCard

/-- THE SECOND FORM's CARD OF 'ledgerlinelaw14.LedgerBlocks'. -/
def ledgerBlocksUptoCard : Claim7 := { stood := { row := ledgerBlocksUptoRow, standIns := [], harness := (true, "e5341ef10e05f474dbefe8e16f432538387468cfbd96a26232bb2d51cbe6065d"), looks := false }, kinds := [], alts := [], laidByText := true, laidKinds := [.data], laidTests := true, laidLooks := .later }
def LedgerBlocksUptoCardSaid : Prop := Claim7.holds Tryz.pinned (.plain (OpenSpec.upto ledgerBlocksSpec)) ledgerBlocksUptoCard

/-- THE SECOND FORM's CARD OF 'ledgerlinelaw14.LedgerCloses'. -/
def ledgerClosesUptoCard : Claim7 := { stood := { row := ledgerClosesUptoRow, standIns := [], harness := (true, "e5341ef10e05f474dbefe8e16f432538387468cfbd96a26232bb2d51cbe6065d"), looks := false }, kinds := [], alts := [], laidByText := true, laidKinds := [.data], laidTests := true, laidLooks := .later }
def LedgerClosesUptoCardSaid : Prop := Claim7.holds Tryz.pinned (.plain (OpenSpec.upto ledgerClosesSpec)) ledgerClosesUptoCard

/-- THE SECOND FORM's CARD OF 'ledgerlinelaw15.ReceiptMakes'. -/
def receiptMakesUptoCard : Claim7 := { stood := { row := receiptMakesUptoRow, standIns := [], harness := (true, "e5341ef10e05f474dbefe8e16f432538387468cfbd96a26232bb2d51cbe6065d"), looks := false }, kinds := [], alts := [], laidByText := true, laidKinds := [.data], laidTests := true, laidLooks := .later }
def ReceiptMakesUptoCardSaid : Prop := Claim7.holds Tryz.pinned (.plain (OpenSpec.upto receiptMakesSpec)) receiptMakesUptoCard

/-- THE SECOND FORM's CARD OF 'ledgerlinelaw15.ReceiptAll'. -/
def receiptAllUptoCard : Claim7 := { stood := { row := receiptAllUptoRow, standIns := [], harness := (true, "e5341ef10e05f474dbefe8e16f432538387468cfbd96a26232bb2d51cbe6065d"), looks := false }, kinds := [], alts := [], laidByText := true, laidKinds := [.data], laidTests := true, laidLooks := .later }
def ReceiptAllUptoCardSaid : Prop := Claim7.holds Tryz.pinned (.plain (OpenSpec.upto receiptAllSpec)) receiptAllUptoCard

/-- THE SECOND FORM's CARD OF 'ledgerlinelaw15.ReceiptOther'. -/
def receiptOtherUptoCard : Claim7 := { stood := { row := receiptOtherUptoRow, standIns := [], harness := (true, "e5341ef10e05f474dbefe8e16f432538387468cfbd96a26232bb2d51cbe6065d"), looks := false }, kinds := [], alts := [], laidByText := true, laidKinds := [.data], laidTests := true, laidLooks := .later }
def ReceiptOtherUptoCardSaid : Prop := Claim7.holds Tryz.pinned (.plain (OpenSpec.upto receiptOtherSpec)) receiptOtherUptoCard

/-- THE SECOND FORM's CARD OF 'ledgerlinelaw15.ReceiptLong'. -/
def receiptLongUptoCard : Claim7 := { stood := { row := receiptLongUptoRow, standIns := [], harness := (true, "e5341ef10e05f474dbefe8e16f432538387468cfbd96a26232bb2d51cbe6065d"), looks := false }, kinds := [], alts := [], laidByText := true, laidKinds := [.data], laidTests := true, laidLooks := .later }
def ReceiptLongUptoCardSaid : Prop := Claim7.holds Tryz.pinned (.plain (OpenSpec.upto receiptLongSpec)) receiptLongUptoCard

/-- THE SECOND FORM's CARD OF 'ledgerlinelaw15.ReceiptStays'. -/
def receiptStaysUptoCard : Claim7 := { stood := { row := receiptStaysUptoRow, standIns := [], harness := (true, "e5341ef10e05f474dbefe8e16f432538387468cfbd96a26232bb2d51cbe6065d"), looks := false }, kinds := [], alts := [], laidByText := true, laidKinds := [.data], laidTests := true, laidLooks := .later }
def ReceiptStaysUptoCardSaid : Prop := Claim7.holds Tryz.pinned (.plain (OpenSpec.upto receiptStaysSpec)) receiptStaysUptoCard
end Rows
end Go.Proofs.YtdmnjjknkcnkgaaGreatDoor

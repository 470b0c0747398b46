/-
  DERIVED. GIVEN WITH THE SEED: THE CARDS: each row of YtdmnjjknkcnkgaaDoorRows.lean that lists a variable, with what it lists TIED to the program's text (the seventh form; the later family's looks); each row that meets fmt, with fmt's text TOLD by the authors' own Lean function (tested against real Go, not proved from fmt's source: count such statements apart). THE CARD IS WHAT COUNTS. Prove the row's statement (the work); the ties are given (YtdmnjjknkcnkgaaDoorTie.lean); close each card by the builder's one call (the guide's Derived/Test/ToyasCard.lean, 'card_holds'). Laid BY PROGRAM, IN A SANDBOX (cutbox-door.mjs). By AI agents, Wed Nov 11 2026. No macro, syntax, notation, axiom, sorry.
-/
import Derived.Test.YtdmnjjknkcnkgaaDoorRows
import GoSem.ClaimSeven
namespace Go.Proofs.YtdmnjjknkcnkgaaDoor
namespace Rows

/-- THE TIED CARD OF 'ledgerlinelaw14.LedgerIds'. -/
def ledgerIdsCard : Claim7 := { stood := { row := ledgerIdsRow, standIns := [], harness := (true, "560cbceff6ac4b66456aaffb7d2c6d8c2f4e2217dca962a9976d3327c8efdf4e"), looks := false }, kinds := [], alts := [], laidByText := true, laidKinds := [.data], laidTests := true, laidLooks := .later }
def LedgerIdsCardSaid : Prop := Claim7.holds Tryd.pinned (.plain (OpenSpec.ofChange ledgerIdsSpec)) ledgerIdsCard

/-- THE TIED CARD OF 'ledgerlinelaw14.LedgerApart'. -/
def ledgerApartCard : Claim7 := { stood := { row := ledgerApartRow, standIns := [], harness := (true, "560cbceff6ac4b66456aaffb7d2c6d8c2f4e2217dca962a9976d3327c8efdf4e"), looks := false }, kinds := [], alts := [], laidByText := true, laidKinds := [.data], laidTests := true, laidLooks := .later }
def LedgerApartCardSaid : Prop := Claim7.holds Tryd.pinned (.plain (OpenSpec.ofChange ledgerApartSpec)) ledgerApartCard

/-- THE TIED CARD OF 'ledgerlinelaw14.LedgerKeeps'. -/
def ledgerKeepsCard : Claim7 := { stood := { row := ledgerKeepsRow, standIns := [], harness := (true, "560cbceff6ac4b66456aaffb7d2c6d8c2f4e2217dca962a9976d3327c8efdf4e"), looks := false }, kinds := [], alts := [], laidByText := true, laidKinds := [.data], laidTests := true, laidLooks := .later }
def LedgerKeepsCardSaid : Prop := Claim7.holds Tryd.pinned (.plain (OpenSpec.ofChange ledgerKeepsSpec)) ledgerKeepsCard

/-- THE SECOND FORM's CARD OF 'ledgerlinelaw14.LedgerIds'. -/
def ledgerIdsUptoCard : Claim7 := { stood := { row := ledgerIdsUptoRow, standIns := [], harness := (true, "560cbceff6ac4b66456aaffb7d2c6d8c2f4e2217dca962a9976d3327c8efdf4e"), looks := false }, kinds := [], alts := [], laidByText := true, laidKinds := [.data], laidTests := true, laidLooks := .later }
def LedgerIdsUptoCardSaid : Prop := Claim7.holds Tryd.pinned (.plain (OpenSpec.upto ledgerIdsSpec)) ledgerIdsUptoCard

/-- THE SECOND FORM's CARD OF 'ledgerlinelaw14.LedgerApart'. -/
def ledgerApartUptoCard : Claim7 := { stood := { row := ledgerApartUptoRow, standIns := [], harness := (true, "560cbceff6ac4b66456aaffb7d2c6d8c2f4e2217dca962a9976d3327c8efdf4e"), looks := false }, kinds := [], alts := [], laidByText := true, laidKinds := [.data], laidTests := true, laidLooks := .later }
def LedgerApartUptoCardSaid : Prop := Claim7.holds Tryd.pinned (.plain (OpenSpec.upto ledgerApartSpec)) ledgerApartUptoCard

/-- THE SECOND FORM's CARD OF 'ledgerlinelaw14.LedgerKeeps'. -/
def ledgerKeepsUptoCard : Claim7 := { stood := { row := ledgerKeepsUptoRow, standIns := [], harness := (true, "560cbceff6ac4b66456aaffb7d2c6d8c2f4e2217dca962a9976d3327c8efdf4e"), looks := false }, kinds := [], alts := [], laidByText := true, laidKinds := [.data], laidTests := true, laidLooks := .later }
def LedgerKeepsUptoCardSaid : Prop := Claim7.holds Tryd.pinned (.plain (OpenSpec.upto ledgerKeepsSpec)) ledgerKeepsUptoCard
end Rows
end Go.Proofs.YtdmnjjknkcnkgaaDoor

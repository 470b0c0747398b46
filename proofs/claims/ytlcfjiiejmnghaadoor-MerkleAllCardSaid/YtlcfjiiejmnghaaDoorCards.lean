/-
  DERIVED. GIVEN WITH THE SEED: THE CARDS: each row of YtlcfjiiejmnghaaDoorRows.lean that lists a variable, with what it lists TIED to the program's text (the seventh form; the later family's looks); each row that meets fmt, with fmt's text TOLD by the authors' own Lean function (tested against real Go, not proved from fmt's source: count such statements apart). THE CARD IS WHAT COUNTS. Prove the row's statement (the work); the ties are given (YtlcfjiiejmnghaaDoorTie.lean); close each card by the builder's one call (the guide's Derived/Test/ToyasCard.lean, 'card_holds'). Laid BY PROGRAM, IN A SANDBOX (cutbox-door.mjs). By AI agents, Wed Nov 11 2026. No macro, syntax, notation, axiom, sorry.
-/
import Derived.Test.YtlcfjiiejmnghaaDoorRows
import GoSem.ClaimSeven
namespace Go.Proofs.YtlcfjiiejmnghaaDoor
namespace Rows

/-- THE TIED CARD OF 'ledgerlinelaw2.ShaSums'. -/
def shaSumsCard : Claim7 := { stood := { row := shaSumsRow, standIns := [], harness := (true, "7f2f9d6365be293e5ffa729f3941e76bc994faf4219b7e232a2b81f44349d228"), looks := false }, kinds := [], alts := [], laidByText := true, laidKinds := [.data], laidTests := true, laidLooks := .later }
def ShaSumsCardSaid : Prop := Claim7.holds Tryd.pinned (.plain (OpenSpec.ofChange shaSumsSpec)) shaSumsCard

/-- THE TIED CARD OF 'ledgerlinelaw2.ShaLong'. -/
def shaLongCard : Claim7 := { stood := { row := shaLongRow, standIns := [], harness := (true, "7f2f9d6365be293e5ffa729f3941e76bc994faf4219b7e232a2b81f44349d228"), looks := false }, kinds := [], alts := [], laidByText := true, laidKinds := [.data], laidTests := true, laidLooks := .later }
def ShaLongCardSaid : Prop := Claim7.holds Tryd.pinned (.plain (OpenSpec.ofChange shaLongSpec)) shaLongCard

/-- THE TIED CARD OF 'ledgerlinelaw2.ShaTwice'. -/
def shaTwiceCard : Claim7 := { stood := { row := shaTwiceRow, standIns := [], harness := (true, "7f2f9d6365be293e5ffa729f3941e76bc994faf4219b7e232a2b81f44349d228"), looks := false }, kinds := [], alts := [], laidByText := true, laidKinds := [.data], laidTests := true, laidLooks := .later }
def ShaTwiceCardSaid : Prop := Claim7.holds Tryd.pinned (.plain (OpenSpec.ofChange shaTwiceSpec)) shaTwiceCard

/-- THE TIED CARD OF 'ledgerlinelaw2.ShaHex'. -/
def shaHexCard : Claim7 := { stood := { row := shaHexRow, standIns := [], harness := (true, "7f2f9d6365be293e5ffa729f3941e76bc994faf4219b7e232a2b81f44349d228"), looks := false }, kinds := [], alts := [], laidByText := true, laidKinds := [.data], laidTests := true, laidLooks := .later }
def ShaHexCardSaid : Prop := Claim7.holds Tryd.pinned (.plain (OpenSpec.ofChange shaHexSpec)) shaHexCard

/-- THE TIED CARD OF 'ledgerlinelaw2.ShaParts'. -/
def shaPartsCard : Claim7 := { stood := { row := shaPartsRow, standIns := [], harness := (true, "7f2f9d6365be293e5ffa729f3941e76bc994faf4219b7e232a2b81f44349d228"), looks := false }, kinds := [], alts := [], laidByText := true, laidKinds := [.data], laidTests := true, laidLooks := .later }
def ShaPartsCardSaid : Prop := Claim7.holds Tryd.pinned (.plain (OpenSpec.ofChange shaPartsSpec)) shaPartsCard

/-- THE TIED CARD OF 'ledgerlinelaw3.MerkleRoots'. -/
def merkleRootsCard : Claim7 := { stood := { row := merkleRootsRow, standIns := [], harness := (true, "7f2f9d6365be293e5ffa729f3941e76bc994faf4219b7e232a2b81f44349d228"), looks := false }, kinds := [], alts := [], laidByText := true, laidKinds := [.data], laidTests := true, laidLooks := .later }
def MerkleRootsCardSaid : Prop := Claim7.holds Tryd.pinned (.plain (OpenSpec.ofChange merkleRootsSpec)) merkleRootsCard

/-- THE TIED CARD OF 'ledgerlinelaw3.MerkleProofs'. -/
def merkleProofsCard : Claim7 := { stood := { row := merkleProofsRow, standIns := [], harness := (true, "7f2f9d6365be293e5ffa729f3941e76bc994faf4219b7e232a2b81f44349d228"), looks := false }, kinds := [], alts := [], laidByText := true, laidKinds := [.data], laidTests := true, laidLooks := .later }
def MerkleProofsCardSaid : Prop := Claim7.holds Tryd.pinned (.plain (OpenSpec.ofChange merkleProofsSpec)) merkleProofsCard

/-- THE TIED CARD OF 'ledgerlinelaw3.MerkleHolds'. -/
def merkleHoldsCard : Claim7 := { stood := { row := merkleHoldsRow, standIns := [], harness := (true, "7f2f9d6365be293e5ffa729f3941e76bc994faf4219b7e232a2b81f44349d228"), looks := false }, kinds := [], alts := [], laidByText := true, laidKinds := [.data], laidTests := true, laidLooks := .later }
def MerkleHoldsCardSaid : Prop := Claim7.holds Tryd.pinned (.plain (OpenSpec.ofChange merkleHoldsSpec)) merkleHoldsCard

/-- THE TIED CARD OF 'ledgerlinelaw3.MerkleHalves'. -/
def merkleHalvesCard : Claim7 := { stood := { row := merkleHalvesRow, standIns := [], harness := (true, "7f2f9d6365be293e5ffa729f3941e76bc994faf4219b7e232a2b81f44349d228"), looks := false }, kinds := [], alts := [], laidByText := true, laidKinds := [.data], laidTests := true, laidLooks := .later }
def MerkleHalvesCardSaid : Prop := Claim7.holds Tryd.pinned (.plain (OpenSpec.ofChange merkleHalvesSpec)) merkleHalvesCard

/-- THE TIED CARD OF 'ledgerlinelaw3.MerkleOrder'. -/
def merkleOrderCard : Claim7 := { stood := { row := merkleOrderRow, standIns := [], harness := (true, "7f2f9d6365be293e5ffa729f3941e76bc994faf4219b7e232a2b81f44349d228"), looks := false }, kinds := [], alts := [], laidByText := true, laidKinds := [.data], laidTests := true, laidLooks := .later }
def MerkleOrderCardSaid : Prop := Claim7.holds Tryd.pinned (.plain (OpenSpec.ofChange merkleOrderSpec)) merkleOrderCard

/-- THE TIED CARD OF 'ledgerlinelaw3.MerkleAll'. -/
def merkleAllCard : Claim7 := { stood := { row := merkleAllRow, standIns := [], harness := (true, "7f2f9d6365be293e5ffa729f3941e76bc994faf4219b7e232a2b81f44349d228"), looks := false }, kinds := [], alts := [], laidByText := true, laidKinds := [.data], laidTests := true, laidLooks := .later }
def MerkleAllCardSaid : Prop := Claim7.holds Tryd.pinned (.plain (OpenSpec.ofChange merkleAllSpec)) merkleAllCard

/-- THE TIED CARD OF 'ledgerlinelaw3.MerkleOne'. -/
def merkleOneCard : Claim7 := { stood := { row := merkleOneRow, standIns := [], harness := (true, "7f2f9d6365be293e5ffa729f3941e76bc994faf4219b7e232a2b81f44349d228"), looks := false }, kinds := [], alts := [], laidByText := true, laidKinds := [.data], laidTests := true, laidLooks := .later }
def MerkleOneCardSaid : Prop := Claim7.holds Tryd.pinned (.plain (OpenSpec.ofChange merkleOneSpec)) merkleOneCard

/-- THE TIED CARD OF 'ledgerlinelaw3.MerkleKeeps'. -/
def merkleKeepsCard : Claim7 := { stood := { row := merkleKeepsRow, standIns := [], harness := (true, "7f2f9d6365be293e5ffa729f3941e76bc994faf4219b7e232a2b81f44349d228"), looks := false }, kinds := [], alts := [], laidByText := true, laidKinds := [.data], laidTests := true, laidLooks := .later }
def MerkleKeepsCardSaid : Prop := Claim7.holds Tryd.pinned (.plain (OpenSpec.ofChange merkleKeepsSpec)) merkleKeepsCard

/-- THE SECOND FORM's CARD OF 'ledgerlinelaw2.ShaSums'. -/
def shaSumsUptoCard : Claim7 := { stood := { row := shaSumsUptoRow, standIns := [], harness := (true, "7f2f9d6365be293e5ffa729f3941e76bc994faf4219b7e232a2b81f44349d228"), looks := false }, kinds := [], alts := [], laidByText := true, laidKinds := [.data], laidTests := true, laidLooks := .later }
def ShaSumsUptoCardSaid : Prop := Claim7.holds Tryd.pinned (.plain (OpenSpec.upto shaSumsSpec)) shaSumsUptoCard

/-- THE SECOND FORM's CARD OF 'ledgerlinelaw2.ShaLong'. -/
def shaLongUptoCard : Claim7 := { stood := { row := shaLongUptoRow, standIns := [], harness := (true, "7f2f9d6365be293e5ffa729f3941e76bc994faf4219b7e232a2b81f44349d228"), looks := false }, kinds := [], alts := [], laidByText := true, laidKinds := [.data], laidTests := true, laidLooks := .later }
def ShaLongUptoCardSaid : Prop := Claim7.holds Tryd.pinned (.plain (OpenSpec.upto shaLongSpec)) shaLongUptoCard

/-- THE SECOND FORM's CARD OF 'ledgerlinelaw2.ShaTwice'. -/
def shaTwiceUptoCard : Claim7 := { stood := { row := shaTwiceUptoRow, standIns := [], harness := (true, "7f2f9d6365be293e5ffa729f3941e76bc994faf4219b7e232a2b81f44349d228"), looks := false }, kinds := [], alts := [], laidByText := true, laidKinds := [.data], laidTests := true, laidLooks := .later }
def ShaTwiceUptoCardSaid : Prop := Claim7.holds Tryd.pinned (.plain (OpenSpec.upto shaTwiceSpec)) shaTwiceUptoCard

/-- THE SECOND FORM's CARD OF 'ledgerlinelaw2.ShaHex'. -/
def shaHexUptoCard : Claim7 := { stood := { row := shaHexUptoRow, standIns := [], harness := (true, "7f2f9d6365be293e5ffa729f3941e76bc994faf4219b7e232a2b81f44349d228"), looks := false }, kinds := [], alts := [], laidByText := true, laidKinds := [.data], laidTests := true, laidLooks := .later }
def ShaHexUptoCardSaid : Prop := Claim7.holds Tryd.pinned (.plain (OpenSpec.upto shaHexSpec)) shaHexUptoCard

/-- THE SECOND FORM's CARD OF 'ledgerlinelaw2.ShaParts'. -/
def shaPartsUptoCard : Claim7 := { stood := { row := shaPartsUptoRow, standIns := [], harness := (true, "7f2f9d6365be293e5ffa729f3941e76bc994faf4219b7e232a2b81f44349d228"), looks := false }, kinds := [], alts := [], laidByText := true, laidKinds := [.data], laidTests := true, laidLooks := .later }
def ShaPartsUptoCardSaid : Prop := Claim7.holds Tryd.pinned (.plain (OpenSpec.upto shaPartsSpec)) shaPartsUptoCard

/-- THE SECOND FORM's CARD OF 'ledgerlinelaw3.MerkleRoots'. -/
def merkleRootsUptoCard : Claim7 := { stood := { row := merkleRootsUptoRow, standIns := [], harness := (true, "7f2f9d6365be293e5ffa729f3941e76bc994faf4219b7e232a2b81f44349d228"), looks := false }, kinds := [], alts := [], laidByText := true, laidKinds := [.data], laidTests := true, laidLooks := .later }
def MerkleRootsUptoCardSaid : Prop := Claim7.holds Tryd.pinned (.plain (OpenSpec.upto merkleRootsSpec)) merkleRootsUptoCard

/-- THE SECOND FORM's CARD OF 'ledgerlinelaw3.MerkleProofs'. -/
def merkleProofsUptoCard : Claim7 := { stood := { row := merkleProofsUptoRow, standIns := [], harness := (true, "7f2f9d6365be293e5ffa729f3941e76bc994faf4219b7e232a2b81f44349d228"), looks := false }, kinds := [], alts := [], laidByText := true, laidKinds := [.data], laidTests := true, laidLooks := .later }
def MerkleProofsUptoCardSaid : Prop := Claim7.holds Tryd.pinned (.plain (OpenSpec.upto merkleProofsSpec)) merkleProofsUptoCard

/-- THE SECOND FORM's CARD OF 'ledgerlinelaw3.MerkleHolds'. -/
def merkleHoldsUptoCard : Claim7 := { stood := { row := merkleHoldsUptoRow, standIns := [], harness := (true, "7f2f9d6365be293e5ffa729f3941e76bc994faf4219b7e232a2b81f44349d228"), looks := false }, kinds := [], alts := [], laidByText := true, laidKinds := [.data], laidTests := true, laidLooks := .later }
def MerkleHoldsUptoCardSaid : Prop := Claim7.holds Tryd.pinned (.plain (OpenSpec.upto merkleHoldsSpec)) merkleHoldsUptoCard

/-- THE SECOND FORM's CARD OF 'ledgerlinelaw3.MerkleHalves'. -/
def merkleHalvesUptoCard : Claim7 := { stood := { row := merkleHalvesUptoRow, standIns := [], harness := (true, "7f2f9d6365be293e5ffa729f3941e76bc994faf4219b7e232a2b81f44349d228"), looks := false }, kinds := [], alts := [], laidByText := true, laidKinds := [.data], laidTests := true, laidLooks := .later }
def MerkleHalvesUptoCardSaid : Prop := Claim7.holds Tryd.pinned (.plain (OpenSpec.upto merkleHalvesSpec)) merkleHalvesUptoCard

/-- THE SECOND FORM's CARD OF 'ledgerlinelaw3.MerkleOrder'. -/
def merkleOrderUptoCard : Claim7 := { stood := { row := merkleOrderUptoRow, standIns := [], harness := (true, "7f2f9d6365be293e5ffa729f3941e76bc994faf4219b7e232a2b81f44349d228"), looks := false }, kinds := [], alts := [], laidByText := true, laidKinds := [.data], laidTests := true, laidLooks := .later }
def MerkleOrderUptoCardSaid : Prop := Claim7.holds Tryd.pinned (.plain (OpenSpec.upto merkleOrderSpec)) merkleOrderUptoCard

/-- THE SECOND FORM's CARD OF 'ledgerlinelaw3.MerkleAll'. -/
def merkleAllUptoCard : Claim7 := { stood := { row := merkleAllUptoRow, standIns := [], harness := (true, "7f2f9d6365be293e5ffa729f3941e76bc994faf4219b7e232a2b81f44349d228"), looks := false }, kinds := [], alts := [], laidByText := true, laidKinds := [.data], laidTests := true, laidLooks := .later }
def MerkleAllUptoCardSaid : Prop := Claim7.holds Tryd.pinned (.plain (OpenSpec.upto merkleAllSpec)) merkleAllUptoCard

/-- THE SECOND FORM's CARD OF 'ledgerlinelaw3.MerkleOne'. -/
def merkleOneUptoCard : Claim7 := { stood := { row := merkleOneUptoRow, standIns := [], harness := (true, "7f2f9d6365be293e5ffa729f3941e76bc994faf4219b7e232a2b81f44349d228"), looks := false }, kinds := [], alts := [], laidByText := true, laidKinds := [.data], laidTests := true, laidLooks := .later }
def MerkleOneUptoCardSaid : Prop := Claim7.holds Tryd.pinned (.plain (OpenSpec.upto merkleOneSpec)) merkleOneUptoCard

/-- THE SECOND FORM's CARD OF 'ledgerlinelaw3.MerkleKeeps'. -/
def merkleKeepsUptoCard : Claim7 := { stood := { row := merkleKeepsUptoRow, standIns := [], harness := (true, "7f2f9d6365be293e5ffa729f3941e76bc994faf4219b7e232a2b81f44349d228"), looks := false }, kinds := [], alts := [], laidByText := true, laidKinds := [.data], laidTests := true, laidLooks := .later }
def MerkleKeepsUptoCardSaid : Prop := Claim7.holds Tryd.pinned (.plain (OpenSpec.upto merkleKeepsSpec)) merkleKeepsUptoCard
end Rows
end Go.Proofs.YtlcfjiiejmnghaaDoor

/-
  No cell of these rows narrows 'for every input' (looked for: loops, veiled, ifaces, maps, wideKeys, modest, calm, conditions, laid).
  DERIVED. THE GIVEN ROWS OF THIS SEAT. 6 by the template 'for every input the law returns true; each argument reads behind the call as it read before'; 0 by the template 'total and deterministic' (their statements: YtfajggiinoeaiaaTotals.lean).
  GIVEN WITH THE SEED: the statements are not yours to turn. If you find one false, say at which input.
  Laid BY PROGRAM, IN A SANDBOX (cutbox-rows.mjs): the forced cells as the released guide's own fill.sh prints them over the translation 14de223180dd61df… (all of the seat's roots in one cut). By AI agents, Wed Nov 11 2026. No macro, syntax, notation, axiom, sorry.
-/
import Derived.Test.YtfajggiinoeaiaaChecked
import GoSem.Claim
import GoSem.ClaimJoined
import GoSem.ClaimMapViews
import Derived.JoinedTies
import Derived.KernelRfl
namespace Go.Proofs.Ytfajggiinoeaiaa
/- THE CELL 'sum', in the pinned program and in every row, IS THE sha256 OF THE DUMP (.gsa) THAT YtfajggiinoeaiaaProg.lean LOADS. Nothing in Lean hashes anything: it is a label: what it is worth is what the hold of that sum in a sandbox is worth. -/
noncomputable def Try.pinned : Pinned := { name := "ytfajggiinoeaiaa", sum := "14de223180dd61df5b9de5ef1bc0b65977bc84f749bc059a6cc23cb6017fb351", checked := Try.checked }
namespace Rows
def none {H : Type} : Left H := { results := [], args := [] }

/-- 'ledgerlinelaw7.DiskStays': WHATEVER THE INPUT: true; the input reads as it did. -/
def diskStaysSpec : ChangeSpec := { name := "diskStays", fn := fun _ => fun
  | [d1, d2, d3] => { results := [.lit (.bool true)], args := [d1, d2, d3] }
  | _ => none }
def diskStaysRow : OpenClaim := { program := "ytfajggiinoeaiaa", sum := "14de223180dd61df5b9de5ef1bc0b65977bc84f749bc059a6cc23cb6017fb351", func := "ledgerline/ledgerlinelaw7.DiskStays", spec := "diskStays", inPlace := ["sync/atomic.LoadUint32", "sync/atomic.AddInt64", "sync/atomic.StoreUint32", "sync/atomic.StoreInt64"], apart := false }
def DiskStaysSaid : Prop := diskStaysRow.holds Try.pinned (OpenSpec.ofChange diskStaysSpec)

/-- ITS FALSE NEIGHBOUR: 'it returns false'. Refute it at one input. -/
def diskStaysWrong : ChangeSpec := { name := "diskStays", fn := fun _ => fun
  | [d1, d2, d3] => { results := [.lit (.bool false)], args := [d1, d2, d3] }
  | _ => none }
def DiskStaysWrongFalsely : Prop := diskStaysRow.holds Try.pinned (OpenSpec.ofChange diskStaysWrong)

/-- 'ledgerlinelaw7.DiskStops': WHATEVER THE INPUT: true; the input reads as it did. -/
def diskStopsSpec : ChangeSpec := { name := "diskStops", fn := fun _ => fun
  | [d1, d2] => { results := [.lit (.bool true)], args := [d1, d2] }
  | _ => none }
def diskStopsRow : OpenClaim := { program := "ytfajggiinoeaiaa", sum := "14de223180dd61df5b9de5ef1bc0b65977bc84f749bc059a6cc23cb6017fb351", func := "ledgerline/ledgerlinelaw7.DiskStops", spec := "diskStops", inPlace := ["sync/atomic.LoadUint32", "sync/atomic.AddInt64", "sync/atomic.StoreUint32", "sync/atomic.StoreInt64"], apart := false }
def DiskStopsSaid : Prop := diskStopsRow.holds Try.pinned (OpenSpec.ofChange diskStopsSpec)

/-- ITS FALSE NEIGHBOUR: 'it returns false'. Refute it at one input. -/
def diskStopsWrong : ChangeSpec := { name := "diskStops", fn := fun _ => fun
  | [d1, d2] => { results := [.lit (.bool false)], args := [d1, d2] }
  | _ => none }
def DiskStopsWrongFalsely : Prop := diskStopsRow.holds Try.pinned (OpenSpec.ofChange diskStopsWrong)

/-- 'ledgerlinelaw7.DiskPages': WHATEVER THE INPUT: true; the input reads as it did. -/
def diskPagesSpec : ChangeSpec := { name := "diskPages", fn := fun _ => fun
  | [d1, d2, d3, d4] => { results := [.lit (.bool true)], args := [d1, d2, d3, d4] }
  | _ => none }
def diskPagesRow : OpenClaim := { program := "ytfajggiinoeaiaa", sum := "14de223180dd61df5b9de5ef1bc0b65977bc84f749bc059a6cc23cb6017fb351", func := "ledgerline/ledgerlinelaw7.DiskPages", spec := "diskPages", inPlace := ["sync/atomic.LoadUint32", "sync/atomic.AddInt64", "sync/atomic.StoreUint32", "sync/atomic.StoreInt64"], apart := false }
def DiskPagesSaid : Prop := diskPagesRow.holds Try.pinned (OpenSpec.ofChange diskPagesSpec)

/-- ITS FALSE NEIGHBOUR: 'it returns false'. Refute it at one input. -/
def diskPagesWrong : ChangeSpec := { name := "diskPages", fn := fun _ => fun
  | [d1, d2, d3, d4] => { results := [.lit (.bool false)], args := [d1, d2, d3, d4] }
  | _ => none }
def DiskPagesWrongFalsely : Prop := diskPagesRow.holds Try.pinned (OpenSpec.ofChange diskPagesWrong)

/-- 'ledgerlinelaw7.DiskTampers': WHATEVER THE INPUT: true; the input reads as it did. -/
def diskTampersSpec : ChangeSpec := { name := "diskTampers", fn := fun _ => fun
  | [d1, d2, d3, d4] => { results := [.lit (.bool true)], args := [d1, d2, d3, d4] }
  | _ => none }
def diskTampersRow : OpenClaim := { program := "ytfajggiinoeaiaa", sum := "14de223180dd61df5b9de5ef1bc0b65977bc84f749bc059a6cc23cb6017fb351", func := "ledgerline/ledgerlinelaw7.DiskTampers", spec := "diskTampers", inPlace := ["sync/atomic.LoadUint32", "sync/atomic.AddInt64", "sync/atomic.StoreUint32", "sync/atomic.StoreInt64"], apart := false }
def DiskTampersSaid : Prop := diskTampersRow.holds Try.pinned (OpenSpec.ofChange diskTampersSpec)

/-- ITS FALSE NEIGHBOUR: 'it returns false'. Refute it at one input. -/
def diskTampersWrong : ChangeSpec := { name := "diskTampers", fn := fun _ => fun
  | [d1, d2, d3, d4] => { results := [.lit (.bool false)], args := [d1, d2, d3, d4] }
  | _ => none }
def DiskTampersWrongFalsely : Prop := diskTampersRow.holds Try.pinned (OpenSpec.ofChange diskTampersWrong)

/-- 'ledgerlinelaw7.DiskHalves': WHATEVER THE INPUT: true; the input reads as it did. -/
def diskHalvesSpec : ChangeSpec := { name := "diskHalves", fn := fun _ => fun
  | [d1, d2, d3] => { results := [.lit (.bool true)], args := [d1, d2, d3] }
  | _ => none }
def diskHalvesRow : OpenClaim := { program := "ytfajggiinoeaiaa", sum := "14de223180dd61df5b9de5ef1bc0b65977bc84f749bc059a6cc23cb6017fb351", func := "ledgerline/ledgerlinelaw7.DiskHalves", spec := "diskHalves", inPlace := ["sync/atomic.LoadUint32", "sync/atomic.AddInt64", "sync/atomic.StoreUint32", "sync/atomic.StoreInt64"], apart := false }
def DiskHalvesSaid : Prop := diskHalvesRow.holds Try.pinned (OpenSpec.ofChange diskHalvesSpec)

/-- ITS FALSE NEIGHBOUR: 'it returns false'. Refute it at one input. -/
def diskHalvesWrong : ChangeSpec := { name := "diskHalves", fn := fun _ => fun
  | [d1, d2, d3] => { results := [.lit (.bool false)], args := [d1, d2, d3] }
  | _ => none }
def DiskHalvesWrongFalsely : Prop := diskHalvesRow.holds Try.pinned (OpenSpec.ofChange diskHalvesWrong)

/-- 'ledgerlinelaw7.DiskOwn': WHATEVER THE INPUT: true; the input reads as it did. -/
def diskOwnSpec : ChangeSpec := { name := "diskOwn", fn := fun _ => fun
  | [d] => { results := [.lit (.bool true)], args := [d] }
  | _ => none }
def diskOwnRow : OpenClaim := { program := "ytfajggiinoeaiaa", sum := "14de223180dd61df5b9de5ef1bc0b65977bc84f749bc059a6cc23cb6017fb351", func := "ledgerline/ledgerlinelaw7.DiskOwn", spec := "diskOwn", inPlace := ["sync/atomic.LoadUint32", "sync/atomic.AddInt64", "sync/atomic.StoreUint32", "sync/atomic.StoreInt64"], apart := false }
def DiskOwnSaid : Prop := diskOwnRow.holds Try.pinned (OpenSpec.ofChange diskOwnSpec)

/-- ITS FALSE NEIGHBOUR: 'it returns false'. Refute it at one input. -/
def diskOwnWrong : ChangeSpec := { name := "diskOwn", fn := fun _ => fun
  | [d] => { results := [.lit (.bool false)], args := [d] }
  | _ => none }
def DiskOwnWrongFalsely : Prop := diskOwnRow.holds Try.pinned (OpenSpec.ofChange diskOwnWrong)

/- THE SECOND FORM. 'bulk': how many values and letters a reading holds, each counted each time it is reached (what is shared counts as often as it is met; a slice's spare places count too). A statement '..UptoSaid' is the law's where the arguments, and the package variables that the reading takes, are together of bulk at most 1048576: NARROWER than '..Said'. Prove '..Said' where nothing that the law and all that it calls make is longer than what came in: it says more and counts as full. Else prove '..UptoSaid'. A law counts once. -/
mutual
def uptoBulk {H : Type} : DataW H → Nat
  | .lit (.string bytes) => bytes.length + 1
  | .lit _ => 1
  | .nil => 1
  | .ptr d => uptoBulk d + 1
  | .slice elems spare => uptoBulkAll elems + uptoBulkAll spare + 1
  | .agg parts => uptoBulkAll parts + 1
  | .iface _ d => uptoBulk d + 1
  | .map entries => uptoBulkEntries entries + 1
  | .held _ => 1
def uptoBulkAll {H : Type} : List (DataW H) → Nat
  | [] => 0
  | d :: r => uptoBulk d + uptoBulkAll r
def uptoBulkEntries {H : Type} : List (Lit × DataW H) → Nat
  | [] => 0
  | x :: r => uptoBulkEntry x + uptoBulkEntries r
def uptoBulkEntry {H : Type} : Lit × DataW H → Nat
  | (.string bytes, d) => bytes.length + uptoBulk d + 1
  | (_, d) => uptoBulk d + 1
 end
def uptoSmall : (H : Type) → List (DataW H) → Bool := fun _ ds => decide (uptoBulkAll ds ≤ 1048576)
def OpenSpec.upto (s : _root_.Go.ChangeSpec) : _root_.Go.OpenSpec := { _root_.Go.OpenSpec.ofChange s with cond := some uptoSmall }

/-- 'ledgerlinelaw7.DiskStays', WHERE WHAT IT READS IS OF BULK AT MOST 1048576: true; the input reads as it did. -/
def diskStaysUptoRow : OpenClaim := { program := "ytfajggiinoeaiaa", sum := "14de223180dd61df5b9de5ef1bc0b65977bc84f749bc059a6cc23cb6017fb351", func := "ledgerline/ledgerlinelaw7.DiskStays", spec := "diskStays", inPlace := ["sync/atomic.LoadUint32", "sync/atomic.AddInt64", "sync/atomic.StoreUint32", "sync/atomic.StoreInt64"], apart := false, narrowed := true }
def DiskStaysUptoSaid : Prop := diskStaysUptoRow.holds Try.pinned (OpenSpec.upto diskStaysSpec)

/-- 'ledgerlinelaw7.DiskStops', WHERE WHAT IT READS IS OF BULK AT MOST 1048576: true; the input reads as it did. -/
def diskStopsUptoRow : OpenClaim := { program := "ytfajggiinoeaiaa", sum := "14de223180dd61df5b9de5ef1bc0b65977bc84f749bc059a6cc23cb6017fb351", func := "ledgerline/ledgerlinelaw7.DiskStops", spec := "diskStops", inPlace := ["sync/atomic.LoadUint32", "sync/atomic.AddInt64", "sync/atomic.StoreUint32", "sync/atomic.StoreInt64"], apart := false, narrowed := true }
def DiskStopsUptoSaid : Prop := diskStopsUptoRow.holds Try.pinned (OpenSpec.upto diskStopsSpec)

/-- 'ledgerlinelaw7.DiskPages', WHERE WHAT IT READS IS OF BULK AT MOST 1048576: true; the input reads as it did. -/
def diskPagesUptoRow : OpenClaim := { program := "ytfajggiinoeaiaa", sum := "14de223180dd61df5b9de5ef1bc0b65977bc84f749bc059a6cc23cb6017fb351", func := "ledgerline/ledgerlinelaw7.DiskPages", spec := "diskPages", inPlace := ["sync/atomic.LoadUint32", "sync/atomic.AddInt64", "sync/atomic.StoreUint32", "sync/atomic.StoreInt64"], apart := false, narrowed := true }
def DiskPagesUptoSaid : Prop := diskPagesUptoRow.holds Try.pinned (OpenSpec.upto diskPagesSpec)

/-- 'ledgerlinelaw7.DiskTampers', WHERE WHAT IT READS IS OF BULK AT MOST 1048576: true; the input reads as it did. -/
def diskTampersUptoRow : OpenClaim := { program := "ytfajggiinoeaiaa", sum := "14de223180dd61df5b9de5ef1bc0b65977bc84f749bc059a6cc23cb6017fb351", func := "ledgerline/ledgerlinelaw7.DiskTampers", spec := "diskTampers", inPlace := ["sync/atomic.LoadUint32", "sync/atomic.AddInt64", "sync/atomic.StoreUint32", "sync/atomic.StoreInt64"], apart := false, narrowed := true }
def DiskTampersUptoSaid : Prop := diskTampersUptoRow.holds Try.pinned (OpenSpec.upto diskTampersSpec)

/-- 'ledgerlinelaw7.DiskHalves', WHERE WHAT IT READS IS OF BULK AT MOST 1048576: true; the input reads as it did. -/
def diskHalvesUptoRow : OpenClaim := { program := "ytfajggiinoeaiaa", sum := "14de223180dd61df5b9de5ef1bc0b65977bc84f749bc059a6cc23cb6017fb351", func := "ledgerline/ledgerlinelaw7.DiskHalves", spec := "diskHalves", inPlace := ["sync/atomic.LoadUint32", "sync/atomic.AddInt64", "sync/atomic.StoreUint32", "sync/atomic.StoreInt64"], apart := false, narrowed := true }
def DiskHalvesUptoSaid : Prop := diskHalvesUptoRow.holds Try.pinned (OpenSpec.upto diskHalvesSpec)

/-- 'ledgerlinelaw7.DiskOwn', WHERE WHAT IT READS IS OF BULK AT MOST 1048576: true; the input reads as it did. -/
def diskOwnUptoRow : OpenClaim := { program := "ytfajggiinoeaiaa", sum := "14de223180dd61df5b9de5ef1bc0b65977bc84f749bc059a6cc23cb6017fb351", func := "ledgerline/ledgerlinelaw7.DiskOwn", spec := "diskOwn", inPlace := ["sync/atomic.LoadUint32", "sync/atomic.AddInt64", "sync/atomic.StoreUint32", "sync/atomic.StoreInt64"], apart := false, narrowed := true }
def DiskOwnUptoSaid : Prop := diskOwnUptoRow.holds Try.pinned (OpenSpec.upto diskOwnSpec)

end Rows
end Go.Proofs.Ytfajggiinoeaiaa

/-
  No cell of these rows narrows 'for every input' (looked for: loops, veiled, ifaces, maps, wideKeys, modest, calm, conditions, laid).
  DERIVED. THE GIVEN ROWS OF THIS SEAT. 11 by the template 'for every input the law returns true; each argument reads behind the call as it read before'; 0 by the template 'total and deterministic' (their statements: YtckfkgmlifnfkaaTotals.lean).
  GIVEN WITH THE SEED: the statements are not yours to turn. If you find one false, say at which input.
  Laid BY PROGRAM, IN A SANDBOX (cutbox-rows.mjs): the forced cells as the released guide's own fill.sh prints them over the translation 1be5524a27ef9469… (all of the seat's roots in one cut). By AI agents, Wed Nov 11 2026. No macro, syntax, notation, axiom, sorry.
-/
import Derived.Test.YtckfkgmlifnfkaaChecked
import GoSem.Claim
import GoSem.ClaimJoined
import GoSem.ClaimMapViews
import Derived.JoinedTies
import Derived.KernelRfl
namespace Go.Proofs.Ytckfkgmlifnfkaa
/- THE CELL 'sum', in the pinned program and in every row, IS THE sha256 OF THE DUMP (.gsa) THAT YtckfkgmlifnfkaaProg.lean LOADS. Nothing in Lean hashes anything: it is a label: what it is worth is what the hold of that sum in a sandbox is worth. -/
noncomputable def Try.pinned : Pinned := { name := "ytckfkgmlifnfkaa", sum := "1be5524a27ef9469f46f1e9727b433fcf6594f23a8ff268ad094d1f45d962178", checked := Try.checked }
namespace Rows
def none {H : Type} : Left H := { results := [], args := [] }

/-- 'ledgerlinelaw8.WalReads': WHATEVER THE INPUT: true; the input reads as it did. -/
def walReadsSpec : ChangeSpec := { name := "walReads", fn := fun _ => fun
  | [d1, d2, d3] => { results := [.lit (.bool true)], args := [d1, d2, d3] }
  | _ => none }
def walReadsRow : OpenClaim := { program := "ytckfkgmlifnfkaa", sum := "1be5524a27ef9469f46f1e9727b433fcf6594f23a8ff268ad094d1f45d962178", func := "ledgerline/ledgerlinelaw8.WalReads", spec := "walReads", inPlace := ["sync/atomic.LoadUint32", "(*internal/sync.Mutex).Lock", "internal/race.Disable", "sync/atomic.CompareAndSwapInt32", "internal/race.Enable", "internal/race.Acquire", "(*internal/sync.Mutex).lockSlow", "internal/sync.runtime_canSpin", "internal/sync.runtime_doSpin", "internal/sync.throw", "internal/sync.runtime_nanotime", "internal/sync.runtime_SemacquireMutex", "sync/atomic.AddInt32", "(*internal/sync.Mutex).Unlock", "internal/race.ReleaseMerge", "(*internal/sync.Mutex).unlockSlow", "internal/sync.fatal", "internal/sync.runtime_Semrelease", "sync/atomic.StoreUint32", "sync/atomic.StoreInt64", "sync/atomic.LoadInt64", "sync/atomic.AddInt64"], unfollowed := true, recurses := true, apart := false }
def WalReadsSaid : Prop := walReadsRow.holds Try.pinned (OpenSpec.ofChange walReadsSpec)

/-- ITS FALSE NEIGHBOUR: 'it returns false'. Refute it at one input. -/
def walReadsWrong : ChangeSpec := { name := "walReads", fn := fun _ => fun
  | [d1, d2, d3] => { results := [.lit (.bool false)], args := [d1, d2, d3] }
  | _ => none }
def WalReadsWrongFalsely : Prop := walReadsRow.holds Try.pinned (OpenSpec.ofChange walReadsWrong)

/-- 'ledgerlinelaw10.TablePlays': WHATEVER THE INPUT: true; the input reads as it did. -/
def tablePlaysSpec : ChangeSpec := { name := "tablePlays", fn := fun _ => fun
  | [d1, d2] => { results := [.lit (.bool true)], args := [d1, d2] }
  | _ => none }
def tablePlaysRow : OpenClaim := { program := "ytckfkgmlifnfkaa", sum := "1be5524a27ef9469f46f1e9727b433fcf6594f23a8ff268ad094d1f45d962178", func := "ledgerline/ledgerlinelaw10.TablePlays", spec := "tablePlays", unfollowed := true, recurses := true, apart := false }
def TablePlaysSaid : Prop := tablePlaysRow.holds Try.pinned (OpenSpec.ofChange tablePlaysSpec)

/-- ITS FALSE NEIGHBOUR: 'it returns false'. Refute it at one input. -/
def tablePlaysWrong : ChangeSpec := { name := "tablePlays", fn := fun _ => fun
  | [d1, d2] => { results := [.lit (.bool false)], args := [d1, d2] }
  | _ => none }
def TablePlaysWrongFalsely : Prop := tablePlaysRow.holds Try.pinned (OpenSpec.ofChange tablePlaysWrong)

/-- 'ledgerlinelaw10.TableRanges': WHATEVER THE INPUT: true; the input reads as it did. -/
def tableRangesSpec : ChangeSpec := { name := "tableRanges", fn := fun _ => fun
  | [d1, d2, d3, d4, d5, d6] => { results := [.lit (.bool true)], args := [d1, d2, d3, d4, d5, d6] }
  | _ => none }
def tableRangesRow : OpenClaim := { program := "ytckfkgmlifnfkaa", sum := "1be5524a27ef9469f46f1e9727b433fcf6594f23a8ff268ad094d1f45d962178", func := "ledgerline/ledgerlinelaw10.TableRanges", spec := "tableRanges", unfollowed := true, recurses := true, apart := false }
def TableRangesSaid : Prop := tableRangesRow.holds Try.pinned (OpenSpec.ofChange tableRangesSpec)

/-- ITS FALSE NEIGHBOUR: 'it returns false'. Refute it at one input. -/
def tableRangesWrong : ChangeSpec := { name := "tableRanges", fn := fun _ => fun
  | [d1, d2, d3, d4, d5, d6] => { results := [.lit (.bool false)], args := [d1, d2, d3, d4, d5, d6] }
  | _ => none }
def TableRangesWrongFalsely : Prop := tableRangesRow.holds Try.pinned (OpenSpec.ofChange tableRangesWrong)

/-- 'ledgerlinelaw11.IndexPlays': WHATEVER THE INPUT: true; the input reads as it did. -/
def indexPlaysSpec : ChangeSpec := { name := "indexPlays", fn := fun _ => fun
  | [d1, d2, d3, d4, d5, d6] => { results := [.lit (.bool true)], args := [d1, d2, d3, d4, d5, d6] }
  | _ => none }
def indexPlaysRow : OpenClaim := { program := "ytckfkgmlifnfkaa", sum := "1be5524a27ef9469f46f1e9727b433fcf6594f23a8ff268ad094d1f45d962178", func := "ledgerline/ledgerlinelaw11.IndexPlays", spec := "indexPlays", inPlace := ["sync/atomic.LoadPointer", "internal/bytealg.abigen_runtime_cmpstring", "sync/atomic.StorePointer"], unfollowed := true, recurses := true, apart := false }
def IndexPlaysSaid : Prop := indexPlaysRow.holds Try.pinned (OpenSpec.ofChange indexPlaysSpec)

/-- ITS FALSE NEIGHBOUR: 'it returns false'. Refute it at one input. -/
def indexPlaysWrong : ChangeSpec := { name := "indexPlays", fn := fun _ => fun
  | [d1, d2, d3, d4, d5, d6] => { results := [.lit (.bool false)], args := [d1, d2, d3, d4, d5, d6] }
  | _ => none }
def IndexPlaysWrongFalsely : Prop := indexPlaysRow.holds Try.pinned (OpenSpec.ofChange indexPlaysWrong)

/-- 'ledgerlinelaw12.LockPlays': WHATEVER THE INPUT: true; the input reads as it did. -/
def lockPlaysSpec : ChangeSpec := { name := "lockPlays", fn := fun _ => fun
  | [d] => { results := [.lit (.bool true)], args := [d] }
  | _ => none }
def lockPlaysRow : OpenClaim := { program := "ytckfkgmlifnfkaa", sum := "1be5524a27ef9469f46f1e9727b433fcf6594f23a8ff268ad094d1f45d962178", func := "ledgerline/ledgerlinelaw12.LockPlays", spec := "lockPlays", inPlace := ["sync/atomic.OrUint32", "sync/atomic.LoadUint32"], unfollowed := true, recurses := true, apart := false }
def LockPlaysSaid : Prop := lockPlaysRow.holds Try.pinned (OpenSpec.ofChange lockPlaysSpec)

/-- ITS FALSE NEIGHBOUR: 'it returns false'. Refute it at one input. -/
def lockPlaysWrong : ChangeSpec := { name := "lockPlays", fn := fun _ => fun
  | [d] => { results := [.lit (.bool false)], args := [d] }
  | _ => none }
def LockPlaysWrongFalsely : Prop := lockPlaysRow.holds Try.pinned (OpenSpec.ofChange lockPlaysWrong)

/-- 'ledgerlinelaw12.LockApart': WHATEVER THE INPUT: true; the input reads as it did. -/
def lockApartSpec : ChangeSpec := { name := "lockApart", fn := fun _ => fun
  | [d] => { results := [.lit (.bool true)], args := [d] }
  | _ => none }
def lockApartRow : OpenClaim := { program := "ytckfkgmlifnfkaa", sum := "1be5524a27ef9469f46f1e9727b433fcf6594f23a8ff268ad094d1f45d962178", func := "ledgerline/ledgerlinelaw12.LockApart", spec := "lockApart", inPlace := ["sync/atomic.OrUint32", "sync/atomic.LoadUint32"], unfollowed := true, recurses := true, apart := false }
def LockApartSaid : Prop := lockApartRow.holds Try.pinned (OpenSpec.ofChange lockApartSpec)

/-- ITS FALSE NEIGHBOUR: 'it returns false'. Refute it at one input. -/
def lockApartWrong : ChangeSpec := { name := "lockApart", fn := fun _ => fun
  | [d] => { results := [.lit (.bool false)], args := [d] }
  | _ => none }
def LockApartWrongFalsely : Prop := lockApartRow.holds Try.pinned (OpenSpec.ofChange lockApartWrong)

/-- 'ledgerlinelaw12.LockRings': WHATEVER THE INPUT: true; the input reads as it did. -/
def lockRingsSpec : ChangeSpec := { name := "lockRings", fn := fun _ => fun
  | [d1, d2, d3] => { results := [.lit (.bool true)], args := [d1, d2, d3] }
  | _ => none }
def lockRingsRow : OpenClaim := { program := "ytckfkgmlifnfkaa", sum := "1be5524a27ef9469f46f1e9727b433fcf6594f23a8ff268ad094d1f45d962178", func := "ledgerline/ledgerlinelaw12.LockRings", spec := "lockRings", inPlace := ["sync/atomic.OrUint32", "sync/atomic.LoadUint32"], unfollowed := true, recurses := true, apart := false }
def LockRingsSaid : Prop := lockRingsRow.holds Try.pinned (OpenSpec.ofChange lockRingsSpec)

/-- ITS FALSE NEIGHBOUR: 'it returns false'. Refute it at one input. -/
def lockRingsWrong : ChangeSpec := { name := "lockRings", fn := fun _ => fun
  | [d1, d2, d3] => { results := [.lit (.bool false)], args := [d1, d2, d3] }
  | _ => none }
def LockRingsWrongFalsely : Prop := lockRingsRow.holds Try.pinned (OpenSpec.ofChange lockRingsWrong)

/-- 'ledgerlinelaw12.LockShared': WHATEVER THE INPUT: true; the input reads as it did. -/
def lockSharedSpec : ChangeSpec := { name := "lockShared", fn := fun _ => fun
  | [d1, d2] => { results := [.lit (.bool true)], args := [d1, d2] }
  | _ => none }
def lockSharedRow : OpenClaim := { program := "ytckfkgmlifnfkaa", sum := "1be5524a27ef9469f46f1e9727b433fcf6594f23a8ff268ad094d1f45d962178", func := "ledgerline/ledgerlinelaw12.LockShared", spec := "lockShared", inPlace := ["sync/atomic.OrUint32", "sync/atomic.LoadUint32"], unfollowed := true, recurses := true, apart := false }
def LockSharedSaid : Prop := lockSharedRow.holds Try.pinned (OpenSpec.ofChange lockSharedSpec)

/-- ITS FALSE NEIGHBOUR: 'it returns false'. Refute it at one input. -/
def lockSharedWrong : ChangeSpec := { name := "lockShared", fn := fun _ => fun
  | [d1, d2] => { results := [.lit (.bool false)], args := [d1, d2] }
  | _ => none }
def LockSharedWrongFalsely : Prop := lockSharedRow.holds Try.pinned (OpenSpec.ofChange lockSharedWrong)

/-- 'ledgerlinelaw12.LockFree': WHATEVER THE INPUT: true; the input reads as it did. -/
def lockFreeSpec : ChangeSpec := { name := "lockFree", fn := fun _ => fun
  | [d1, d2] => { results := [.lit (.bool true)], args := [d1, d2] }
  | _ => none }
def lockFreeRow : OpenClaim := { program := "ytckfkgmlifnfkaa", sum := "1be5524a27ef9469f46f1e9727b433fcf6594f23a8ff268ad094d1f45d962178", func := "ledgerline/ledgerlinelaw12.LockFree", spec := "lockFree", inPlace := ["sync/atomic.OrUint32", "sync/atomic.LoadUint32"], unfollowed := true, recurses := true, apart := false }
def LockFreeSaid : Prop := lockFreeRow.holds Try.pinned (OpenSpec.ofChange lockFreeSpec)

/-- ITS FALSE NEIGHBOUR: 'it returns false'. Refute it at one input. -/
def lockFreeWrong : ChangeSpec := { name := "lockFree", fn := fun _ => fun
  | [d1, d2] => { results := [.lit (.bool false)], args := [d1, d2] }
  | _ => none }
def LockFreeWrongFalsely : Prop := lockFreeRow.holds Try.pinned (OpenSpec.ofChange lockFreeWrong)

/-- 'ledgerlinelaw12.LockAgain': WHATEVER THE INPUT: true; the input reads as it did. -/
def lockAgainSpec : ChangeSpec := { name := "lockAgain", fn := fun _ => fun
  | [d1, d2] => { results := [.lit (.bool true)], args := [d1, d2] }
  | _ => none }
def lockAgainRow : OpenClaim := { program := "ytckfkgmlifnfkaa", sum := "1be5524a27ef9469f46f1e9727b433fcf6594f23a8ff268ad094d1f45d962178", func := "ledgerline/ledgerlinelaw12.LockAgain", spec := "lockAgain", inPlace := ["sync/atomic.OrUint32", "sync/atomic.LoadUint32"], unfollowed := true, recurses := true, apart := false }
def LockAgainSaid : Prop := lockAgainRow.holds Try.pinned (OpenSpec.ofChange lockAgainSpec)

/-- ITS FALSE NEIGHBOUR: 'it returns false'. Refute it at one input. -/
def lockAgainWrong : ChangeSpec := { name := "lockAgain", fn := fun _ => fun
  | [d1, d2] => { results := [.lit (.bool false)], args := [d1, d2] }
  | _ => none }
def LockAgainWrongFalsely : Prop := lockAgainRow.holds Try.pinned (OpenSpec.ofChange lockAgainWrong)

/-- 'ledgerlinelaw12.LockNobody': WHATEVER THE INPUT: true; the input reads as it did. -/
def lockNobodySpec : ChangeSpec := { name := "lockNobody", fn := fun _ => fun
  | [d1, d2] => { results := [.lit (.bool true)], args := [d1, d2] }
  | _ => none }
def lockNobodyRow : OpenClaim := { program := "ytckfkgmlifnfkaa", sum := "1be5524a27ef9469f46f1e9727b433fcf6594f23a8ff268ad094d1f45d962178", func := "ledgerline/ledgerlinelaw12.LockNobody", spec := "lockNobody", inPlace := ["sync/atomic.OrUint32", "sync/atomic.LoadUint32"], unfollowed := true, recurses := true, apart := false }
def LockNobodySaid : Prop := lockNobodyRow.holds Try.pinned (OpenSpec.ofChange lockNobodySpec)

/-- ITS FALSE NEIGHBOUR: 'it returns false'. Refute it at one input. -/
def lockNobodyWrong : ChangeSpec := { name := "lockNobody", fn := fun _ => fun
  | [d1, d2] => { results := [.lit (.bool false)], args := [d1, d2] }
  | _ => none }
def LockNobodyWrongFalsely : Prop := lockNobodyRow.holds Try.pinned (OpenSpec.ofChange lockNobodyWrong)

/- THE SECOND FORM. 'bulk': how many values and letters a reading holds, each counted each time it is reached (what is shared counts as often as it is met; a slice's spare places count too). A statement '..UptoSaid' is the law's where the arguments, and the package variables that the reading takes, are together of bulk at most 1048576: NARROWER than '..Said'. Prove '..Said' where nothing that the law and all that it calls make is longer than what came in: it says more and counts as full. Else prove '..UptoSaid'. A law counts once. -/
mutual
def uptoBulk {H : Type} : DataW H → Nat
  | .lit (.string bytes) => bytes.length + 1
  | .lit _ => 1
  | .nil => 1
  | .ptr d => uptoBulk d + 1
  | .slice elems spare => uptoBulkAll elems + uptoBulkAll spare + 1
  | .agg parts => uptoBulkAll parts + 1
  | .iface _ d => uptoBulk d + 1
  | .map entries => uptoBulkEntries entries + 1
  | .held _ => 1
def uptoBulkAll {H : Type} : List (DataW H) → Nat
  | [] => 0
  | d :: r => uptoBulk d + uptoBulkAll r
def uptoBulkEntries {H : Type} : List (Lit × DataW H) → Nat
  | [] => 0
  | x :: r => uptoBulkEntry x + uptoBulkEntries r
def uptoBulkEntry {H : Type} : Lit × DataW H → Nat
  | (.string bytes, d) => bytes.length + uptoBulk d + 1
  | (_, d) => uptoBulk d + 1
 end
def uptoSmall : (H : Type) → List (DataW H) → Bool := fun _ ds => decide (uptoBulkAll ds ≤ 1048576)
def OpenSpec.upto (s : _root_.Go.ChangeSpec) : _root_.Go.OpenSpec := { _root_.Go.OpenSpec.ofChange s with cond := some uptoSmall }

/-- 'ledgerlinelaw8.WalReads', WHERE WHAT IT READS IS OF BULK AT MOST 1048576: true; the input reads as it did. -/
def walReadsUptoRow : OpenClaim := { program := "ytckfkgmlifnfkaa", sum := "1be5524a27ef9469f46f1e9727b433fcf6594f23a8ff268ad094d1f45d962178", func := "ledgerline/ledgerlinelaw8.WalReads", spec := "walReads", inPlace := ["sync/atomic.LoadUint32", "(*internal/sync.Mutex).Lock", "internal/race.Disable", "sync/atomic.CompareAndSwapInt32", "internal/race.Enable", "internal/race.Acquire", "(*internal/sync.Mutex).lockSlow", "internal/sync.runtime_canSpin", "internal/sync.runtime_doSpin", "internal/sync.throw", "internal/sync.runtime_nanotime", "internal/sync.runtime_SemacquireMutex", "sync/atomic.AddInt32", "(*internal/sync.Mutex).Unlock", "internal/race.ReleaseMerge", "(*internal/sync.Mutex).unlockSlow", "internal/sync.fatal", "internal/sync.runtime_Semrelease", "sync/atomic.StoreUint32", "sync/atomic.StoreInt64", "sync/atomic.LoadInt64", "sync/atomic.AddInt64"], unfollowed := true, recurses := true, apart := false, narrowed := true }
def WalReadsUptoSaid : Prop := walReadsUptoRow.holds Try.pinned (OpenSpec.upto walReadsSpec)

/-- 'ledgerlinelaw10.TablePlays', WHERE WHAT IT READS IS OF BULK AT MOST 1048576: true; the input reads as it did. -/
def tablePlaysUptoRow : OpenClaim := { program := "ytckfkgmlifnfkaa", sum := "1be5524a27ef9469f46f1e9727b433fcf6594f23a8ff268ad094d1f45d962178", func := "ledgerline/ledgerlinelaw10.TablePlays", spec := "tablePlays", unfollowed := true, recurses := true, apart := false, narrowed := true }
def TablePlaysUptoSaid : Prop := tablePlaysUptoRow.holds Try.pinned (OpenSpec.upto tablePlaysSpec)

/-- 'ledgerlinelaw10.TableRanges', WHERE WHAT IT READS IS OF BULK AT MOST 1048576: true; the input reads as it did. -/
def tableRangesUptoRow : OpenClaim := { program := "ytckfkgmlifnfkaa", sum := "1be5524a27ef9469f46f1e9727b433fcf6594f23a8ff268ad094d1f45d962178", func := "ledgerline/ledgerlinelaw10.TableRanges", spec := "tableRanges", unfollowed := true, recurses := true, apart := false, narrowed := true }
def TableRangesUptoSaid : Prop := tableRangesUptoRow.holds Try.pinned (OpenSpec.upto tableRangesSpec)

/-- 'ledgerlinelaw11.IndexPlays', WHERE WHAT IT READS IS OF BULK AT MOST 1048576: true; the input reads as it did. -/
def indexPlaysUptoRow : OpenClaim := { program := "ytckfkgmlifnfkaa", sum := "1be5524a27ef9469f46f1e9727b433fcf6594f23a8ff268ad094d1f45d962178", func := "ledgerline/ledgerlinelaw11.IndexPlays", spec := "indexPlays", inPlace := ["sync/atomic.LoadPointer", "internal/bytealg.abigen_runtime_cmpstring", "sync/atomic.StorePointer"], unfollowed := true, recurses := true, apart := false, narrowed := true }
def IndexPlaysUptoSaid : Prop := indexPlaysUptoRow.holds Try.pinned (OpenSpec.upto indexPlaysSpec)

/-- 'ledgerlinelaw12.LockPlays', WHERE WHAT IT READS IS OF BULK AT MOST 1048576: true; the input reads as it did. -/
def lockPlaysUptoRow : OpenClaim := { program := "ytckfkgmlifnfkaa", sum := "1be5524a27ef9469f46f1e9727b433fcf6594f23a8ff268ad094d1f45d962178", func := "ledgerline/ledgerlinelaw12.LockPlays", spec := "lockPlays", inPlace := ["sync/atomic.OrUint32", "sync/atomic.LoadUint32"], unfollowed := true, recurses := true, apart := false, narrowed := true }
def LockPlaysUptoSaid : Prop := lockPlaysUptoRow.holds Try.pinned (OpenSpec.upto lockPlaysSpec)

/-- 'ledgerlinelaw12.LockApart', WHERE WHAT IT READS IS OF BULK AT MOST 1048576: true; the input reads as it did. -/
def lockApartUptoRow : OpenClaim := { program := "ytckfkgmlifnfkaa", sum := "1be5524a27ef9469f46f1e9727b433fcf6594f23a8ff268ad094d1f45d962178", func := "ledgerline/ledgerlinelaw12.LockApart", spec := "lockApart", inPlace := ["sync/atomic.OrUint32", "sync/atomic.LoadUint32"], unfollowed := true, recurses := true, apart := false, narrowed := true }
def LockApartUptoSaid : Prop := lockApartUptoRow.holds Try.pinned (OpenSpec.upto lockApartSpec)

/-- 'ledgerlinelaw12.LockRings', WHERE WHAT IT READS IS OF BULK AT MOST 1048576: true; the input reads as it did. -/
def lockRingsUptoRow : OpenClaim := { program := "ytckfkgmlifnfkaa", sum := "1be5524a27ef9469f46f1e9727b433fcf6594f23a8ff268ad094d1f45d962178", func := "ledgerline/ledgerlinelaw12.LockRings", spec := "lockRings", inPlace := ["sync/atomic.OrUint32", "sync/atomic.LoadUint32"], unfollowed := true, recurses := true, apart := false, narrowed := true }
def LockRingsUptoSaid : Prop := lockRingsUptoRow.holds Try.pinned (OpenSpec.upto lockRingsSpec)

/-- 'ledgerlinelaw12.LockShared', WHERE WHAT IT READS IS OF BULK AT MOST 1048576: true; the input reads as it did. -/
def lockSharedUptoRow : OpenClaim := { program := "ytckfkgmlifnfkaa", sum := "1be5524a27ef9469f46f1e9727b433fcf6594f23a8ff268ad094d1f45d962178", func := "ledgerline/ledgerlinelaw12.LockShared", spec := "lockShared", inPlace := ["sync/atomic.OrUint32", "sync/atomic.LoadUint32"], unfollowed := true, recurses := true, apart := false, narrowed := true }
def LockSharedUptoSaid : Prop := lockSharedUptoRow.holds Try.pinned (OpenSpec.upto lockSharedSpec)

/-- 'ledgerlinelaw12.LockFree', WHERE WHAT IT READS IS OF BULK AT MOST 1048576: true; the input reads as it did. -/
def lockFreeUptoRow : OpenClaim := { program := "ytckfkgmlifnfkaa", sum := "1be5524a27ef9469f46f1e9727b433fcf6594f23a8ff268ad094d1f45d962178", func := "ledgerline/ledgerlinelaw12.LockFree", spec := "lockFree", inPlace := ["sync/atomic.OrUint32", "sync/atomic.LoadUint32"], unfollowed := true, recurses := true, apart := false, narrowed := true }
def LockFreeUptoSaid : Prop := lockFreeUptoRow.holds Try.pinned (OpenSpec.upto lockFreeSpec)

/-- 'ledgerlinelaw12.LockAgain', WHERE WHAT IT READS IS OF BULK AT MOST 1048576: true; the input reads as it did. -/
def lockAgainUptoRow : OpenClaim := { program := "ytckfkgmlifnfkaa", sum := "1be5524a27ef9469f46f1e9727b433fcf6594f23a8ff268ad094d1f45d962178", func := "ledgerline/ledgerlinelaw12.LockAgain", spec := "lockAgain", inPlace := ["sync/atomic.OrUint32", "sync/atomic.LoadUint32"], unfollowed := true, recurses := true, apart := false, narrowed := true }
def LockAgainUptoSaid : Prop := lockAgainUptoRow.holds Try.pinned (OpenSpec.upto lockAgainSpec)

/-- 'ledgerlinelaw12.LockNobody', WHERE WHAT IT READS IS OF BULK AT MOST 1048576: true; the input reads as it did. -/
def lockNobodyUptoRow : OpenClaim := { program := "ytckfkgmlifnfkaa", sum := "1be5524a27ef9469f46f1e9727b433fcf6594f23a8ff268ad094d1f45d962178", func := "ledgerline/ledgerlinelaw12.LockNobody", spec := "lockNobody", inPlace := ["sync/atomic.OrUint32", "sync/atomic.LoadUint32"], unfollowed := true, recurses := true, apart := false, narrowed := true }
def LockNobodyUptoSaid : Prop := lockNobodyUptoRow.holds Try.pinned (OpenSpec.upto lockNobodySpec)

end Rows
end Go.Proofs.Ytckfkgmlifnfkaa

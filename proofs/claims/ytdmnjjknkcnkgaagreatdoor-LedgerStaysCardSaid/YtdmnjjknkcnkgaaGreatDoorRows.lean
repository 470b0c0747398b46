/-
  NARROWER THAN 'FOR EVERY INPUT', by the rows' own cells (each row's printed sentence says how): LedgerPlays: laid · LedgerSums: laid · LedgerStays: laid · LedgerBlocks: laid · LedgerCloses: laid · ReceiptMakes: laid · ReceiptAll: laid · ReceiptOther: laid · ReceiptLong: laid · ReceiptStays: laid.
  DERIVED. THE GIVEN ROWS OF THIS SEAT. 10 by the template 'for every input the law returns true; each argument reads behind the call as it read before'; 0 by the template 'total and deterministic' (their statements: YtdmnjjknkcnkgaaGreatDoorTotals.lean).
  GIVEN WITH THE SEED: the statements are not yours to turn. If you find one false, say at which input.
  Laid BY PROGRAM, IN A SANDBOX (cutbox-rows.mjs): the forced cells as the released guide's own fill.sh prints them over the translation fed6836c12617f18… (all of the seat's roots in one cut). By AI agents, Wed Nov 11 2026. No macro, syntax, notation, axiom, sorry.
-/
import Derived.Test.YtdmnjjknkcnkgaaGreatDoorChecked
import GoSem.Claim
import GoSem.ClaimJoined
import GoSem.ClaimMapViews
import Derived.JoinedTies
import Derived.KernelRfl
namespace Go.Proofs.YtdmnjjknkcnkgaaGreatDoor
/- THE CELL 'sum', in the pinned program and in every row, IS THE sha256 OF THE DUMP (.gsa) THAT YtdmnjjknkcnkgaaGreatDoorProg.lean LOADS. Nothing in Lean hashes anything: it is a label: what it is worth is what the hold of that sum in a sandbox is worth. -/
noncomputable def Tryz.pinned : Pinned := { name := "ytdmnjjknkcnkgaagreatdoor", sum := "fed6836c12617f18b00ca4cacc79e88a1716c18fd243ffbb9550a484405be0e5", checked := Tryz.checked }
namespace Rows
def none {H : Type} : Left H := { results := [], args := [] }

/- WHAT THE LISTED PACKAGE-LEVEL VARIABLES READ AS WHEN THE CALL BEGINS. Each datum BY PROGRAM (the guide's laid-datum.mjs) off the statement by which the dump's own 'gosem.cut.vars' lays the variable. In a bare row this is a premise. The card (YtdmnjjknkcnkgaaGreatDoorCards.lean) ties it to the program's text. -/
def laid_ledgerline_sha_roundConstants {H : Type} : DataW H := .agg [.lit (.int .u32 1116352408), .lit (.int .u32 1899447441), .lit (.int .u32 3049323471), .lit (.int .u32 3921009573), .lit (.int .u32 961987163), .lit (.int .u32 1508970993), .lit (.int .u32 2453635748), .lit (.int .u32 2870763221), .lit (.int .u32 3624381080), .lit (.int .u32 310598401), .lit (.int .u32 607225278), .lit (.int .u32 1426881987), .lit (.int .u32 1925078388), .lit (.int .u32 2162078206), .lit (.int .u32 2614888103), .lit (.int .u32 3248222580), .lit (.int .u32 3835390401), .lit (.int .u32 4022224774), .lit (.int .u32 264347078), .lit (.int .u32 604807628), .lit (.int .u32 770255983), .lit (.int .u32 1249150122), .lit (.int .u32 1555081692), .lit (.int .u32 1996064986), .lit (.int .u32 2554220882), .lit (.int .u32 2821834349), .lit (.int .u32 2952996808), .lit (.int .u32 3210313671), .lit (.int .u32 3336571891), .lit (.int .u32 3584528711), .lit (.int .u32 113926993), .lit (.int .u32 338241895), .lit (.int .u32 666307205), .lit (.int .u32 773529912), .lit (.int .u32 1294757372), .lit (.int .u32 1396182291), .lit (.int .u32 1695183700), .lit (.int .u32 1986661051), .lit (.int .u32 2177026350), .lit (.int .u32 2456956037), .lit (.int .u32 2730485921), .lit (.int .u32 2820302411), .lit (.int .u32 3259730800), .lit (.int .u32 3345764771), .lit (.int .u32 3516065817), .lit (.int .u32 3600352804), .lit (.int .u32 4094571909), .lit (.int .u32 275423344), .lit (.int .u32 430227734), .lit (.int .u32 506948616), .lit (.int .u32 659060556), .lit (.int .u32 883997877), .lit (.int .u32 958139571), .lit (.int .u32 1322822218), .lit (.int .u32 1537002063), .lit (.int .u32 1747873779), .lit (.int .u32 1955562222), .lit (.int .u32 2024104815), .lit (.int .u32 2227730452), .lit (.int .u32 2361852424), .lit (.int .u32 2428436474), .lit (.int .u32 2756734187), .lit (.int .u32 3204031479), .lit (.int .u32 3329325298)]

/-- 'ledgerlinelaw14.LedgerPlays': WHATEVER THE INPUT: true; the input reads as it did. -/
def ledgerPlaysSpec : ChangeSpec := { name := "ledgerPlays", fn := fun _ => fun
  | [d] => { results := [.lit (.bool true)], args := [d] }
  | _ => none }
def ledgerPlaysRow : OpenClaim := { program := "ytdmnjjknkcnkgaagreatdoor", sum := "fed6836c12617f18b00ca4cacc79e88a1716c18fd243ffbb9550a484405be0e5", func := "ledgerline/ledgerlinelaw14.LedgerPlays", spec := "ledgerPlays", inPlace := ["sync/atomic.LoadUint32", "(*internal/sync.Mutex).Lock", "internal/race.Disable", "sync/atomic.CompareAndSwapInt32", "internal/race.Enable", "internal/race.Acquire", "(*internal/sync.Mutex).lockSlow", "internal/sync.runtime_canSpin", "internal/sync.runtime_doSpin", "internal/sync.throw", "internal/sync.runtime_nanotime", "internal/sync.runtime_SemacquireMutex", "sync/atomic.AddInt32", "(*internal/sync.Mutex).Unlock", "internal/race.ReleaseMerge", "(*internal/sync.Mutex).unlockSlow", "internal/sync.fatal", "internal/sync.runtime_Semrelease", "sync/atomic.StoreUint32"], unfollowed := true, recurses := true, named := ["ledgerline/sha.roundConstants"], apart := false, laid := [("ledgerline/sha.roundConstants", laid_ledgerline_sha_roundConstants)] }
def LedgerPlaysSaid : Prop := ledgerPlaysRow.holds Tryz.pinned (OpenSpec.ofChange ledgerPlaysSpec)

/-- ITS FALSE NEIGHBOUR: 'it returns false'. Refute it at one input. -/
def ledgerPlaysWrong : ChangeSpec := { name := "ledgerPlays", fn := fun _ => fun
  | [d] => { results := [.lit (.bool false)], args := [d] }
  | _ => none }
def LedgerPlaysWrongFalsely : Prop := ledgerPlaysRow.holds Tryz.pinned (OpenSpec.ofChange ledgerPlaysWrong)

/-- 'ledgerlinelaw14.LedgerSums': WHATEVER THE INPUT: true; the input reads as it did. -/
def ledgerSumsSpec : ChangeSpec := { name := "ledgerSums", fn := fun _ => fun
  | [d1, d2, d3, d4] => { results := [.lit (.bool true)], args := [d1, d2, d3, d4] }
  | _ => none }
def ledgerSumsRow : OpenClaim := { program := "ytdmnjjknkcnkgaagreatdoor", sum := "fed6836c12617f18b00ca4cacc79e88a1716c18fd243ffbb9550a484405be0e5", func := "ledgerline/ledgerlinelaw14.LedgerSums", spec := "ledgerSums", inPlace := ["sync/atomic.LoadUint32", "(*internal/sync.Mutex).Lock", "internal/race.Disable", "sync/atomic.CompareAndSwapInt32", "internal/race.Enable", "internal/race.Acquire", "(*internal/sync.Mutex).lockSlow", "internal/sync.runtime_canSpin", "internal/sync.runtime_doSpin", "internal/sync.throw", "internal/sync.runtime_nanotime", "internal/sync.runtime_SemacquireMutex", "sync/atomic.AddInt32", "(*internal/sync.Mutex).Unlock", "internal/race.ReleaseMerge", "(*internal/sync.Mutex).unlockSlow", "internal/sync.fatal", "internal/sync.runtime_Semrelease", "sync/atomic.StoreUint32"], unfollowed := true, recurses := true, named := ["ledgerline/sha.roundConstants"], apart := false, laid := [("ledgerline/sha.roundConstants", laid_ledgerline_sha_roundConstants)] }
def LedgerSumsSaid : Prop := ledgerSumsRow.holds Tryz.pinned (OpenSpec.ofChange ledgerSumsSpec)

/-- ITS FALSE NEIGHBOUR: 'it returns false'. Refute it at one input. -/
def ledgerSumsWrong : ChangeSpec := { name := "ledgerSums", fn := fun _ => fun
  | [d1, d2, d3, d4] => { results := [.lit (.bool false)], args := [d1, d2, d3, d4] }
  | _ => none }
def LedgerSumsWrongFalsely : Prop := ledgerSumsRow.holds Tryz.pinned (OpenSpec.ofChange ledgerSumsWrong)

/-- 'ledgerlinelaw14.LedgerStays': WHATEVER THE INPUT: true; the input reads as it did. -/
def ledgerStaysSpec : ChangeSpec := { name := "ledgerStays", fn := fun _ => fun
  | [d1, d2] => { results := [.lit (.bool true)], args := [d1, d2] }
  | _ => none }
def ledgerStaysRow : OpenClaim := { program := "ytdmnjjknkcnkgaagreatdoor", sum := "fed6836c12617f18b00ca4cacc79e88a1716c18fd243ffbb9550a484405be0e5", func := "ledgerline/ledgerlinelaw14.LedgerStays", spec := "ledgerStays", inPlace := ["sync/atomic.LoadUint32", "(*internal/sync.Mutex).Lock", "internal/race.Disable", "sync/atomic.CompareAndSwapInt32", "internal/race.Enable", "internal/race.Acquire", "(*internal/sync.Mutex).lockSlow", "internal/sync.runtime_canSpin", "internal/sync.runtime_doSpin", "internal/sync.throw", "internal/sync.runtime_nanotime", "internal/sync.runtime_SemacquireMutex", "sync/atomic.AddInt32", "(*internal/sync.Mutex).Unlock", "internal/race.ReleaseMerge", "(*internal/sync.Mutex).unlockSlow", "internal/sync.fatal", "internal/sync.runtime_Semrelease", "sync/atomic.StoreUint32"], unfollowed := true, recurses := true, named := ["ledgerline/sha.roundConstants"], apart := false, laid := [("ledgerline/sha.roundConstants", laid_ledgerline_sha_roundConstants)] }
def LedgerStaysSaid : Prop := ledgerStaysRow.holds Tryz.pinned (OpenSpec.ofChange ledgerStaysSpec)

/-- ITS FALSE NEIGHBOUR: 'it returns false'. Refute it at one input. -/
def ledgerStaysWrong : ChangeSpec := { name := "ledgerStays", fn := fun _ => fun
  | [d1, d2] => { results := [.lit (.bool false)], args := [d1, d2] }
  | _ => none }
def LedgerStaysWrongFalsely : Prop := ledgerStaysRow.holds Tryz.pinned (OpenSpec.ofChange ledgerStaysWrong)

/-- 'ledgerlinelaw14.LedgerBlocks': WHATEVER THE INPUT: true; the input reads as it did. -/
def ledgerBlocksSpec : ChangeSpec := { name := "ledgerBlocks", fn := fun _ => fun
  | [d] => { results := [.lit (.bool true)], args := [d] }
  | _ => none }
def ledgerBlocksRow : OpenClaim := { program := "ytdmnjjknkcnkgaagreatdoor", sum := "fed6836c12617f18b00ca4cacc79e88a1716c18fd243ffbb9550a484405be0e5", func := "ledgerline/ledgerlinelaw14.LedgerBlocks", spec := "ledgerBlocks", inPlace := ["sync/atomic.LoadUint32", "(*internal/sync.Mutex).Lock", "internal/race.Disable", "sync/atomic.CompareAndSwapInt32", "internal/race.Enable", "internal/race.Acquire", "(*internal/sync.Mutex).lockSlow", "internal/sync.runtime_canSpin", "internal/sync.runtime_doSpin", "internal/sync.throw", "internal/sync.runtime_nanotime", "internal/sync.runtime_SemacquireMutex", "sync/atomic.AddInt32", "(*internal/sync.Mutex).Unlock", "internal/race.ReleaseMerge", "(*internal/sync.Mutex).unlockSlow", "internal/sync.fatal", "internal/sync.runtime_Semrelease", "sync/atomic.StoreUint32"], unfollowed := true, recurses := true, named := ["ledgerline/sha.roundConstants"], apart := false, laid := [("ledgerline/sha.roundConstants", laid_ledgerline_sha_roundConstants)] }
def LedgerBlocksSaid : Prop := ledgerBlocksRow.holds Tryz.pinned (OpenSpec.ofChange ledgerBlocksSpec)

/-- ITS FALSE NEIGHBOUR: 'it returns false'. Refute it at one input. -/
def ledgerBlocksWrong : ChangeSpec := { name := "ledgerBlocks", fn := fun _ => fun
  | [d] => { results := [.lit (.bool false)], args := [d] }
  | _ => none }
def LedgerBlocksWrongFalsely : Prop := ledgerBlocksRow.holds Tryz.pinned (OpenSpec.ofChange ledgerBlocksWrong)

/-- 'ledgerlinelaw14.LedgerCloses': WHATEVER THE INPUT: true; the input reads as it did. -/
def ledgerClosesSpec : ChangeSpec := { name := "ledgerCloses", fn := fun _ => fun
  | [d] => { results := [.lit (.bool true)], args := [d] }
  | _ => none }
def ledgerClosesRow : OpenClaim := { program := "ytdmnjjknkcnkgaagreatdoor", sum := "fed6836c12617f18b00ca4cacc79e88a1716c18fd243ffbb9550a484405be0e5", func := "ledgerline/ledgerlinelaw14.LedgerCloses", spec := "ledgerCloses", inPlace := ["sync/atomic.LoadUint32", "(*internal/sync.Mutex).Lock", "internal/race.Disable", "sync/atomic.CompareAndSwapInt32", "internal/race.Enable", "internal/race.Acquire", "(*internal/sync.Mutex).lockSlow", "internal/sync.runtime_canSpin", "internal/sync.runtime_doSpin", "internal/sync.throw", "internal/sync.runtime_nanotime", "internal/sync.runtime_SemacquireMutex", "sync/atomic.AddInt32", "(*internal/sync.Mutex).Unlock", "internal/race.ReleaseMerge", "(*internal/sync.Mutex).unlockSlow", "internal/sync.fatal", "internal/sync.runtime_Semrelease", "sync/atomic.StoreUint32"], unfollowed := true, recurses := true, named := ["ledgerline/sha.roundConstants"], apart := false, laid := [("ledgerline/sha.roundConstants", laid_ledgerline_sha_roundConstants)] }
def LedgerClosesSaid : Prop := ledgerClosesRow.holds Tryz.pinned (OpenSpec.ofChange ledgerClosesSpec)

/-- ITS FALSE NEIGHBOUR: 'it returns false'. Refute it at one input. -/
def ledgerClosesWrong : ChangeSpec := { name := "ledgerCloses", fn := fun _ => fun
  | [d] => { results := [.lit (.bool false)], args := [d] }
  | _ => none }
def LedgerClosesWrongFalsely : Prop := ledgerClosesRow.holds Tryz.pinned (OpenSpec.ofChange ledgerClosesWrong)

/-- 'ledgerlinelaw15.ReceiptMakes': WHATEVER THE INPUT: true; the input reads as it did. -/
def receiptMakesSpec : ChangeSpec := { name := "receiptMakes", fn := fun _ => fun
  | [d1, d2, d3] => { results := [.lit (.bool true)], args := [d1, d2, d3] }
  | _ => none }
def receiptMakesRow : OpenClaim := { program := "ytdmnjjknkcnkgaagreatdoor", sum := "fed6836c12617f18b00ca4cacc79e88a1716c18fd243ffbb9550a484405be0e5", func := "ledgerline/ledgerlinelaw15.ReceiptMakes", spec := "receiptMakes", inPlace := ["sync/atomic.LoadUint32", "(*internal/sync.Mutex).Lock", "internal/race.Disable", "sync/atomic.CompareAndSwapInt32", "internal/race.Enable", "internal/race.Acquire", "(*internal/sync.Mutex).lockSlow", "internal/sync.runtime_canSpin", "internal/sync.runtime_doSpin", "internal/sync.throw", "internal/sync.runtime_nanotime", "internal/sync.runtime_SemacquireMutex", "sync/atomic.AddInt32", "(*internal/sync.Mutex).Unlock", "internal/race.ReleaseMerge", "(*internal/sync.Mutex).unlockSlow", "internal/sync.fatal", "internal/sync.runtime_Semrelease", "sync/atomic.StoreUint32"], unfollowed := true, recurses := true, named := ["ledgerline/sha.roundConstants"], apart := false, laid := [("ledgerline/sha.roundConstants", laid_ledgerline_sha_roundConstants)] }
def ReceiptMakesSaid : Prop := receiptMakesRow.holds Tryz.pinned (OpenSpec.ofChange receiptMakesSpec)

/-- ITS FALSE NEIGHBOUR: 'it returns false'. Refute it at one input. -/
def receiptMakesWrong : ChangeSpec := { name := "receiptMakes", fn := fun _ => fun
  | [d1, d2, d3] => { results := [.lit (.bool false)], args := [d1, d2, d3] }
  | _ => none }
def ReceiptMakesWrongFalsely : Prop := receiptMakesRow.holds Tryz.pinned (OpenSpec.ofChange receiptMakesWrong)

/-- 'ledgerlinelaw15.ReceiptAll': WHATEVER THE INPUT: true; the input reads as it did. -/
def receiptAllSpec : ChangeSpec := { name := "receiptAll", fn := fun _ => fun
  | [d] => { results := [.lit (.bool true)], args := [d] }
  | _ => none }
def receiptAllRow : OpenClaim := { program := "ytdmnjjknkcnkgaagreatdoor", sum := "fed6836c12617f18b00ca4cacc79e88a1716c18fd243ffbb9550a484405be0e5", func := "ledgerline/ledgerlinelaw15.ReceiptAll", spec := "receiptAll", inPlace := ["sync/atomic.LoadUint32", "(*internal/sync.Mutex).Lock", "internal/race.Disable", "sync/atomic.CompareAndSwapInt32", "internal/race.Enable", "internal/race.Acquire", "(*internal/sync.Mutex).lockSlow", "internal/sync.runtime_canSpin", "internal/sync.runtime_doSpin", "internal/sync.throw", "internal/sync.runtime_nanotime", "internal/sync.runtime_SemacquireMutex", "sync/atomic.AddInt32", "(*internal/sync.Mutex).Unlock", "internal/race.ReleaseMerge", "(*internal/sync.Mutex).unlockSlow", "internal/sync.fatal", "internal/sync.runtime_Semrelease", "sync/atomic.StoreUint32"], unfollowed := true, recurses := true, named := ["ledgerline/sha.roundConstants"], apart := false, laid := [("ledgerline/sha.roundConstants", laid_ledgerline_sha_roundConstants)] }
def ReceiptAllSaid : Prop := receiptAllRow.holds Tryz.pinned (OpenSpec.ofChange receiptAllSpec)

/-- ITS FALSE NEIGHBOUR: 'it returns false'. Refute it at one input. -/
def receiptAllWrong : ChangeSpec := { name := "receiptAll", fn := fun _ => fun
  | [d] => { results := [.lit (.bool false)], args := [d] }
  | _ => none }
def ReceiptAllWrongFalsely : Prop := receiptAllRow.holds Tryz.pinned (OpenSpec.ofChange receiptAllWrong)

/-- 'ledgerlinelaw15.ReceiptOther': WHATEVER THE INPUT: true; the input reads as it did. -/
def receiptOtherSpec : ChangeSpec := { name := "receiptOther", fn := fun _ => fun
  | [d1, d2, d3] => { results := [.lit (.bool true)], args := [d1, d2, d3] }
  | _ => none }
def receiptOtherRow : OpenClaim := { program := "ytdmnjjknkcnkgaagreatdoor", sum := "fed6836c12617f18b00ca4cacc79e88a1716c18fd243ffbb9550a484405be0e5", func := "ledgerline/ledgerlinelaw15.ReceiptOther", spec := "receiptOther", inPlace := ["sync/atomic.LoadUint32", "(*internal/sync.Mutex).Lock", "internal/race.Disable", "sync/atomic.CompareAndSwapInt32", "internal/race.Enable", "internal/race.Acquire", "(*internal/sync.Mutex).lockSlow", "internal/sync.runtime_canSpin", "internal/sync.runtime_doSpin", "internal/sync.throw", "internal/sync.runtime_nanotime", "internal/sync.runtime_SemacquireMutex", "sync/atomic.AddInt32", "(*internal/sync.Mutex).Unlock", "internal/race.ReleaseMerge", "(*internal/sync.Mutex).unlockSlow", "internal/sync.fatal", "internal/sync.runtime_Semrelease", "sync/atomic.StoreUint32"], unfollowed := true, recurses := true, named := ["ledgerline/sha.roundConstants"], apart := false, laid := [("ledgerline/sha.roundConstants", laid_ledgerline_sha_roundConstants)] }
def ReceiptOtherSaid : Prop := receiptOtherRow.holds Tryz.pinned (OpenSpec.ofChange receiptOtherSpec)

/-- ITS FALSE NEIGHBOUR: 'it returns false'. Refute it at one input. -/
def receiptOtherWrong : ChangeSpec := { name := "receiptOther", fn := fun _ => fun
  | [d1, d2, d3] => { results := [.lit (.bool false)], args := [d1, d2, d3] }
  | _ => none }
def ReceiptOtherWrongFalsely : Prop := receiptOtherRow.holds Tryz.pinned (OpenSpec.ofChange receiptOtherWrong)

/-- 'ledgerlinelaw15.ReceiptLong': WHATEVER THE INPUT: true; the input reads as it did. -/
def receiptLongSpec : ChangeSpec := { name := "receiptLong", fn := fun _ => fun
  | [d] => { results := [.lit (.bool true)], args := [d] }
  | _ => none }
def receiptLongRow : OpenClaim := { program := "ytdmnjjknkcnkgaagreatdoor", sum := "fed6836c12617f18b00ca4cacc79e88a1716c18fd243ffbb9550a484405be0e5", func := "ledgerline/ledgerlinelaw15.ReceiptLong", spec := "receiptLong", inPlace := ["sync/atomic.LoadUint32", "(*internal/sync.Mutex).Lock", "internal/race.Disable", "sync/atomic.CompareAndSwapInt32", "internal/race.Enable", "internal/race.Acquire", "(*internal/sync.Mutex).lockSlow", "internal/sync.runtime_canSpin", "internal/sync.runtime_doSpin", "internal/sync.throw", "internal/sync.runtime_nanotime", "internal/sync.runtime_SemacquireMutex", "sync/atomic.AddInt32", "(*internal/sync.Mutex).Unlock", "internal/race.ReleaseMerge", "(*internal/sync.Mutex).unlockSlow", "internal/sync.fatal", "internal/sync.runtime_Semrelease", "sync/atomic.StoreUint32"], unfollowed := true, recurses := true, named := ["ledgerline/sha.roundConstants"], apart := false, laid := [("ledgerline/sha.roundConstants", laid_ledgerline_sha_roundConstants)] }
def ReceiptLongSaid : Prop := receiptLongRow.holds Tryz.pinned (OpenSpec.ofChange receiptLongSpec)

/-- ITS FALSE NEIGHBOUR: 'it returns false'. Refute it at one input. -/
def receiptLongWrong : ChangeSpec := { name := "receiptLong", fn := fun _ => fun
  | [d] => { results := [.lit (.bool false)], args := [d] }
  | _ => none }
def ReceiptLongWrongFalsely : Prop := receiptLongRow.holds Tryz.pinned (OpenSpec.ofChange receiptLongWrong)

/-- 'ledgerlinelaw15.ReceiptStays': WHATEVER THE INPUT: true; the input reads as it did. -/
def receiptStaysSpec : ChangeSpec := { name := "receiptStays", fn := fun _ => fun
  | [d1, d2, d3] => { results := [.lit (.bool true)], args := [d1, d2, d3] }
  | _ => none }
def receiptStaysRow : OpenClaim := { program := "ytdmnjjknkcnkgaagreatdoor", sum := "fed6836c12617f18b00ca4cacc79e88a1716c18fd243ffbb9550a484405be0e5", func := "ledgerline/ledgerlinelaw15.ReceiptStays", spec := "receiptStays", inPlace := ["sync/atomic.LoadUint32", "(*internal/sync.Mutex).Lock", "internal/race.Disable", "sync/atomic.CompareAndSwapInt32", "internal/race.Enable", "internal/race.Acquire", "(*internal/sync.Mutex).lockSlow", "internal/sync.runtime_canSpin", "internal/sync.runtime_doSpin", "internal/sync.throw", "internal/sync.runtime_nanotime", "internal/sync.runtime_SemacquireMutex", "sync/atomic.AddInt32", "(*internal/sync.Mutex).Unlock", "internal/race.ReleaseMerge", "(*internal/sync.Mutex).unlockSlow", "internal/sync.fatal", "internal/sync.runtime_Semrelease", "sync/atomic.StoreUint32"], unfollowed := true, recurses := true, named := ["ledgerline/sha.roundConstants"], apart := false, laid := [("ledgerline/sha.roundConstants", laid_ledgerline_sha_roundConstants)] }
def ReceiptStaysSaid : Prop := receiptStaysRow.holds Tryz.pinned (OpenSpec.ofChange receiptStaysSpec)

/-- ITS FALSE NEIGHBOUR: 'it returns false'. Refute it at one input. -/
def receiptStaysWrong : ChangeSpec := { name := "receiptStays", fn := fun _ => fun
  | [d1, d2, d3] => { results := [.lit (.bool false)], args := [d1, d2, d3] }
  | _ => none }
def ReceiptStaysWrongFalsely : Prop := receiptStaysRow.holds Tryz.pinned (OpenSpec.ofChange receiptStaysWrong)

/- THE SECOND FORM. 'bulk': how many values and letters a reading holds, each counted each time it is reached (what is shared counts as often as it is met; a slice's spare places count too). A statement '..UptoSaid' is the law's where the arguments, and the package variables that the reading takes, are together of bulk at most 1048576: NARROWER than '..Said'. Prove '..Said' where nothing that the law and all that it calls make is longer than what came in: it says more and counts as full. Else prove '..UptoSaid'. A law counts once. -/
mutual
def uptoBulk {H : Type} : DataW H → Nat
  | .lit (.string bytes) => bytes.length + 1
  | .lit _ => 1
  | .nil => 1
  | .ptr d => uptoBulk d + 1
  | .slice elems spare => uptoBulkAll elems + uptoBulkAll spare + 1
  | .agg parts => uptoBulkAll parts + 1
  | .iface _ d => uptoBulk d + 1
  | .map entries => uptoBulkEntries entries + 1
  | .held _ => 1
def uptoBulkAll {H : Type} : List (DataW H) → Nat
  | [] => 0
  | d :: r => uptoBulk d + uptoBulkAll r
def uptoBulkEntries {H : Type} : List (Lit × DataW H) → Nat
  | [] => 0
  | x :: r => uptoBulkEntry x + uptoBulkEntries r
def uptoBulkEntry {H : Type} : Lit × DataW H → Nat
  | (.string bytes, d) => bytes.length + uptoBulk d + 1
  | (_, d) => uptoBulk d + 1
 end
def uptoSmall : (H : Type) → List (DataW H) → Bool := fun _ ds => decide (uptoBulkAll ds ≤ 1048576)
def OpenSpec.upto (s : _root_.Go.ChangeSpec) : _root_.Go.OpenSpec := { _root_.Go.OpenSpec.ofChange s with cond := some uptoSmall }

/-- 'ledgerlinelaw14.LedgerPlays', WHERE WHAT IT READS IS OF BULK AT MOST 1048576: true; the input reads as it did. -/
def ledgerPlaysUptoRow : OpenClaim := { program := "ytdmnjjknkcnkgaagreatdoor", sum := "fed6836c12617f18b00ca4cacc79e88a1716c18fd243ffbb9550a484405be0e5", func := "ledgerline/ledgerlinelaw14.LedgerPlays", spec := "ledgerPlays", inPlace := ["sync/atomic.LoadUint32", "(*internal/sync.Mutex).Lock", "internal/race.Disable", "sync/atomic.CompareAndSwapInt32", "internal/race.Enable", "internal/race.Acquire", "(*internal/sync.Mutex).lockSlow", "internal/sync.runtime_canSpin", "internal/sync.runtime_doSpin", "internal/sync.throw", "internal/sync.runtime_nanotime", "internal/sync.runtime_SemacquireMutex", "sync/atomic.AddInt32", "(*internal/sync.Mutex).Unlock", "internal/race.ReleaseMerge", "(*internal/sync.Mutex).unlockSlow", "internal/sync.fatal", "internal/sync.runtime_Semrelease", "sync/atomic.StoreUint32"], unfollowed := true, recurses := true, named := ["ledgerline/sha.roundConstants"], apart := false, laid := [("ledgerline/sha.roundConstants", laid_ledgerline_sha_roundConstants)], narrowed := true }
def LedgerPlaysUptoSaid : Prop := ledgerPlaysUptoRow.holds Tryz.pinned (OpenSpec.upto ledgerPlaysSpec)

/-- 'ledgerlinelaw14.LedgerSums', WHERE WHAT IT READS IS OF BULK AT MOST 1048576: true; the input reads as it did. -/
def ledgerSumsUptoRow : OpenClaim := { program := "ytdmnjjknkcnkgaagreatdoor", sum := "fed6836c12617f18b00ca4cacc79e88a1716c18fd243ffbb9550a484405be0e5", func := "ledgerline/ledgerlinelaw14.LedgerSums", spec := "ledgerSums", inPlace := ["sync/atomic.LoadUint32", "(*internal/sync.Mutex).Lock", "internal/race.Disable", "sync/atomic.CompareAndSwapInt32", "internal/race.Enable", "internal/race.Acquire", "(*internal/sync.Mutex).lockSlow", "internal/sync.runtime_canSpin", "internal/sync.runtime_doSpin", "internal/sync.throw", "internal/sync.runtime_nanotime", "internal/sync.runtime_SemacquireMutex", "sync/atomic.AddInt32", "(*internal/sync.Mutex).Unlock", "internal/race.ReleaseMerge", "(*internal/sync.Mutex).unlockSlow", "internal/sync.fatal", "internal/sync.runtime_Semrelease", "sync/atomic.StoreUint32"], unfollowed := true, recurses := true, named := ["ledgerline/sha.roundConstants"], apart := false, laid := [("ledgerline/sha.roundConstants", laid_ledgerline_sha_roundConstants)], narrowed := true }
def LedgerSumsUptoSaid : Prop := ledgerSumsUptoRow.holds Tryz.pinned (OpenSpec.upto ledgerSumsSpec)

/-- 'ledgerlinelaw14.LedgerStays', WHERE WHAT IT READS IS OF BULK AT MOST 1048576: true; the input reads as it did. -/
def ledgerStaysUptoRow : OpenClaim := { program := "ytdmnjjknkcnkgaagreatdoor", sum := "fed6836c12617f18b00ca4cacc79e88a1716c18fd243ffbb9550a484405be0e5", func := "ledgerline/ledgerlinelaw14.LedgerStays", spec := "ledgerStays", inPlace := ["sync/atomic.LoadUint32", "(*internal/sync.Mutex).Lock", "internal/race.Disable", "sync/atomic.CompareAndSwapInt32", "internal/race.Enable", "internal/race.Acquire", "(*internal/sync.Mutex).lockSlow", "internal/sync.runtime_canSpin", "internal/sync.runtime_doSpin", "internal/sync.throw", "internal/sync.runtime_nanotime", "internal/sync.runtime_SemacquireMutex", "sync/atomic.AddInt32", "(*internal/sync.Mutex).Unlock", "internal/race.ReleaseMerge", "(*internal/sync.Mutex).unlockSlow", "internal/sync.fatal", "internal/sync.runtime_Semrelease", "sync/atomic.StoreUint32"], unfollowed := true, recurses := true, named := ["ledgerline/sha.roundConstants"], apart := false, laid := [("ledgerline/sha.roundConstants", laid_ledgerline_sha_roundConstants)], narrowed := true }
def LedgerStaysUptoSaid : Prop := ledgerStaysUptoRow.holds Tryz.pinned (OpenSpec.upto ledgerStaysSpec)

/-- 'ledgerlinelaw14.LedgerBlocks', WHERE WHAT IT READS IS OF BULK AT MOST 1048576: true; the input reads as it did. -/
def ledgerBlocksUptoRow : OpenClaim := { program := "ytdmnjjknkcnkgaagreatdoor", sum := "fed6836c12617f18b00ca4cacc79e88a1716c18fd243ffbb9550a484405be0e5", func := "ledgerline/ledgerlinelaw14.LedgerBlocks", spec := "ledgerBlocks", inPlace := ["sync/atomic.LoadUint32", "(*internal/sync.Mutex).Lock", "internal/race.Disable", "sync/atomic.CompareAndSwapInt32", "internal/race.Enable", "internal/race.Acquire", "(*internal/sync.Mutex).lockSlow", "internal/sync.runtime_canSpin", "internal/sync.runtime_doSpin", "internal/sync.throw", "internal/sync.runtime_nanotime", "internal/sync.runtime_SemacquireMutex", "sync/atomic.AddInt32", "(*internal/sync.Mutex).Unlock", "internal/race.ReleaseMerge", "(*internal/sync.Mutex).unlockSlow", "internal/sync.fatal", "internal/sync.runtime_Semrelease", "sync/atomic.StoreUint32"], unfollowed := true, recurses := true, named := ["ledgerline/sha.roundConstants"], apart := false, laid := [("ledgerline/sha.roundConstants", laid_ledgerline_sha_roundConstants)], narrowed := true }
def LedgerBlocksUptoSaid : Prop := ledgerBlocksUptoRow.holds Tryz.pinned (OpenSpec.upto ledgerBlocksSpec)

/-- 'ledgerlinelaw14.LedgerCloses', WHERE WHAT IT READS IS OF BULK AT MOST 1048576: true; the input reads as it did. -/
def ledgerClosesUptoRow : OpenClaim := { program := "ytdmnjjknkcnkgaagreatdoor", sum := "fed6836c12617f18b00ca4cacc79e88a1716c18fd243ffbb9550a484405be0e5", func := "ledgerline/ledgerlinelaw14.LedgerCloses", spec := "ledgerCloses", inPlace := ["sync/atomic.LoadUint32", "(*internal/sync.Mutex).Lock", "internal/race.Disable", "sync/atomic.CompareAndSwapInt32", "internal/race.Enable", "internal/race.Acquire", "(*internal/sync.Mutex).lockSlow", "internal/sync.runtime_canSpin", "internal/sync.runtime_doSpin", "internal/sync.throw", "internal/sync.runtime_nanotime", "internal/sync.runtime_SemacquireMutex", "sync/atomic.AddInt32", "(*internal/sync.Mutex).Unlock", "internal/race.ReleaseMerge", "(*internal/sync.Mutex).unlockSlow", "internal/sync.fatal", "internal/sync.runtime_Semrelease", "sync/atomic.StoreUint32"], unfollowed := true, recurses := true, named := ["ledgerline/sha.roundConstants"], apart := false, laid := [("ledgerline/sha.roundConstants", laid_ledgerline_sha_roundConstants)], narrowed := true }
def LedgerClosesUptoSaid : Prop := ledgerClosesUptoRow.holds Tryz.pinned (OpenSpec.upto ledgerClosesSpec)

/-- 'ledgerlinelaw15.ReceiptMakes', WHERE WHAT IT READS IS OF BULK AT MOST 1048576: true; the input reads as it did. -/
def receiptMakesUptoRow : OpenClaim := { program := "ytdmnjjknkcnkgaagreatdoor", sum := "fed6836c12617f18b00ca4cacc79e88a1716c18fd243ffbb9550a484405be0e5", func := "ledgerline/ledgerlinelaw15.ReceiptMakes", spec := "receiptMakes", inPlace := ["sync/atomic.LoadUint32", "(*internal/sync.Mutex).Lock", "internal/race.Disable", "sync/atomic.CompareAndSwapInt32", "internal/race.Enable", "internal/race.Acquire", "(*internal/sync.Mutex).lockSlow", "internal/sync.runtime_canSpin", "internal/sync.runtime_doSpin", "internal/sync.throw", "internal/sync.runtime_nanotime", "internal/sync.runtime_SemacquireMutex", "sync/atomic.AddInt32", "(*internal/sync.Mutex).Unlock", "internal/race.ReleaseMerge", "(*internal/sync.Mutex).unlockSlow", "internal/sync.fatal", "internal/sync.runtime_Semrelease", "sync/atomic.StoreUint32"], unfollowed := true, recurses := true, named := ["ledgerline/sha.roundConstants"], apart := false, laid := [("ledgerline/sha.roundConstants", laid_ledgerline_sha_roundConstants)], narrowed := true }
def ReceiptMakesUptoSaid : Prop := receiptMakesUptoRow.holds Tryz.pinned (OpenSpec.upto receiptMakesSpec)

/-- 'ledgerlinelaw15.ReceiptAll', WHERE WHAT IT READS IS OF BULK AT MOST 1048576: true; the input reads as it did. -/
def receiptAllUptoRow : OpenClaim := { program := "ytdmnjjknkcnkgaagreatdoor", sum := "fed6836c12617f18b00ca4cacc79e88a1716c18fd243ffbb9550a484405be0e5", func := "ledgerline/ledgerlinelaw15.ReceiptAll", spec := "receiptAll", inPlace := ["sync/atomic.LoadUint32", "(*internal/sync.Mutex).Lock", "internal/race.Disable", "sync/atomic.CompareAndSwapInt32", "internal/race.Enable", "internal/race.Acquire", "(*internal/sync.Mutex).lockSlow", "internal/sync.runtime_canSpin", "internal/sync.runtime_doSpin", "internal/sync.throw", "internal/sync.runtime_nanotime", "internal/sync.runtime_SemacquireMutex", "sync/atomic.AddInt32", "(*internal/sync.Mutex).Unlock", "internal/race.ReleaseMerge", "(*internal/sync.Mutex).unlockSlow", "internal/sync.fatal", "internal/sync.runtime_Semrelease", "sync/atomic.StoreUint32"], unfollowed := true, recurses := true, named := ["ledgerline/sha.roundConstants"], apart := false, laid := [("ledgerline/sha.roundConstants", laid_ledgerline_sha_roundConstants)], narrowed := true }
def ReceiptAllUptoSaid : Prop := receiptAllUptoRow.holds Tryz.pinned (OpenSpec.upto receiptAllSpec)

/-- 'ledgerlinelaw15.ReceiptOther', WHERE WHAT IT READS IS OF BULK AT MOST 1048576: true; the input reads as it did. -/
def receiptOtherUptoRow : OpenClaim := { program := "ytdmnjjknkcnkgaagreatdoor", sum := "fed6836c12617f18b00ca4cacc79e88a1716c18fd243ffbb9550a484405be0e5", func := "ledgerline/ledgerlinelaw15.ReceiptOther", spec := "receiptOther", inPlace := ["sync/atomic.LoadUint32", "(*internal/sync.Mutex).Lock", "internal/race.Disable", "sync/atomic.CompareAndSwapInt32", "internal/race.Enable", "internal/race.Acquire", "(*internal/sync.Mutex).lockSlow", "internal/sync.runtime_canSpin", "internal/sync.runtime_doSpin", "internal/sync.throw", "internal/sync.runtime_nanotime", "internal/sync.runtime_SemacquireMutex", "sync/atomic.AddInt32", "(*internal/sync.Mutex).Unlock", "internal/race.ReleaseMerge", "(*internal/sync.Mutex).unlockSlow", "internal/sync.fatal", "internal/sync.runtime_Semrelease", "sync/atomic.StoreUint32"], unfollowed := true, recurses := true, named := ["ledgerline/sha.roundConstants"], apart := false, laid := [("ledgerline/sha.roundConstants", laid_ledgerline_sha_roundConstants)], narrowed := true }
def ReceiptOtherUptoSaid : Prop := receiptOtherUptoRow.holds Tryz.pinned (OpenSpec.upto receiptOtherSpec)

/-- 'ledgerlinelaw15.ReceiptLong', WHERE WHAT IT READS IS OF BULK AT MOST 1048576: true; the input reads as it did. -/
def receiptLongUptoRow : OpenClaim := { program := "ytdmnjjknkcnkgaagreatdoor", sum := "fed6836c12617f18b00ca4cacc79e88a1716c18fd243ffbb9550a484405be0e5", func := "ledgerline/ledgerlinelaw15.ReceiptLong", spec := "receiptLong", inPlace := ["sync/atomic.LoadUint32", "(*internal/sync.Mutex).Lock", "internal/race.Disable", "sync/atomic.CompareAndSwapInt32", "internal/race.Enable", "internal/race.Acquire", "(*internal/sync.Mutex).lockSlow", "internal/sync.runtime_canSpin", "internal/sync.runtime_doSpin", "internal/sync.throw", "internal/sync.runtime_nanotime", "internal/sync.runtime_SemacquireMutex", "sync/atomic.AddInt32", "(*internal/sync.Mutex).Unlock", "internal/race.ReleaseMerge", "(*internal/sync.Mutex).unlockSlow", "internal/sync.fatal", "internal/sync.runtime_Semrelease", "sync/atomic.StoreUint32"], unfollowed := true, recurses := true, named := ["ledgerline/sha.roundConstants"], apart := false, laid := [("ledgerline/sha.roundConstants", laid_ledgerline_sha_roundConstants)], narrowed := true }
def ReceiptLongUptoSaid : Prop := receiptLongUptoRow.holds Tryz.pinned (OpenSpec.upto receiptLongSpec)

/-- 'ledgerlinelaw15.ReceiptStays', WHERE WHAT IT READS IS OF BULK AT MOST 1048576: true; the input reads as it did. -/
def receiptStaysUptoRow : OpenClaim := { program := "ytdmnjjknkcnkgaagreatdoor", sum := "fed6836c12617f18b00ca4cacc79e88a1716c18fd243ffbb9550a484405be0e5", func := "ledgerline/ledgerlinelaw15.ReceiptStays", spec := "receiptStays", inPlace := ["sync/atomic.LoadUint32", "(*internal/sync.Mutex).Lock", "internal/race.Disable", "sync/atomic.CompareAndSwapInt32", "internal/race.Enable", "internal/race.Acquire", "(*internal/sync.Mutex).lockSlow", "internal/sync.runtime_canSpin", "internal/sync.runtime_doSpin", "internal/sync.throw", "internal/sync.runtime_nanotime", "internal/sync.runtime_SemacquireMutex", "sync/atomic.AddInt32", "(*internal/sync.Mutex).Unlock", "internal/race.ReleaseMerge", "(*internal/sync.Mutex).unlockSlow", "internal/sync.fatal", "internal/sync.runtime_Semrelease", "sync/atomic.StoreUint32"], unfollowed := true, recurses := true, named := ["ledgerline/sha.roundConstants"], apart := false, laid := [("ledgerline/sha.roundConstants", laid_ledgerline_sha_roundConstants)], narrowed := true }
def ReceiptStaysUptoSaid : Prop := receiptStaysUptoRow.holds Tryz.pinned (OpenSpec.upto receiptStaysSpec)

end Rows
end Go.Proofs.YtdmnjjknkcnkgaaGreatDoor

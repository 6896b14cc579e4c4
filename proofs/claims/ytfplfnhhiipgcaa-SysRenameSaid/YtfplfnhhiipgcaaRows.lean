/-
  No cell of these rows narrows 'for every input' (looked for: loops, veiled, ifaces, maps, wideKeys, modest, calm, conditions, laid).
  DERIVED. THE GIVEN ROWS OF THIS SEAT. 7 by the template 'for every input the law returns true; each argument reads behind the call as it read before'; 0 by the template 'total and deterministic' (their statements: YtfplfnhhiipgcaaTotals.lean).
  GIVEN WITH THE SEED: the statements are not yours to turn. If you find one false, say at which input.
  Laid BY PROGRAM, IN A SANDBOX (cutbox-rows.mjs): the forced cells as the released guide's own fill.sh prints them over the translation 96d7fc7712da06f2… (all of the seat's roots in one cut). By AI agents, Wed Nov 11 2026. No macro, syntax, notation, axiom, sorry.
-/
import Derived.Test.YtfplfnhhiipgcaaChecked
import GoSem.Claim
import GoSem.ClaimJoined
import GoSem.ClaimMapViews
import Derived.JoinedTies
import Derived.KernelRfl
namespace Go.Proofs.Ytfplfnhhiipgcaa
/- THE CELL 'sum', in the pinned program and in every row, IS THE sha256 OF THE DUMP (.gsa) THAT YtfplfnhhiipgcaaProg.lean LOADS. Nothing in Lean hashes anything: it is a label: what it is worth is what the hold of that sum in a sandbox is worth. -/
noncomputable def Try.pinned : Pinned := { name := "ytfplfnhhiipgcaa", sum := "96d7fc7712da06f298b2f6e7b5a36060c3edcc366c91b5051f9ee54dc237a8d2", checked := Try.checked }
namespace Rows
def none {H : Type} : Left H := { results := [], args := [] }

/-- 'milllaw1.SysTape': WHATEVER THE INPUT: true; the input reads as it did. -/
def sysTapeSpec : ChangeSpec := { name := "sysTape", fn := fun _ => fun
  | [d1, d2, d3, d4] => { results := [.lit (.bool true)], args := [d1, d2, d3, d4] }
  | _ => none }
def sysTapeRow : OpenClaim := { program := "ytfplfnhhiipgcaa", sum := "96d7fc7712da06f298b2f6e7b5a36060c3edcc366c91b5051f9ee54dc237a8d2", func := "mill/milllaw1.SysTape", spec := "sysTape", inPlace := ["(*internal/sync.Mutex).Lock", "internal/race.Disable", "sync/atomic.CompareAndSwapInt32", "internal/race.Enable", "internal/race.Acquire", "(*internal/sync.Mutex).lockSlow", "internal/sync.runtime_canSpin", "internal/sync.runtime_doSpin", "internal/sync.throw", "internal/sync.runtime_nanotime", "internal/sync.runtime_SemacquireMutex", "sync/atomic.AddInt32", "(*internal/sync.Mutex).Unlock", "internal/race.ReleaseMerge", "(*internal/sync.Mutex).unlockSlow", "internal/sync.fatal", "internal/sync.runtime_Semrelease", "internal/bytealg.IndexByteString"], unfollowed := true, recurses := true, apart := false }
def SysTapeSaid : Prop := sysTapeRow.holds Try.pinned (OpenSpec.ofChange sysTapeSpec)

/-- ITS FALSE NEIGHBOUR: 'it returns false'. Refute it at one input. -/
def sysTapeWrong : ChangeSpec := { name := "sysTape", fn := fun _ => fun
  | [d1, d2, d3, d4] => { results := [.lit (.bool false)], args := [d1, d2, d3, d4] }
  | _ => none }
def SysTapeWrongFalsely : Prop := sysTapeRow.holds Try.pinned (OpenSpec.ofChange sysTapeWrong)

/-- 'milllaw1.SysRename': WHATEVER THE INPUT: true; the input reads as it did. -/
def sysRenameSpec : ChangeSpec := { name := "sysRename", fn := fun _ => fun
  | [d1, d2, d3, d4] => { results := [.lit (.bool true)], args := [d1, d2, d3, d4] }
  | _ => none }
def sysRenameRow : OpenClaim := { program := "ytfplfnhhiipgcaa", sum := "96d7fc7712da06f298b2f6e7b5a36060c3edcc366c91b5051f9ee54dc237a8d2", func := "mill/milllaw1.SysRename", spec := "sysRename", inPlace := ["(*internal/sync.Mutex).Lock", "internal/race.Disable", "sync/atomic.CompareAndSwapInt32", "internal/race.Enable", "internal/race.Acquire", "(*internal/sync.Mutex).lockSlow", "internal/sync.runtime_canSpin", "internal/sync.runtime_doSpin", "internal/sync.throw", "internal/sync.runtime_nanotime", "internal/sync.runtime_SemacquireMutex", "sync/atomic.AddInt32", "(*internal/sync.Mutex).Unlock", "internal/race.ReleaseMerge", "(*internal/sync.Mutex).unlockSlow", "internal/sync.fatal", "internal/sync.runtime_Semrelease", "internal/bytealg.IndexByteString"], unfollowed := true, recurses := true, apart := false }
def SysRenameSaid : Prop := sysRenameRow.holds Try.pinned (OpenSpec.ofChange sysRenameSpec)

/-- ITS FALSE NEIGHBOUR: 'it returns false'. Refute it at one input. -/
def sysRenameWrong : ChangeSpec := { name := "sysRename", fn := fun _ => fun
  | [d1, d2, d3, d4] => { results := [.lit (.bool false)], args := [d1, d2, d3, d4] }
  | _ => none }
def SysRenameWrongFalsely : Prop := sysRenameRow.holds Try.pinned (OpenSpec.ofChange sysRenameWrong)

/-- 'milllaw1.SysRoom': WHATEVER THE INPUT: true; the input reads as it did. -/
def sysRoomSpec : ChangeSpec := { name := "sysRoom", fn := fun _ => fun
  | [d1, d2, d3] => { results := [.lit (.bool true)], args := [d1, d2, d3] }
  | _ => none }
def sysRoomRow : OpenClaim := { program := "ytfplfnhhiipgcaa", sum := "96d7fc7712da06f298b2f6e7b5a36060c3edcc366c91b5051f9ee54dc237a8d2", func := "mill/milllaw1.SysRoom", spec := "sysRoom", inPlace := ["(*internal/sync.Mutex).Lock", "internal/race.Disable", "sync/atomic.CompareAndSwapInt32", "internal/race.Enable", "internal/race.Acquire", "(*internal/sync.Mutex).lockSlow", "internal/sync.runtime_canSpin", "internal/sync.runtime_doSpin", "internal/sync.throw", "internal/sync.runtime_nanotime", "internal/sync.runtime_SemacquireMutex", "sync/atomic.AddInt32", "(*internal/sync.Mutex).Unlock", "internal/race.ReleaseMerge", "(*internal/sync.Mutex).unlockSlow", "internal/sync.fatal", "internal/sync.runtime_Semrelease", "internal/bytealg.IndexByteString"], unfollowed := true, recurses := true, apart := false }
def SysRoomSaid : Prop := sysRoomRow.holds Try.pinned (OpenSpec.ofChange sysRoomSpec)

/-- ITS FALSE NEIGHBOUR: 'it returns false'. Refute it at one input. -/
def sysRoomWrong : ChangeSpec := { name := "sysRoom", fn := fun _ => fun
  | [d1, d2, d3] => { results := [.lit (.bool false)], args := [d1, d2, d3] }
  | _ => none }
def SysRoomWrongFalsely : Prop := sysRoomRow.holds Try.pinned (OpenSpec.ofChange sysRoomWrong)

/-- 'milllaw1.SysFault': WHATEVER THE INPUT: true; the input reads as it did. -/
def sysFaultSpec : ChangeSpec := { name := "sysFault", fn := fun _ => fun
  | [d1, d2] => { results := [.lit (.bool true)], args := [d1, d2] }
  | _ => none }
def sysFaultRow : OpenClaim := { program := "ytfplfnhhiipgcaa", sum := "96d7fc7712da06f298b2f6e7b5a36060c3edcc366c91b5051f9ee54dc237a8d2", func := "mill/milllaw1.SysFault", spec := "sysFault", inPlace := ["(*internal/sync.Mutex).Lock", "internal/race.Disable", "sync/atomic.CompareAndSwapInt32", "internal/race.Enable", "internal/race.Acquire", "(*internal/sync.Mutex).lockSlow", "internal/sync.runtime_canSpin", "internal/sync.runtime_doSpin", "internal/sync.throw", "internal/sync.runtime_nanotime", "internal/sync.runtime_SemacquireMutex", "sync/atomic.AddInt32", "(*internal/sync.Mutex).Unlock", "internal/race.ReleaseMerge", "(*internal/sync.Mutex).unlockSlow", "internal/sync.fatal", "internal/sync.runtime_Semrelease", "internal/bytealg.IndexByteString"], unfollowed := true, recurses := true, apart := false }
def SysFaultSaid : Prop := sysFaultRow.holds Try.pinned (OpenSpec.ofChange sysFaultSpec)

/-- ITS FALSE NEIGHBOUR: 'it returns false'. Refute it at one input. -/
def sysFaultWrong : ChangeSpec := { name := "sysFault", fn := fun _ => fun
  | [d1, d2] => { results := [.lit (.bool false)], args := [d1, d2] }
  | _ => none }
def SysFaultWrongFalsely : Prop := sysFaultRow.holds Try.pinned (OpenSpec.ofChange sysFaultWrong)

/-- 'milllaw1.SysDark': WHATEVER THE INPUT: true; the input reads as it did. -/
def sysDarkSpec : ChangeSpec := { name := "sysDark", fn := fun _ => fun
  | [d1, d2] => { results := [.lit (.bool true)], args := [d1, d2] }
  | _ => none }
def sysDarkRow : OpenClaim := { program := "ytfplfnhhiipgcaa", sum := "96d7fc7712da06f298b2f6e7b5a36060c3edcc366c91b5051f9ee54dc237a8d2", func := "mill/milllaw1.SysDark", spec := "sysDark", inPlace := ["(*internal/sync.Mutex).Lock", "internal/race.Disable", "sync/atomic.CompareAndSwapInt32", "internal/race.Enable", "internal/race.Acquire", "(*internal/sync.Mutex).lockSlow", "internal/sync.runtime_canSpin", "internal/sync.runtime_doSpin", "internal/sync.throw", "internal/sync.runtime_nanotime", "internal/sync.runtime_SemacquireMutex", "sync/atomic.AddInt32", "(*internal/sync.Mutex).Unlock", "internal/race.ReleaseMerge", "(*internal/sync.Mutex).unlockSlow", "internal/sync.fatal", "internal/sync.runtime_Semrelease", "internal/bytealg.IndexByteString"], unfollowed := true, recurses := true, apart := false }
def SysDarkSaid : Prop := sysDarkRow.holds Try.pinned (OpenSpec.ofChange sysDarkSpec)

/-- ITS FALSE NEIGHBOUR: 'it returns false'. Refute it at one input. -/
def sysDarkWrong : ChangeSpec := { name := "sysDark", fn := fun _ => fun
  | [d1, d2] => { results := [.lit (.bool false)], args := [d1, d2] }
  | _ => none }
def SysDarkWrongFalsely : Prop := sysDarkRow.holds Try.pinned (OpenSpec.ofChange sysDarkWrong)

/-- 'milllaw1.SysFresh': WHATEVER THE INPUT: true; the input reads as it did. -/
def sysFreshSpec : ChangeSpec := { name := "sysFresh", fn := fun _ => fun
  | [d1, d2] => { results := [.lit (.bool true)], args := [d1, d2] }
  | _ => none }
def sysFreshRow : OpenClaim := { program := "ytfplfnhhiipgcaa", sum := "96d7fc7712da06f298b2f6e7b5a36060c3edcc366c91b5051f9ee54dc237a8d2", func := "mill/milllaw1.SysFresh", spec := "sysFresh", inPlace := ["(*internal/sync.Mutex).Lock", "internal/race.Disable", "sync/atomic.CompareAndSwapInt32", "internal/race.Enable", "internal/race.Acquire", "(*internal/sync.Mutex).lockSlow", "internal/sync.runtime_canSpin", "internal/sync.runtime_doSpin", "internal/sync.throw", "internal/sync.runtime_nanotime", "internal/sync.runtime_SemacquireMutex", "sync/atomic.AddInt32", "(*internal/sync.Mutex).Unlock", "internal/race.ReleaseMerge", "(*internal/sync.Mutex).unlockSlow", "internal/sync.fatal", "internal/sync.runtime_Semrelease", "internal/bytealg.IndexByteString"], unfollowed := true, recurses := true, apart := false }
def SysFreshSaid : Prop := sysFreshRow.holds Try.pinned (OpenSpec.ofChange sysFreshSpec)

/-- ITS FALSE NEIGHBOUR: 'it returns false'. Refute it at one input. -/
def sysFreshWrong : ChangeSpec := { name := "sysFresh", fn := fun _ => fun
  | [d1, d2] => { results := [.lit (.bool false)], args := [d1, d2] }
  | _ => none }
def SysFreshWrongFalsely : Prop := sysFreshRow.holds Try.pinned (OpenSpec.ofChange sysFreshWrong)

/-- 'milllaw1.SysDurable': WHATEVER THE INPUT: true; the input reads as it did. -/
def sysDurableSpec : ChangeSpec := { name := "sysDurable", fn := fun _ => fun
  | [d1, d2, d3] => { results := [.lit (.bool true)], args := [d1, d2, d3] }
  | _ => none }
def sysDurableRow : OpenClaim := { program := "ytfplfnhhiipgcaa", sum := "96d7fc7712da06f298b2f6e7b5a36060c3edcc366c91b5051f9ee54dc237a8d2", func := "mill/milllaw1.SysDurable", spec := "sysDurable", inPlace := ["(*internal/sync.Mutex).Lock", "internal/race.Disable", "sync/atomic.CompareAndSwapInt32", "internal/race.Enable", "internal/race.Acquire", "(*internal/sync.Mutex).lockSlow", "internal/sync.runtime_canSpin", "internal/sync.runtime_doSpin", "internal/sync.throw", "internal/sync.runtime_nanotime", "internal/sync.runtime_SemacquireMutex", "sync/atomic.AddInt32", "(*internal/sync.Mutex).Unlock", "internal/race.ReleaseMerge", "(*internal/sync.Mutex).unlockSlow", "internal/sync.fatal", "internal/sync.runtime_Semrelease", "internal/bytealg.IndexByteString"], unfollowed := true, recurses := true, apart := false }
def SysDurableSaid : Prop := sysDurableRow.holds Try.pinned (OpenSpec.ofChange sysDurableSpec)

/-- ITS FALSE NEIGHBOUR: 'it returns false'. Refute it at one input. -/
def sysDurableWrong : ChangeSpec := { name := "sysDurable", fn := fun _ => fun
  | [d1, d2, d3] => { results := [.lit (.bool false)], args := [d1, d2, d3] }
  | _ => none }
def SysDurableWrongFalsely : Prop := sysDurableRow.holds Try.pinned (OpenSpec.ofChange sysDurableWrong)

/- THE SECOND FORM. 'bulk': how many values and letters a reading holds, each counted each time it is reached (what is shared counts as often as it is met; a slice's spare places count too). A statement '..UptoSaid' is the law's where the arguments, and the package variables that the reading takes, are together of bulk at most 1048576: NARROWER than '..Said'. Prove '..Said' where nothing that the law and all that it calls make is longer than what came in: it says more and counts as full. Else prove '..UptoSaid'. A law counts once. -/
mutual
def uptoBulk {H : Type} : DataW H → Nat
  | .lit (.string bytes) => bytes.length + 1
  | .lit _ => 1
  | .nil => 1
  | .ptr d => uptoBulk d + 1
  | .slice elems spare => uptoBulkAll elems + uptoBulkAll spare + 1
  | .agg parts => uptoBulkAll parts + 1
  | .iface _ d => uptoBulk d + 1
  | .map entries => uptoBulkEntries entries + 1
  | .held _ => 1
def uptoBulkAll {H : Type} : List (DataW H) → Nat
  | [] => 0
  | d :: r => uptoBulk d + uptoBulkAll r
def uptoBulkEntries {H : Type} : List (Lit × DataW H) → Nat
  | [] => 0
  | x :: r => uptoBulkEntry x + uptoBulkEntries r
def uptoBulkEntry {H : Type} : Lit × DataW H → Nat
  | (.string bytes, d) => bytes.length + uptoBulk d + 1
  | (_, d) => uptoBulk d + 1
 end
def uptoSmall : (H : Type) → List (DataW H) → Bool := fun _ ds => decide (uptoBulkAll ds ≤ 1048576)
def OpenSpec.upto (s : _root_.Go.ChangeSpec) : _root_.Go.OpenSpec := { _root_.Go.OpenSpec.ofChange s with cond := some uptoSmall }

/-- 'milllaw1.SysTape', WHERE WHAT IT READS IS OF BULK AT MOST 1048576: true; the input reads as it did. -/
def sysTapeUptoRow : OpenClaim := { program := "ytfplfnhhiipgcaa", sum := "96d7fc7712da06f298b2f6e7b5a36060c3edcc366c91b5051f9ee54dc237a8d2", func := "mill/milllaw1.SysTape", spec := "sysTape", inPlace := ["(*internal/sync.Mutex).Lock", "internal/race.Disable", "sync/atomic.CompareAndSwapInt32", "internal/race.Enable", "internal/race.Acquire", "(*internal/sync.Mutex).lockSlow", "internal/sync.runtime_canSpin", "internal/sync.runtime_doSpin", "internal/sync.throw", "internal/sync.runtime_nanotime", "internal/sync.runtime_SemacquireMutex", "sync/atomic.AddInt32", "(*internal/sync.Mutex).Unlock", "internal/race.ReleaseMerge", "(*internal/sync.Mutex).unlockSlow", "internal/sync.fatal", "internal/sync.runtime_Semrelease", "internal/bytealg.IndexByteString"], unfollowed := true, recurses := true, apart := false, narrowed := true }
def SysTapeUptoSaid : Prop := sysTapeUptoRow.holds Try.pinned (OpenSpec.upto sysTapeSpec)

/-- 'milllaw1.SysRename', WHERE WHAT IT READS IS OF BULK AT MOST 1048576: true; the input reads as it did. -/
def sysRenameUptoRow : OpenClaim := { program := "ytfplfnhhiipgcaa", sum := "96d7fc7712da06f298b2f6e7b5a36060c3edcc366c91b5051f9ee54dc237a8d2", func := "mill/milllaw1.SysRename", spec := "sysRename", inPlace := ["(*internal/sync.Mutex).Lock", "internal/race.Disable", "sync/atomic.CompareAndSwapInt32", "internal/race.Enable", "internal/race.Acquire", "(*internal/sync.Mutex).lockSlow", "internal/sync.runtime_canSpin", "internal/sync.runtime_doSpin", "internal/sync.throw", "internal/sync.runtime_nanotime", "internal/sync.runtime_SemacquireMutex", "sync/atomic.AddInt32", "(*internal/sync.Mutex).Unlock", "internal/race.ReleaseMerge", "(*internal/sync.Mutex).unlockSlow", "internal/sync.fatal", "internal/sync.runtime_Semrelease", "internal/bytealg.IndexByteString"], unfollowed := true, recurses := true, apart := false, narrowed := true }
def SysRenameUptoSaid : Prop := sysRenameUptoRow.holds Try.pinned (OpenSpec.upto sysRenameSpec)

/-- 'milllaw1.SysRoom', WHERE WHAT IT READS IS OF BULK AT MOST 1048576: true; the input reads as it did. -/
def sysRoomUptoRow : OpenClaim := { program := "ytfplfnhhiipgcaa", sum := "96d7fc7712da06f298b2f6e7b5a36060c3edcc366c91b5051f9ee54dc237a8d2", func := "mill/milllaw1.SysRoom", spec := "sysRoom", inPlace := ["(*internal/sync.Mutex).Lock", "internal/race.Disable", "sync/atomic.CompareAndSwapInt32", "internal/race.Enable", "internal/race.Acquire", "(*internal/sync.Mutex).lockSlow", "internal/sync.runtime_canSpin", "internal/sync.runtime_doSpin", "internal/sync.throw", "internal/sync.runtime_nanotime", "internal/sync.runtime_SemacquireMutex", "sync/atomic.AddInt32", "(*internal/sync.Mutex).Unlock", "internal/race.ReleaseMerge", "(*internal/sync.Mutex).unlockSlow", "internal/sync.fatal", "internal/sync.runtime_Semrelease", "internal/bytealg.IndexByteString"], unfollowed := true, recurses := true, apart := false, narrowed := true }
def SysRoomUptoSaid : Prop := sysRoomUptoRow.holds Try.pinned (OpenSpec.upto sysRoomSpec)

/-- 'milllaw1.SysFault', WHERE WHAT IT READS IS OF BULK AT MOST 1048576: true; the input reads as it did. -/
def sysFaultUptoRow : OpenClaim := { program := "ytfplfnhhiipgcaa", sum := "96d7fc7712da06f298b2f6e7b5a36060c3edcc366c91b5051f9ee54dc237a8d2", func := "mill/milllaw1.SysFault", spec := "sysFault", inPlace := ["(*internal/sync.Mutex).Lock", "internal/race.Disable", "sync/atomic.CompareAndSwapInt32", "internal/race.Enable", "internal/race.Acquire", "(*internal/sync.Mutex).lockSlow", "internal/sync.runtime_canSpin", "internal/sync.runtime_doSpin", "internal/sync.throw", "internal/sync.runtime_nanotime", "internal/sync.runtime_SemacquireMutex", "sync/atomic.AddInt32", "(*internal/sync.Mutex).Unlock", "internal/race.ReleaseMerge", "(*internal/sync.Mutex).unlockSlow", "internal/sync.fatal", "internal/sync.runtime_Semrelease", "internal/bytealg.IndexByteString"], unfollowed := true, recurses := true, apart := false, narrowed := true }
def SysFaultUptoSaid : Prop := sysFaultUptoRow.holds Try.pinned (OpenSpec.upto sysFaultSpec)

/-- 'milllaw1.SysDark', WHERE WHAT IT READS IS OF BULK AT MOST 1048576: true; the input reads as it did. -/
def sysDarkUptoRow : OpenClaim := { program := "ytfplfnhhiipgcaa", sum := "96d7fc7712da06f298b2f6e7b5a36060c3edcc366c91b5051f9ee54dc237a8d2", func := "mill/milllaw1.SysDark", spec := "sysDark", inPlace := ["(*internal/sync.Mutex).Lock", "internal/race.Disable", "sync/atomic.CompareAndSwapInt32", "internal/race.Enable", "internal/race.Acquire", "(*internal/sync.Mutex).lockSlow", "internal/sync.runtime_canSpin", "internal/sync.runtime_doSpin", "internal/sync.throw", "internal/sync.runtime_nanotime", "internal/sync.runtime_SemacquireMutex", "sync/atomic.AddInt32", "(*internal/sync.Mutex).Unlock", "internal/race.ReleaseMerge", "(*internal/sync.Mutex).unlockSlow", "internal/sync.fatal", "internal/sync.runtime_Semrelease", "internal/bytealg.IndexByteString"], unfollowed := true, recurses := true, apart := false, narrowed := true }
def SysDarkUptoSaid : Prop := sysDarkUptoRow.holds Try.pinned (OpenSpec.upto sysDarkSpec)

/-- 'milllaw1.SysFresh', WHERE WHAT IT READS IS OF BULK AT MOST 1048576: true; the input reads as it did. -/
def sysFreshUptoRow : OpenClaim := { program := "ytfplfnhhiipgcaa", sum := "96d7fc7712da06f298b2f6e7b5a36060c3edcc366c91b5051f9ee54dc237a8d2", func := "mill/milllaw1.SysFresh", spec := "sysFresh", inPlace := ["(*internal/sync.Mutex).Lock", "internal/race.Disable", "sync/atomic.CompareAndSwapInt32", "internal/race.Enable", "internal/race.Acquire", "(*internal/sync.Mutex).lockSlow", "internal/sync.runtime_canSpin", "internal/sync.runtime_doSpin", "internal/sync.throw", "internal/sync.runtime_nanotime", "internal/sync.runtime_SemacquireMutex", "sync/atomic.AddInt32", "(*internal/sync.Mutex).Unlock", "internal/race.ReleaseMerge", "(*internal/sync.Mutex).unlockSlow", "internal/sync.fatal", "internal/sync.runtime_Semrelease", "internal/bytealg.IndexByteString"], unfollowed := true, recurses := true, apart := false, narrowed := true }
def SysFreshUptoSaid : Prop := sysFreshUptoRow.holds Try.pinned (OpenSpec.upto sysFreshSpec)

/-- 'milllaw1.SysDurable', WHERE WHAT IT READS IS OF BULK AT MOST 1048576: true; the input reads as it did. -/
def sysDurableUptoRow : OpenClaim := { program := "ytfplfnhhiipgcaa", sum := "96d7fc7712da06f298b2f6e7b5a36060c3edcc366c91b5051f9ee54dc237a8d2", func := "mill/milllaw1.SysDurable", spec := "sysDurable", inPlace := ["(*internal/sync.Mutex).Lock", "internal/race.Disable", "sync/atomic.CompareAndSwapInt32", "internal/race.Enable", "internal/race.Acquire", "(*internal/sync.Mutex).lockSlow", "internal/sync.runtime_canSpin", "internal/sync.runtime_doSpin", "internal/sync.throw", "internal/sync.runtime_nanotime", "internal/sync.runtime_SemacquireMutex", "sync/atomic.AddInt32", "(*internal/sync.Mutex).Unlock", "internal/race.ReleaseMerge", "(*internal/sync.Mutex).unlockSlow", "internal/sync.fatal", "internal/sync.runtime_Semrelease", "internal/bytealg.IndexByteString"], unfollowed := true, recurses := true, apart := false, narrowed := true }
def SysDurableUptoSaid : Prop := sysDurableUptoRow.holds Try.pinned (OpenSpec.upto sysDurableSpec)

end Rows
end Go.Proofs.Ytfplfnhhiipgcaa

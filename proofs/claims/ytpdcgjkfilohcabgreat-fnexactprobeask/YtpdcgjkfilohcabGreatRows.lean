/-
  No cell of these rows narrows 'for every input' (looked for: loops, veiled, ifaces, maps, wideKeys, modest, calm, conditions, laid).
  DERIVED. THE GIVEN ROWS OF THIS SEAT. 5 by the template 'for every input the law returns true; each argument reads behind the call as it read before'; 0 by the template 'total and deterministic' (their statements: YtpdcgjkfilohcabGreatTotals.lean).
  GIVEN WITH THE SEED: the statements are not yours to turn. If you find one false, say at which input.
  Laid BY PROGRAM, IN A SANDBOX (cutbox-rows.mjs): the forced cells as the released guide's own fill.sh prints them over the translation cf37d96ec4f4b060… (all of the seat's roots in one cut). By AI agents, Wed Nov 11 2026. No macro, syntax, notation, axiom, sorry.
-/
import Derived.Test.YtpdcgjkfilohcabGreatChecked
import GoSem.Claim
import GoSem.ClaimJoined
import GoSem.ClaimMapViews
import Derived.JoinedTies
import Derived.KernelRfl
namespace Go.Proofs.YtpdcgjkfilohcabGreat
/- THE CELL 'sum', in the pinned program and in every row, IS THE sha256 OF THE DUMP (.gsa) THAT YtpdcgjkfilohcabGreatProg.lean LOADS. Nothing in Lean hashes anything: it is a label: what it is worth is what the hold of that sum in a sandbox is worth. -/
noncomputable def Tryz.pinned : Pinned := { name := "ytpdcgjkfilohcabgreat", sum := "cf37d96ec4f4b0600afae3bb6d1c0f62c4c34c9cdac9115a84deaa3f76834b26", checked := Tryz.checked }
namespace Rows
def none {H : Type} : Left H := { results := [], args := [] }

/-- 'laws.FnExactProbeAll': WHATEVER THE INPUT: true; the input reads as it did. -/
def fnExactProbeAllSpec : ChangeSpec := { name := "fnExactProbeAll", fn := fun _ => fun
  | [d] => { results := [.lit (.bool true)], args := [d] }
  | _ => none }
def fnExactProbeAllRow : OpenClaim := { program := "ytpdcgjkfilohcabgreat", sum := "cf37d96ec4f4b0600afae3bb6d1c0f62c4c34c9cdac9115a84deaa3f76834b26", func := "loop.example/lapprobe/laws.FnExactProbeAll", spec := "fnExactProbeAll", inPlace := ["(*sync.WaitGroup).Add", "internal/race.ReleaseMerge", "internal/race.Disable", "internal/race.Enable", "internal/synctest.IsInBubble", "internal/synctest.Associate[sync.WaitGroup]", "sync.fatal", "sync/atomic.OrUint64", "sync/atomic.AddUint64", "internal/race.Read", "sync/atomic.LoadUint64", "sync/atomic.StoreUint64", "internal/synctest.Disassociate[sync.WaitGroup]", "sync.runtime_Semrelease", "(*sync.WaitGroup).Done", "sync/atomic.AddInt64", "(*sync.WaitGroup).Wait", "internal/race.Acquire", "internal/synctest.IsAssociated[sync.WaitGroup]", "sync/atomic.CompareAndSwapUint64", "internal/race.Write", "sync.runtime_SemacquireWaitGroup"], unfollowed := true, recurses := true, plainKeys := false, apart := false }
def FnExactProbeAllSaid : Prop := fnExactProbeAllRow.holds Tryz.pinned (OpenSpec.ofChange fnExactProbeAllSpec)

/-- ITS FALSE NEIGHBOUR: 'it returns false'. Refute it at one input. -/
def fnExactProbeAllWrong : ChangeSpec := { name := "fnExactProbeAll", fn := fun _ => fun
  | [d] => { results := [.lit (.bool false)], args := [d] }
  | _ => none }
def FnExactProbeAllWrongFalsely : Prop := fnExactProbeAllRow.holds Tryz.pinned (OpenSpec.ofChange fnExactProbeAllWrong)

/-- 'laws.FnExactProbeWith': WHATEVER THE INPUT: true; the input reads as it did. -/
def fnExactProbeWithSpec : ChangeSpec := { name := "fnExactProbeWith", fn := fun _ => fun
  | [d1, d2] => { results := [.lit (.bool true)], args := [d1, d2] }
  | _ => none }
def fnExactProbeWithRow : OpenClaim := { program := "ytpdcgjkfilohcabgreat", sum := "cf37d96ec4f4b0600afae3bb6d1c0f62c4c34c9cdac9115a84deaa3f76834b26", func := "loop.example/lapprobe/laws.FnExactProbeWith", spec := "fnExactProbeWith", inPlace := ["(*sync.WaitGroup).Add", "internal/race.ReleaseMerge", "internal/race.Disable", "internal/race.Enable", "internal/synctest.IsInBubble", "internal/synctest.Associate[sync.WaitGroup]", "sync.fatal", "sync/atomic.OrUint64", "sync/atomic.AddUint64", "internal/race.Read", "sync/atomic.LoadUint64", "sync/atomic.StoreUint64", "internal/synctest.Disassociate[sync.WaitGroup]", "sync.runtime_Semrelease", "(*sync.WaitGroup).Done", "sync/atomic.AddInt64", "(*sync.WaitGroup).Wait", "internal/race.Acquire", "internal/synctest.IsAssociated[sync.WaitGroup]", "sync/atomic.CompareAndSwapUint64", "internal/race.Write", "sync.runtime_SemacquireWaitGroup"], unfollowed := true, recurses := true, plainKeys := false, apart := false }
def FnExactProbeWithSaid : Prop := fnExactProbeWithRow.holds Tryz.pinned (OpenSpec.ofChange fnExactProbeWithSpec)

/-- ITS FALSE NEIGHBOUR: 'it returns false'. Refute it at one input. -/
def fnExactProbeWithWrong : ChangeSpec := { name := "fnExactProbeWith", fn := fun _ => fun
  | [d1, d2] => { results := [.lit (.bool false)], args := [d1, d2] }
  | _ => none }
def FnExactProbeWithWrongFalsely : Prop := fnExactProbeWithRow.holds Tryz.pinned (OpenSpec.ofChange fnExactProbeWithWrong)

/-- 'laws.FnExactProbeFree': WHATEVER THE INPUT: true; the input reads as it did. -/
def fnExactProbeFreeSpec : ChangeSpec := { name := "fnExactProbeFree", fn := fun _ => fun
  | [d1, d2] => { results := [.lit (.bool true)], args := [d1, d2] }
  | _ => none }
def fnExactProbeFreeRow : OpenClaim := { program := "ytpdcgjkfilohcabgreat", sum := "cf37d96ec4f4b0600afae3bb6d1c0f62c4c34c9cdac9115a84deaa3f76834b26", func := "loop.example/lapprobe/laws.FnExactProbeFree", spec := "fnExactProbeFree", inPlace := ["(*sync.WaitGroup).Add", "internal/race.ReleaseMerge", "internal/race.Disable", "internal/race.Enable", "internal/synctest.IsInBubble", "internal/synctest.Associate[sync.WaitGroup]", "sync.fatal", "sync/atomic.OrUint64", "sync/atomic.AddUint64", "internal/race.Read", "sync/atomic.LoadUint64", "sync/atomic.StoreUint64", "internal/synctest.Disassociate[sync.WaitGroup]", "sync.runtime_Semrelease", "(*sync.WaitGroup).Done", "sync/atomic.AddInt64", "(*sync.WaitGroup).Wait", "internal/race.Acquire", "internal/synctest.IsAssociated[sync.WaitGroup]", "sync/atomic.CompareAndSwapUint64", "internal/race.Write", "sync.runtime_SemacquireWaitGroup"], unfollowed := true, recurses := true, plainKeys := false, apart := false }
def FnExactProbeFreeSaid : Prop := fnExactProbeFreeRow.holds Tryz.pinned (OpenSpec.ofChange fnExactProbeFreeSpec)

/-- ITS FALSE NEIGHBOUR: 'it returns false'. Refute it at one input. -/
def fnExactProbeFreeWrong : ChangeSpec := { name := "fnExactProbeFree", fn := fun _ => fun
  | [d1, d2] => { results := [.lit (.bool false)], args := [d1, d2] }
  | _ => none }
def FnExactProbeFreeWrongFalsely : Prop := fnExactProbeFreeRow.holds Tryz.pinned (OpenSpec.ofChange fnExactProbeFreeWrong)

/-- 'laws.FnExactProbeIndexOf': WHATEVER THE INPUT: true; the input reads as it did. -/
def fnExactProbeIndexOfSpec : ChangeSpec := { name := "fnExactProbeIndexOf", fn := fun _ => fun
  | [d] => { results := [.lit (.bool true)], args := [d] }
  | _ => none }
def fnExactProbeIndexOfRow : OpenClaim := { program := "ytpdcgjkfilohcabgreat", sum := "cf37d96ec4f4b0600afae3bb6d1c0f62c4c34c9cdac9115a84deaa3f76834b26", func := "loop.example/lapprobe/laws.FnExactProbeIndexOf", spec := "fnExactProbeIndexOf", unfollowed := true, recurses := true, plainKeys := false, apart := false }
def FnExactProbeIndexOfSaid : Prop := fnExactProbeIndexOfRow.holds Tryz.pinned (OpenSpec.ofChange fnExactProbeIndexOfSpec)

/-- ITS FALSE NEIGHBOUR: 'it returns false'. Refute it at one input. -/
def fnExactProbeIndexOfWrong : ChangeSpec := { name := "fnExactProbeIndexOf", fn := fun _ => fun
  | [d] => { results := [.lit (.bool false)], args := [d] }
  | _ => none }
def FnExactProbeIndexOfWrongFalsely : Prop := fnExactProbeIndexOfRow.holds Tryz.pinned (OpenSpec.ofChange fnExactProbeIndexOfWrong)

/-- 'laws.FnExactProbeAsk': WHATEVER THE INPUT: true; the input reads as it did. -/
def fnExactProbeAskSpec : ChangeSpec := { name := "fnExactProbeAsk", fn := fun _ => fun
  | [d1, d2] => { results := [.lit (.bool true)], args := [d1, d2] }
  | _ => none }
def fnExactProbeAskRow : OpenClaim := { program := "ytpdcgjkfilohcabgreat", sum := "cf37d96ec4f4b0600afae3bb6d1c0f62c4c34c9cdac9115a84deaa3f76834b26", func := "loop.example/lapprobe/laws.FnExactProbeAsk", spec := "fnExactProbeAsk", unfollowed := true, recurses := true, plainKeys := false, apart := false }
def FnExactProbeAskSaid : Prop := fnExactProbeAskRow.holds Tryz.pinned (OpenSpec.ofChange fnExactProbeAskSpec)

/-- ITS FALSE NEIGHBOUR: 'it returns false'. Refute it at one input. -/
def fnExactProbeAskWrong : ChangeSpec := { name := "fnExactProbeAsk", fn := fun _ => fun
  | [d1, d2] => { results := [.lit (.bool false)], args := [d1, d2] }
  | _ => none }
def FnExactProbeAskWrongFalsely : Prop := fnExactProbeAskRow.holds Tryz.pinned (OpenSpec.ofChange fnExactProbeAskWrong)

/- THE SECOND FORM. 'bulk': how many values and letters a reading holds, each counted each time it is reached (what is shared counts as often as it is met; a slice's spare places count too). A statement '..UptoSaid' is the law's where the arguments, and the package variables that the reading takes, are together of bulk at most 1048576: NARROWER than '..Said'. Prove '..Said' where nothing that the law and all that it calls make is longer than what came in: it says more and counts as full. Else prove '..UptoSaid'. A law counts once. -/
mutual
def uptoBulk {H : Type} : DataW H → Nat
  | .lit (.string bytes) => bytes.length + 1
  | .lit _ => 1
  | .nil => 1
  | .ptr d => uptoBulk d + 1
  | .slice elems spare => uptoBulkAll elems + uptoBulkAll spare + 1
  | .agg parts => uptoBulkAll parts + 1
  | .iface _ d => uptoBulk d + 1
  | .map entries => uptoBulkEntries entries + 1
  | .held _ => 1
def uptoBulkAll {H : Type} : List (DataW H) → Nat
  | [] => 0
  | d :: r => uptoBulk d + uptoBulkAll r
def uptoBulkEntries {H : Type} : List (Lit × DataW H) → Nat
  | [] => 0
  | x :: r => uptoBulkEntry x + uptoBulkEntries r
def uptoBulkEntry {H : Type} : Lit × DataW H → Nat
  | (.string bytes, d) => bytes.length + uptoBulk d + 1
  | (_, d) => uptoBulk d + 1
 end
def uptoSmall : (H : Type) → List (DataW H) → Bool := fun _ ds => decide (uptoBulkAll ds ≤ 1048576)
def OpenSpec.upto (s : _root_.Go.ChangeSpec) : _root_.Go.OpenSpec := { _root_.Go.OpenSpec.ofChange s with cond := some uptoSmall }

/-- 'laws.FnExactProbeAll', WHERE WHAT IT READS IS OF BULK AT MOST 1048576: true; the input reads as it did. -/
def fnExactProbeAllUptoRow : OpenClaim := { program := "ytpdcgjkfilohcabgreat", sum := "cf37d96ec4f4b0600afae3bb6d1c0f62c4c34c9cdac9115a84deaa3f76834b26", func := "loop.example/lapprobe/laws.FnExactProbeAll", spec := "fnExactProbeAll", inPlace := ["(*sync.WaitGroup).Add", "internal/race.ReleaseMerge", "internal/race.Disable", "internal/race.Enable", "internal/synctest.IsInBubble", "internal/synctest.Associate[sync.WaitGroup]", "sync.fatal", "sync/atomic.OrUint64", "sync/atomic.AddUint64", "internal/race.Read", "sync/atomic.LoadUint64", "sync/atomic.StoreUint64", "internal/synctest.Disassociate[sync.WaitGroup]", "sync.runtime_Semrelease", "(*sync.WaitGroup).Done", "sync/atomic.AddInt64", "(*sync.WaitGroup).Wait", "internal/race.Acquire", "internal/synctest.IsAssociated[sync.WaitGroup]", "sync/atomic.CompareAndSwapUint64", "internal/race.Write", "sync.runtime_SemacquireWaitGroup"], unfollowed := true, recurses := true, plainKeys := false, apart := false, narrowed := true }
def FnExactProbeAllUptoSaid : Prop := fnExactProbeAllUptoRow.holds Tryz.pinned (OpenSpec.upto fnExactProbeAllSpec)

/-- 'laws.FnExactProbeWith', WHERE WHAT IT READS IS OF BULK AT MOST 1048576: true; the input reads as it did. -/
def fnExactProbeWithUptoRow : OpenClaim := { program := "ytpdcgjkfilohcabgreat", sum := "cf37d96ec4f4b0600afae3bb6d1c0f62c4c34c9cdac9115a84deaa3f76834b26", func := "loop.example/lapprobe/laws.FnExactProbeWith", spec := "fnExactProbeWith", inPlace := ["(*sync.WaitGroup).Add", "internal/race.ReleaseMerge", "internal/race.Disable", "internal/race.Enable", "internal/synctest.IsInBubble", "internal/synctest.Associate[sync.WaitGroup]", "sync.fatal", "sync/atomic.OrUint64", "sync/atomic.AddUint64", "internal/race.Read", "sync/atomic.LoadUint64", "sync/atomic.StoreUint64", "internal/synctest.Disassociate[sync.WaitGroup]", "sync.runtime_Semrelease", "(*sync.WaitGroup).Done", "sync/atomic.AddInt64", "(*sync.WaitGroup).Wait", "internal/race.Acquire", "internal/synctest.IsAssociated[sync.WaitGroup]", "sync/atomic.CompareAndSwapUint64", "internal/race.Write", "sync.runtime_SemacquireWaitGroup"], unfollowed := true, recurses := true, plainKeys := false, apart := false, narrowed := true }
def FnExactProbeWithUptoSaid : Prop := fnExactProbeWithUptoRow.holds Tryz.pinned (OpenSpec.upto fnExactProbeWithSpec)

/-- 'laws.FnExactProbeFree', WHERE WHAT IT READS IS OF BULK AT MOST 1048576: true; the input reads as it did. -/
def fnExactProbeFreeUptoRow : OpenClaim := { program := "ytpdcgjkfilohcabgreat", sum := "cf37d96ec4f4b0600afae3bb6d1c0f62c4c34c9cdac9115a84deaa3f76834b26", func := "loop.example/lapprobe/laws.FnExactProbeFree", spec := "fnExactProbeFree", inPlace := ["(*sync.WaitGroup).Add", "internal/race.ReleaseMerge", "internal/race.Disable", "internal/race.Enable", "internal/synctest.IsInBubble", "internal/synctest.Associate[sync.WaitGroup]", "sync.fatal", "sync/atomic.OrUint64", "sync/atomic.AddUint64", "internal/race.Read", "sync/atomic.LoadUint64", "sync/atomic.StoreUint64", "internal/synctest.Disassociate[sync.WaitGroup]", "sync.runtime_Semrelease", "(*sync.WaitGroup).Done", "sync/atomic.AddInt64", "(*sync.WaitGroup).Wait", "internal/race.Acquire", "internal/synctest.IsAssociated[sync.WaitGroup]", "sync/atomic.CompareAndSwapUint64", "internal/race.Write", "sync.runtime_SemacquireWaitGroup"], unfollowed := true, recurses := true, plainKeys := false, apart := false, narrowed := true }
def FnExactProbeFreeUptoSaid : Prop := fnExactProbeFreeUptoRow.holds Tryz.pinned (OpenSpec.upto fnExactProbeFreeSpec)

/-- 'laws.FnExactProbeIndexOf', WHERE WHAT IT READS IS OF BULK AT MOST 1048576: true; the input reads as it did. -/
def fnExactProbeIndexOfUptoRow : OpenClaim := { program := "ytpdcgjkfilohcabgreat", sum := "cf37d96ec4f4b0600afae3bb6d1c0f62c4c34c9cdac9115a84deaa3f76834b26", func := "loop.example/lapprobe/laws.FnExactProbeIndexOf", spec := "fnExactProbeIndexOf", unfollowed := true, recurses := true, plainKeys := false, apart := false, narrowed := true }
def FnExactProbeIndexOfUptoSaid : Prop := fnExactProbeIndexOfUptoRow.holds Tryz.pinned (OpenSpec.upto fnExactProbeIndexOfSpec)

/-- 'laws.FnExactProbeAsk', WHERE WHAT IT READS IS OF BULK AT MOST 1048576: true; the input reads as it did. -/
def fnExactProbeAskUptoRow : OpenClaim := { program := "ytpdcgjkfilohcabgreat", sum := "cf37d96ec4f4b0600afae3bb6d1c0f62c4c34c9cdac9115a84deaa3f76834b26", func := "loop.example/lapprobe/laws.FnExactProbeAsk", spec := "fnExactProbeAsk", unfollowed := true, recurses := true, plainKeys := false, apart := false, narrowed := true }
def FnExactProbeAskUptoSaid : Prop := fnExactProbeAskUptoRow.holds Tryz.pinned (OpenSpec.upto fnExactProbeAskSpec)

end Rows
end Go.Proofs.YtpdcgjkfilohcabGreat

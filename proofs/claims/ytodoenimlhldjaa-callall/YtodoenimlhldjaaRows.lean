/-
  No cell of these rows narrows 'for every input' (looked for: loops, veiled, ifaces, maps, wideKeys, modest, calm, conditions, laid).
  DERIVED. THE GIVEN ROWS OF THIS SEAT. 5 by the template 'for every input the law returns true; each argument reads behind the call as it read before'; 0 by the template 'total and deterministic' (their statements: YtodoenimlhldjaaTotals.lean).
  GIVEN WITH THE SEED: the statements are not yours to turn. If you find one false, say at which input.
  Laid BY PROGRAM, IN A SANDBOX (cutbox-rows.mjs): the forced cells as the released guide's own fill.sh prints them over the translation 3d5f4ea9c54cb0b7… (all of the seat's roots in one cut). By AI agents, Wed Nov 11 2026. No macro, syntax, notation, axiom, sorry.
-/
import Derived.Test.YtodoenimlhldjaaChecked
import GoSem.Claim
import GoSem.ClaimJoined
import GoSem.ClaimMapViews
import Derived.JoinedTies
import Derived.KernelRfl
namespace Go.Proofs.Ytodoenimlhldjaa
/- THE CELL 'sum', in the pinned program and in every row, IS THE sha256 OF THE DUMP (.gsa) THAT YtodoenimlhldjaaProg.lean LOADS. Nothing in Lean hashes anything: it is a label: what it is worth is what the hold of that sum in a sandbox is worth. -/
noncomputable def Try.pinned : Pinned := { name := "ytodoenimlhldjaa", sum := "3d5f4ea9c54cb0b75045d1fad3ff033836c8afb490fd1114d284783eaf78da41", checked := Try.checked }
namespace Rows
def none {H : Type} : Left H := { results := [], args := [] }

/-- 'calquelaw12.CallAll': WHATEVER THE INPUT: true; the input reads as it did. -/
def callAllSpec : ChangeSpec := { name := "callAll", fn := fun _ => fun
  | [d1, d2, d3] => { results := [.lit (.bool true)], args := [d1, d2, d3] }
  | _ => none }
def callAllRow : OpenClaim := { program := "ytodoenimlhldjaa", sum := "3d5f4ea9c54cb0b75045d1fad3ff033836c8afb490fd1114d284783eaf78da41", func := "calque/calquelaw12.CallAll", spec := "callAll", inPlace := ["sync/atomic.LoadInt64", "sync/atomic.AddInt64"], unfollowed := true, recurses := true, apart := false }
def CallAllSaid : Prop := callAllRow.holds Try.pinned (OpenSpec.ofChange callAllSpec)

/-- ITS FALSE NEIGHBOUR: 'it returns false'. Refute it at one input. -/
def callAllWrong : ChangeSpec := { name := "callAll", fn := fun _ => fun
  | [d1, d2, d3] => { results := [.lit (.bool false)], args := [d1, d2, d3] }
  | _ => none }
def CallAllWrongFalsely : Prop := callAllRow.holds Try.pinned (OpenSpec.ofChange callAllWrong)

/-- 'calquelaw12.CallReads': WHATEVER THE INPUT: true; the input reads as it did. -/
def callReadsSpec : ChangeSpec := { name := "callReads", fn := fun _ => fun
  | [d1, d2, d3] => { results := [.lit (.bool true)], args := [d1, d2, d3] }
  | _ => none }
def callReadsRow : OpenClaim := { program := "ytodoenimlhldjaa", sum := "3d5f4ea9c54cb0b75045d1fad3ff033836c8afb490fd1114d284783eaf78da41", func := "calque/calquelaw12.CallReads", spec := "callReads", inPlace := ["sync/atomic.LoadInt64", "sync/atomic.AddInt64"], apart := false }
def CallReadsSaid : Prop := callReadsRow.holds Try.pinned (OpenSpec.ofChange callReadsSpec)

/-- ITS FALSE NEIGHBOUR: 'it returns false'. Refute it at one input. -/
def callReadsWrong : ChangeSpec := { name := "callReads", fn := fun _ => fun
  | [d1, d2, d3] => { results := [.lit (.bool false)], args := [d1, d2, d3] }
  | _ => none }
def CallReadsWrongFalsely : Prop := callReadsRow.holds Try.pinned (OpenSpec.ofChange callReadsWrong)

/-- 'calquelaw12.CallWrongs': WHATEVER THE INPUT: true; the input reads as it did. -/
def callWrongsSpec : ChangeSpec := { name := "callWrongs", fn := fun _ => fun
  | [d1, d2] => { results := [.lit (.bool true)], args := [d1, d2] }
  | _ => none }
def callWrongsRow : OpenClaim := { program := "ytodoenimlhldjaa", sum := "3d5f4ea9c54cb0b75045d1fad3ff033836c8afb490fd1114d284783eaf78da41", func := "calque/calquelaw12.CallWrongs", spec := "callWrongs", inPlace := ["sync/atomic.LoadInt64", "sync/atomic.AddInt64"], apart := false }
def CallWrongsSaid : Prop := callWrongsRow.holds Try.pinned (OpenSpec.ofChange callWrongsSpec)

/-- ITS FALSE NEIGHBOUR: 'it returns false'. Refute it at one input. -/
def callWrongsWrong : ChangeSpec := { name := "callWrongs", fn := fun _ => fun
  | [d1, d2] => { results := [.lit (.bool false)], args := [d1, d2] }
  | _ => none }
def CallWrongsWrongFalsely : Prop := callWrongsRow.holds Try.pinned (OpenSpec.ofChange callWrongsWrong)

/-- 'calquelaw12.CallPages': WHATEVER THE INPUT: true; the input reads as it did. -/
def callPagesSpec : ChangeSpec := { name := "callPages", fn := fun _ => fun
  | [d1, d2] => { results := [.lit (.bool true)], args := [d1, d2] }
  | _ => none }
def callPagesRow : OpenClaim := { program := "ytodoenimlhldjaa", sum := "3d5f4ea9c54cb0b75045d1fad3ff033836c8afb490fd1114d284783eaf78da41", func := "calque/calquelaw12.CallPages", spec := "callPages", inPlace := ["sync/atomic.LoadInt64", "sync/atomic.AddInt64"], unfollowed := true, recurses := true, apart := false }
def CallPagesSaid : Prop := callPagesRow.holds Try.pinned (OpenSpec.ofChange callPagesSpec)

/-- ITS FALSE NEIGHBOUR: 'it returns false'. Refute it at one input. -/
def callPagesWrong : ChangeSpec := { name := "callPages", fn := fun _ => fun
  | [d1, d2] => { results := [.lit (.bool false)], args := [d1, d2] }
  | _ => none }
def CallPagesWrongFalsely : Prop := callPagesRow.holds Try.pinned (OpenSpec.ofChange callPagesWrong)

/-- 'calquelaw12.CallWrites': WHATEVER THE INPUT: true; the input reads as it did. -/
def callWritesSpec : ChangeSpec := { name := "callWrites", fn := fun _ => fun
  | [d1, d2] => { results := [.lit (.bool true)], args := [d1, d2] }
  | _ => none }
def callWritesRow : OpenClaim := { program := "ytodoenimlhldjaa", sum := "3d5f4ea9c54cb0b75045d1fad3ff033836c8afb490fd1114d284783eaf78da41", func := "calque/calquelaw12.CallWrites", spec := "callWrites", inPlace := ["sync/atomic.LoadInt64", "sync/atomic.AddInt64"], apart := false }
def CallWritesSaid : Prop := callWritesRow.holds Try.pinned (OpenSpec.ofChange callWritesSpec)

/-- ITS FALSE NEIGHBOUR: 'it returns false'. Refute it at one input. -/
def callWritesWrong : ChangeSpec := { name := "callWrites", fn := fun _ => fun
  | [d1, d2] => { results := [.lit (.bool false)], args := [d1, d2] }
  | _ => none }
def CallWritesWrongFalsely : Prop := callWritesRow.holds Try.pinned (OpenSpec.ofChange callWritesWrong)

/- THE SECOND FORM. 'bulk': how many values and letters a reading holds, each counted each time it is reached (what is shared counts as often as it is met; a slice's spare places count too). A statement '..UptoSaid' is the law's where the arguments, and the package variables that the reading takes, are together of bulk at most 1048576: NARROWER than '..Said'. Prove '..Said' where nothing that the law and all that it calls make is longer than what came in: it says more and counts as full. Else prove '..UptoSaid'. A law counts once. -/
mutual
def uptoBulk {H : Type} : DataW H → Nat
  | .lit (.string bytes) => bytes.length + 1
  | .lit _ => 1
  | .nil => 1
  | .ptr d => uptoBulk d + 1
  | .slice elems spare => uptoBulkAll elems + uptoBulkAll spare + 1
  | .agg parts => uptoBulkAll parts + 1
  | .iface _ d => uptoBulk d + 1
  | .map entries => uptoBulkEntries entries + 1
  | .held _ => 1
def uptoBulkAll {H : Type} : List (DataW H) → Nat
  | [] => 0
  | d :: r => uptoBulk d + uptoBulkAll r
def uptoBulkEntries {H : Type} : List (Lit × DataW H) → Nat
  | [] => 0
  | x :: r => uptoBulkEntry x + uptoBulkEntries r
def uptoBulkEntry {H : Type} : Lit × DataW H → Nat
  | (.string bytes, d) => bytes.length + uptoBulk d + 1
  | (_, d) => uptoBulk d + 1
 end
def uptoSmall : (H : Type) → List (DataW H) → Bool := fun _ ds => decide (uptoBulkAll ds ≤ 1048576)
def OpenSpec.upto (s : _root_.Go.ChangeSpec) : _root_.Go.OpenSpec := { _root_.Go.OpenSpec.ofChange s with cond := some uptoSmall }

/-- 'calquelaw12.CallAll', WHERE WHAT IT READS IS OF BULK AT MOST 1048576: true; the input reads as it did. -/
def callAllUptoRow : OpenClaim := { program := "ytodoenimlhldjaa", sum := "3d5f4ea9c54cb0b75045d1fad3ff033836c8afb490fd1114d284783eaf78da41", func := "calque/calquelaw12.CallAll", spec := "callAll", inPlace := ["sync/atomic.LoadInt64", "sync/atomic.AddInt64"], unfollowed := true, recurses := true, apart := false, narrowed := true }
def CallAllUptoSaid : Prop := callAllUptoRow.holds Try.pinned (OpenSpec.upto callAllSpec)

/-- 'calquelaw12.CallReads', WHERE WHAT IT READS IS OF BULK AT MOST 1048576: true; the input reads as it did. -/
def callReadsUptoRow : OpenClaim := { program := "ytodoenimlhldjaa", sum := "3d5f4ea9c54cb0b75045d1fad3ff033836c8afb490fd1114d284783eaf78da41", func := "calque/calquelaw12.CallReads", spec := "callReads", inPlace := ["sync/atomic.LoadInt64", "sync/atomic.AddInt64"], apart := false, narrowed := true }
def CallReadsUptoSaid : Prop := callReadsUptoRow.holds Try.pinned (OpenSpec.upto callReadsSpec)

/-- 'calquelaw12.CallWrongs', WHERE WHAT IT READS IS OF BULK AT MOST 1048576: true; the input reads as it did. -/
def callWrongsUptoRow : OpenClaim := { program := "ytodoenimlhldjaa", sum := "3d5f4ea9c54cb0b75045d1fad3ff033836c8afb490fd1114d284783eaf78da41", func := "calque/calquelaw12.CallWrongs", spec := "callWrongs", inPlace := ["sync/atomic.LoadInt64", "sync/atomic.AddInt64"], apart := false, narrowed := true }
def CallWrongsUptoSaid : Prop := callWrongsUptoRow.holds Try.pinned (OpenSpec.upto callWrongsSpec)

/-- 'calquelaw12.CallPages', WHERE WHAT IT READS IS OF BULK AT MOST 1048576: true; the input reads as it did. -/
def callPagesUptoRow : OpenClaim := { program := "ytodoenimlhldjaa", sum := "3d5f4ea9c54cb0b75045d1fad3ff033836c8afb490fd1114d284783eaf78da41", func := "calque/calquelaw12.CallPages", spec := "callPages", inPlace := ["sync/atomic.LoadInt64", "sync/atomic.AddInt64"], unfollowed := true, recurses := true, apart := false, narrowed := true }
def CallPagesUptoSaid : Prop := callPagesUptoRow.holds Try.pinned (OpenSpec.upto callPagesSpec)

/-- 'calquelaw12.CallWrites', WHERE WHAT IT READS IS OF BULK AT MOST 1048576: true; the input reads as it did. -/
def callWritesUptoRow : OpenClaim := { program := "ytodoenimlhldjaa", sum := "3d5f4ea9c54cb0b75045d1fad3ff033836c8afb490fd1114d284783eaf78da41", func := "calque/calquelaw12.CallWrites", spec := "callWrites", inPlace := ["sync/atomic.LoadInt64", "sync/atomic.AddInt64"], apart := false, narrowed := true }
def CallWritesUptoSaid : Prop := callWritesUptoRow.holds Try.pinned (OpenSpec.upto callWritesSpec)

end Rows
end Go.Proofs.Ytodoenimlhldjaa

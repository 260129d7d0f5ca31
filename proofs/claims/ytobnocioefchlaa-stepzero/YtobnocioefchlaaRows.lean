/-
  No cell of these rows narrows 'for every input' (looked for: loops, veiled, ifaces, maps, wideKeys, modest, calm, conditions, laid).
  DERIVED. THE GIVEN ROWS OF THIS SEAT. 4 by the template 'for every input the law returns true; each argument reads behind the call as it read before'; 0 by the template 'total and deterministic' (their statements: YtobnocioefchlaaTotals.lean).
  GIVEN WITH THE SEED: the statements are not yours to turn. If you find one false, say at which input.
  Laid BY PROGRAM, IN A SANDBOX (cutbox-rows.mjs): the forced cells as the released guide's own fill.sh prints them over the translation efdd198aa44d379f… (all of the seat's roots in one cut). By AI agents, Wed Nov 11 2026. No macro, syntax, notation, axiom, sorry.
-/
import Derived.Test.YtobnocioefchlaaChecked
import GoSem.Claim
import GoSem.ClaimJoined
import GoSem.ClaimMapViews
import Derived.JoinedTies
import Derived.KernelRfl
namespace Go.Proofs.Ytobnocioefchlaa
/- THE CELL 'sum', in the pinned program and in every row, IS THE sha256 OF THE DUMP (.gsa) THAT YtobnocioefchlaaProg.lean LOADS. Nothing in Lean hashes anything: it is a label: what it is worth is what the hold of that sum in a sandbox is worth. -/
noncomputable def Try.pinned : Pinned := { name := "ytobnocioefchlaa", sum := "efdd198aa44d379fab1941d0ad6b9348e176ee705b212312b16d1f47db7c6be6", checked := Try.checked }
namespace Rows
def none {H : Type} : Left H := { results := [], args := [] }

/-- 'calquelaw11.StepFaults': WHATEVER THE INPUT: true; the input reads as it did. -/
def stepFaultsSpec : ChangeSpec := { name := "stepFaults", fn := fun _ => fun
  | [d1, d2] => { results := [.lit (.bool true)], args := [d1, d2] }
  | _ => none }
def stepFaultsRow : OpenClaim := { program := "ytobnocioefchlaa", sum := "efdd198aa44d379fab1941d0ad6b9348e176ee705b212312b16d1f47db7c6be6", func := "calque/calquelaw11.StepFaults", spec := "stepFaults", inPlace := ["sync/atomic.LoadInt64", "sync/atomic.AddInt64"], apart := false }
def StepFaultsSaid : Prop := stepFaultsRow.holds Try.pinned (OpenSpec.ofChange stepFaultsSpec)

/-- ITS FALSE NEIGHBOUR: 'it returns false'. Refute it at one input. -/
def stepFaultsWrong : ChangeSpec := { name := "stepFaults", fn := fun _ => fun
  | [d1, d2] => { results := [.lit (.bool false)], args := [d1, d2] }
  | _ => none }
def StepFaultsWrongFalsely : Prop := stepFaultsRow.holds Try.pinned (OpenSpec.ofChange stepFaultsWrong)

/-- 'calquelaw11.StepZero': WHATEVER THE INPUT: true; the input reads as it did. -/
def stepZeroSpec : ChangeSpec := { name := "stepZero", fn := fun _ => fun
  | [d1, d2, d3] => { results := [.lit (.bool true)], args := [d1, d2, d3] }
  | _ => none }
def stepZeroRow : OpenClaim := { program := "ytobnocioefchlaa", sum := "efdd198aa44d379fab1941d0ad6b9348e176ee705b212312b16d1f47db7c6be6", func := "calque/calquelaw11.StepZero", spec := "stepZero", inPlace := ["sync/atomic.LoadInt64", "sync/atomic.AddInt64"], apart := false }
def StepZeroSaid : Prop := stepZeroRow.holds Try.pinned (OpenSpec.ofChange stepZeroSpec)

/-- ITS FALSE NEIGHBOUR: 'it returns false'. Refute it at one input. -/
def stepZeroWrong : ChangeSpec := { name := "stepZero", fn := fun _ => fun
  | [d1, d2, d3] => { results := [.lit (.bool false)], args := [d1, d2, d3] }
  | _ => none }
def StepZeroWrongFalsely : Prop := stepZeroRow.holds Try.pinned (OpenSpec.ofChange stepZeroWrong)

/-- 'calquelaw11.StepJumps': WHATEVER THE INPUT: true; the input reads as it did. -/
def stepJumpsSpec : ChangeSpec := { name := "stepJumps", fn := fun _ => fun
  | [d1, d2, d3] => { results := [.lit (.bool true)], args := [d1, d2, d3] }
  | _ => none }
def stepJumpsRow : OpenClaim := { program := "ytobnocioefchlaa", sum := "efdd198aa44d379fab1941d0ad6b9348e176ee705b212312b16d1f47db7c6be6", func := "calque/calquelaw11.StepJumps", spec := "stepJumps", inPlace := ["sync/atomic.LoadInt64", "sync/atomic.AddInt64"], apart := false }
def StepJumpsSaid : Prop := stepJumpsRow.holds Try.pinned (OpenSpec.ofChange stepJumpsSpec)

/-- ITS FALSE NEIGHBOUR: 'it returns false'. Refute it at one input. -/
def stepJumpsWrong : ChangeSpec := { name := "stepJumps", fn := fun _ => fun
  | [d1, d2, d3] => { results := [.lit (.bool false)], args := [d1, d2, d3] }
  | _ => none }
def StepJumpsWrongFalsely : Prop := stepJumpsRow.holds Try.pinned (OpenSpec.ofChange stepJumpsWrong)

/-- 'calquelaw11.StepLinks': WHATEVER THE INPUT: true; the input reads as it did. -/
def stepLinksSpec : ChangeSpec := { name := "stepLinks", fn := fun _ => fun
  | [d1, d2, d3] => { results := [.lit (.bool true)], args := [d1, d2, d3] }
  | _ => none }
def stepLinksRow : OpenClaim := { program := "ytobnocioefchlaa", sum := "efdd198aa44d379fab1941d0ad6b9348e176ee705b212312b16d1f47db7c6be6", func := "calque/calquelaw11.StepLinks", spec := "stepLinks", inPlace := ["sync/atomic.LoadInt64", "sync/atomic.AddInt64"], apart := false }
def StepLinksSaid : Prop := stepLinksRow.holds Try.pinned (OpenSpec.ofChange stepLinksSpec)

/-- ITS FALSE NEIGHBOUR: 'it returns false'. Refute it at one input. -/
def stepLinksWrong : ChangeSpec := { name := "stepLinks", fn := fun _ => fun
  | [d1, d2, d3] => { results := [.lit (.bool false)], args := [d1, d2, d3] }
  | _ => none }
def StepLinksWrongFalsely : Prop := stepLinksRow.holds Try.pinned (OpenSpec.ofChange stepLinksWrong)

/- THE SECOND FORM. 'bulk': how many values and letters a reading holds, each counted each time it is reached (what is shared counts as often as it is met; a slice's spare places count too). A statement '..UptoSaid' is the law's where the arguments, and the package variables that the reading takes, are together of bulk at most 1048576: NARROWER than '..Said'. Prove '..Said' where nothing that the law and all that it calls make is longer than what came in: it says more and counts as full. Else prove '..UptoSaid'. A law counts once. -/
mutual
def uptoBulk {H : Type} : DataW H → Nat
  | .lit (.string bytes) => bytes.length + 1
  | .lit _ => 1
  | .nil => 1
  | .ptr d => uptoBulk d + 1
  | .slice elems spare => uptoBulkAll elems + uptoBulkAll spare + 1
  | .agg parts => uptoBulkAll parts + 1
  | .iface _ d => uptoBulk d + 1
  | .map entries => uptoBulkEntries entries + 1
  | .held _ => 1
def uptoBulkAll {H : Type} : List (DataW H) → Nat
  | [] => 0
  | d :: r => uptoBulk d + uptoBulkAll r
def uptoBulkEntries {H : Type} : List (Lit × DataW H) → Nat
  | [] => 0
  | x :: r => uptoBulkEntry x + uptoBulkEntries r
def uptoBulkEntry {H : Type} : Lit × DataW H → Nat
  | (.string bytes, d) => bytes.length + uptoBulk d + 1
  | (_, d) => uptoBulk d + 1
 end
def uptoSmall : (H : Type) → List (DataW H) → Bool := fun _ ds => decide (uptoBulkAll ds ≤ 1048576)
def OpenSpec.upto (s : _root_.Go.ChangeSpec) : _root_.Go.OpenSpec := { _root_.Go.OpenSpec.ofChange s with cond := some uptoSmall }

/-- 'calquelaw11.StepFaults', WHERE WHAT IT READS IS OF BULK AT MOST 1048576: true; the input reads as it did. -/
def stepFaultsUptoRow : OpenClaim := { program := "ytobnocioefchlaa", sum := "efdd198aa44d379fab1941d0ad6b9348e176ee705b212312b16d1f47db7c6be6", func := "calque/calquelaw11.StepFaults", spec := "stepFaults", inPlace := ["sync/atomic.LoadInt64", "sync/atomic.AddInt64"], apart := false, narrowed := true }
def StepFaultsUptoSaid : Prop := stepFaultsUptoRow.holds Try.pinned (OpenSpec.upto stepFaultsSpec)

/-- 'calquelaw11.StepZero', WHERE WHAT IT READS IS OF BULK AT MOST 1048576: true; the input reads as it did. -/
def stepZeroUptoRow : OpenClaim := { program := "ytobnocioefchlaa", sum := "efdd198aa44d379fab1941d0ad6b9348e176ee705b212312b16d1f47db7c6be6", func := "calque/calquelaw11.StepZero", spec := "stepZero", inPlace := ["sync/atomic.LoadInt64", "sync/atomic.AddInt64"], apart := false, narrowed := true }
def StepZeroUptoSaid : Prop := stepZeroUptoRow.holds Try.pinned (OpenSpec.upto stepZeroSpec)

/-- 'calquelaw11.StepJumps', WHERE WHAT IT READS IS OF BULK AT MOST 1048576: true; the input reads as it did. -/
def stepJumpsUptoRow : OpenClaim := { program := "ytobnocioefchlaa", sum := "efdd198aa44d379fab1941d0ad6b9348e176ee705b212312b16d1f47db7c6be6", func := "calque/calquelaw11.StepJumps", spec := "stepJumps", inPlace := ["sync/atomic.LoadInt64", "sync/atomic.AddInt64"], apart := false, narrowed := true }
def StepJumpsUptoSaid : Prop := stepJumpsUptoRow.holds Try.pinned (OpenSpec.upto stepJumpsSpec)

/-- 'calquelaw11.StepLinks', WHERE WHAT IT READS IS OF BULK AT MOST 1048576: true; the input reads as it did. -/
def stepLinksUptoRow : OpenClaim := { program := "ytobnocioefchlaa", sum := "efdd198aa44d379fab1941d0ad6b9348e176ee705b212312b16d1f47db7c6be6", func := "calque/calquelaw11.StepLinks", spec := "stepLinks", inPlace := ["sync/atomic.LoadInt64", "sync/atomic.AddInt64"], apart := false, narrowed := true }
def StepLinksUptoSaid : Prop := stepLinksUptoRow.holds Try.pinned (OpenSpec.upto stepLinksSpec)

end Rows
end Go.Proofs.Ytobnocioefchlaa

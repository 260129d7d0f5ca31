/-
  No cell of these rows narrows 'for every input' (looked for: loops, veiled, ifaces, maps, wideKeys, modest, calm, conditions, laid).
  DERIVED. THE GIVEN ROWS OF THIS SEAT. 4 by the template 'for every input the law returns true; each argument reads behind the call as it read before'; 0 by the template 'total and deterministic' (their statements: YtpknppicamefgaaTotals.lean).
  GIVEN WITH THE SEED: the statements are not yours to turn. If you find one false, say at which input.
  Laid BY PROGRAM, IN A SANDBOX (cutbox-rows.mjs): the forced cells as the released guide's own fill.sh prints them over the translation 724ebcd8d0862181… (all of the seat's roots in one cut). By AI agents, Wed Nov 11 2026. No macro, syntax, notation, axiom, sorry.
-/
import Derived.Test.YtpknppicamefgaaChecked
import GoSem.Claim
import GoSem.ClaimJoined
import GoSem.ClaimMapViews
import Derived.JoinedTies
import Derived.KernelRfl
namespace Go.Proofs.Ytpknppicamefgaa
/- THE CELL 'sum', in the pinned program and in every row, IS THE sha256 OF THE DUMP (.gsa) THAT YtpknppicamefgaaProg.lean LOADS. Nothing in Lean hashes anything: it is a label: what it is worth is what the hold of that sum in a sandbox is worth. -/
noncomputable def Try.pinned : Pinned := { name := "ytpknppicamefgaa", sum := "724ebcd8d0862181231d61045b0aac160fca2224a1b835c0c28afb18227fabed", checked := Try.checked }
namespace Rows
def none {H : Type} : Left H := { results := [], args := [] }

/-- 'calquelaw07.LoadAll': WHATEVER THE INPUT: true; the input reads as it did. -/
def loadAllSpec : ChangeSpec := { name := "loadAll", fn := fun _ => fun
  | [d1, d2] => { results := [.lit (.bool true)], args := [d1, d2] }
  | _ => none }
def loadAllRow : OpenClaim := { program := "ytpknppicamefgaa", sum := "724ebcd8d0862181231d61045b0aac160fca2224a1b835c0c28afb18227fabed", func := "calque/calquelaw07.LoadAll", spec := "loadAll", inPlace := ["sync/atomic.LoadInt64", "sync/atomic.AddInt64"], unfollowed := true, recurses := true, apart := false }
def LoadAllSaid : Prop := loadAllRow.holds Try.pinned (OpenSpec.ofChange loadAllSpec)

/-- ITS FALSE NEIGHBOUR: 'it returns false'. Refute it at one input. -/
def loadAllWrong : ChangeSpec := { name := "loadAll", fn := fun _ => fun
  | [d1, d2] => { results := [.lit (.bool false)], args := [d1, d2] }
  | _ => none }
def LoadAllWrongFalsely : Prop := loadAllRow.holds Try.pinned (OpenSpec.ofChange loadAllWrong)

/-- 'calquelaw07.LoadBytes': WHATEVER THE INPUT: true; the input reads as it did. -/
def loadBytesSpec : ChangeSpec := { name := "loadBytes", fn := fun _ => fun
  | [d1, d2] => { results := [.lit (.bool true)], args := [d1, d2] }
  | _ => none }
def loadBytesRow : OpenClaim := { program := "ytpknppicamefgaa", sum := "724ebcd8d0862181231d61045b0aac160fca2224a1b835c0c28afb18227fabed", func := "calque/calquelaw07.LoadBytes", spec := "loadBytes", inPlace := ["sync/atomic.LoadInt64", "sync/atomic.AddInt64"], unfollowed := true, recurses := true, apart := false }
def LoadBytesSaid : Prop := loadBytesRow.holds Try.pinned (OpenSpec.ofChange loadBytesSpec)

/-- ITS FALSE NEIGHBOUR: 'it returns false'. Refute it at one input. -/
def loadBytesWrong : ChangeSpec := { name := "loadBytes", fn := fun _ => fun
  | [d1, d2] => { results := [.lit (.bool false)], args := [d1, d2] }
  | _ => none }
def LoadBytesWrongFalsely : Prop := loadBytesRow.holds Try.pinned (OpenSpec.ofChange loadBytesWrong)

/-- 'calquelaw07.LoadDigests': WHATEVER THE INPUT: true; the input reads as it did. -/
def loadDigestsSpec : ChangeSpec := { name := "loadDigests", fn := fun _ => fun
  | [d1, d2, d3] => { results := [.lit (.bool true)], args := [d1, d2, d3] }
  | _ => none }
def loadDigestsRow : OpenClaim := { program := "ytpknppicamefgaa", sum := "724ebcd8d0862181231d61045b0aac160fca2224a1b835c0c28afb18227fabed", func := "calque/calquelaw07.LoadDigests", spec := "loadDigests", inPlace := ["sync/atomic.LoadInt64", "sync/atomic.AddInt64"], unfollowed := true, recurses := true, apart := false }
def LoadDigestsSaid : Prop := loadDigestsRow.holds Try.pinned (OpenSpec.ofChange loadDigestsSpec)

/-- ITS FALSE NEIGHBOUR: 'it returns false'. Refute it at one input. -/
def loadDigestsWrong : ChangeSpec := { name := "loadDigests", fn := fun _ => fun
  | [d1, d2, d3] => { results := [.lit (.bool false)], args := [d1, d2, d3] }
  | _ => none }
def LoadDigestsWrongFalsely : Prop := loadDigestsRow.holds Try.pinned (OpenSpec.ofChange loadDigestsWrong)

/-- 'calquelaw07.LoadPages': WHATEVER THE INPUT: true; the input reads as it did. -/
def loadPagesSpec : ChangeSpec := { name := "loadPages", fn := fun _ => fun
  | [d1, d2, d3] => { results := [.lit (.bool true)], args := [d1, d2, d3] }
  | _ => none }
def loadPagesRow : OpenClaim := { program := "ytpknppicamefgaa", sum := "724ebcd8d0862181231d61045b0aac160fca2224a1b835c0c28afb18227fabed", func := "calque/calquelaw07.LoadPages", spec := "loadPages", inPlace := ["sync/atomic.LoadInt64", "sync/atomic.AddInt64"], unfollowed := true, recurses := true, apart := false }
def LoadPagesSaid : Prop := loadPagesRow.holds Try.pinned (OpenSpec.ofChange loadPagesSpec)

/-- ITS FALSE NEIGHBOUR: 'it returns false'. Refute it at one input. -/
def loadPagesWrong : ChangeSpec := { name := "loadPages", fn := fun _ => fun
  | [d1, d2, d3] => { results := [.lit (.bool false)], args := [d1, d2, d3] }
  | _ => none }
def LoadPagesWrongFalsely : Prop := loadPagesRow.holds Try.pinned (OpenSpec.ofChange loadPagesWrong)

/- THE SECOND FORM. 'bulk': how many values and letters a reading holds, each counted each time it is reached (what is shared counts as often as it is met; a slice's spare places count too). A statement '..UptoSaid' is the law's where the arguments, and the package variables that the reading takes, are together of bulk at most 1048576: NARROWER than '..Said'. Prove '..Said' where nothing that the law and all that it calls make is longer than what came in: it says more and counts as full. Else prove '..UptoSaid'. A law counts once. -/
mutual
def uptoBulk {H : Type} : DataW H → Nat
  | .lit (.string bytes) => bytes.length + 1
  | .lit _ => 1
  | .nil => 1
  | .ptr d => uptoBulk d + 1
  | .slice elems spare => uptoBulkAll elems + uptoBulkAll spare + 1
  | .agg parts => uptoBulkAll parts + 1
  | .iface _ d => uptoBulk d + 1
  | .map entries => uptoBulkEntries entries + 1
  | .held _ => 1
def uptoBulkAll {H : Type} : List (DataW H) → Nat
  | [] => 0
  | d :: r => uptoBulk d + uptoBulkAll r
def uptoBulkEntries {H : Type} : List (Lit × DataW H) → Nat
  | [] => 0
  | x :: r => uptoBulkEntry x + uptoBulkEntries r
def uptoBulkEntry {H : Type} : Lit × DataW H → Nat
  | (.string bytes, d) => bytes.length + uptoBulk d + 1
  | (_, d) => uptoBulk d + 1
 end
def uptoSmall : (H : Type) → List (DataW H) → Bool := fun _ ds => decide (uptoBulkAll ds ≤ 1048576)
def OpenSpec.upto (s : _root_.Go.ChangeSpec) : _root_.Go.OpenSpec := { _root_.Go.OpenSpec.ofChange s with cond := some uptoSmall }

/-- 'calquelaw07.LoadAll', WHERE WHAT IT READS IS OF BULK AT MOST 1048576: true; the input reads as it did. -/
def loadAllUptoRow : OpenClaim := { program := "ytpknppicamefgaa", sum := "724ebcd8d0862181231d61045b0aac160fca2224a1b835c0c28afb18227fabed", func := "calque/calquelaw07.LoadAll", spec := "loadAll", inPlace := ["sync/atomic.LoadInt64", "sync/atomic.AddInt64"], unfollowed := true, recurses := true, apart := false, narrowed := true }
def LoadAllUptoSaid : Prop := loadAllUptoRow.holds Try.pinned (OpenSpec.upto loadAllSpec)

/-- 'calquelaw07.LoadBytes', WHERE WHAT IT READS IS OF BULK AT MOST 1048576: true; the input reads as it did. -/
def loadBytesUptoRow : OpenClaim := { program := "ytpknppicamefgaa", sum := "724ebcd8d0862181231d61045b0aac160fca2224a1b835c0c28afb18227fabed", func := "calque/calquelaw07.LoadBytes", spec := "loadBytes", inPlace := ["sync/atomic.LoadInt64", "sync/atomic.AddInt64"], unfollowed := true, recurses := true, apart := false, narrowed := true }
def LoadBytesUptoSaid : Prop := loadBytesUptoRow.holds Try.pinned (OpenSpec.upto loadBytesSpec)

/-- 'calquelaw07.LoadDigests', WHERE WHAT IT READS IS OF BULK AT MOST 1048576: true; the input reads as it did. -/
def loadDigestsUptoRow : OpenClaim := { program := "ytpknppicamefgaa", sum := "724ebcd8d0862181231d61045b0aac160fca2224a1b835c0c28afb18227fabed", func := "calque/calquelaw07.LoadDigests", spec := "loadDigests", inPlace := ["sync/atomic.LoadInt64", "sync/atomic.AddInt64"], unfollowed := true, recurses := true, apart := false, narrowed := true }
def LoadDigestsUptoSaid : Prop := loadDigestsUptoRow.holds Try.pinned (OpenSpec.upto loadDigestsSpec)

/-- 'calquelaw07.LoadPages', WHERE WHAT IT READS IS OF BULK AT MOST 1048576: true; the input reads as it did. -/
def loadPagesUptoRow : OpenClaim := { program := "ytpknppicamefgaa", sum := "724ebcd8d0862181231d61045b0aac160fca2224a1b835c0c28afb18227fabed", func := "calque/calquelaw07.LoadPages", spec := "loadPages", inPlace := ["sync/atomic.LoadInt64", "sync/atomic.AddInt64"], unfollowed := true, recurses := true, apart := false, narrowed := true }
def LoadPagesUptoSaid : Prop := loadPagesUptoRow.holds Try.pinned (OpenSpec.upto loadPagesSpec)

end Rows
end Go.Proofs.Ytpknppicamefgaa

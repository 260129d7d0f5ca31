/-
  No cell of these rows narrows 'for every input' (looked for: loops, veiled, ifaces, maps, wideKeys, modest, calm, conditions, laid).
  DERIVED. THE GIVEN ROWS OF THIS SEAT. 5 by the template 'for every input the law returns true; each argument reads behind the call as it read before'; 0 by the template 'total and deterministic' (their statements: YtjpmagekianpdaaTotals.lean).
  GIVEN WITH THE SEED: the statements are not yours to turn. If you find one false, say at which input.
  Laid BY PROGRAM, IN A SANDBOX (cutbox-rows.mjs): the forced cells as the released guide's own fill.sh prints them over the translation 76ac8e15459b2987… (all of the seat's roots in one cut). By AI agents, Wed Nov 11 2026. No macro, syntax, notation, axiom, sorry.
-/
import Derived.Test.YtjpmagekianpdaaChecked
import GoSem.Claim
import GoSem.ClaimJoined
import GoSem.ClaimMapViews
import Derived.JoinedTies
import Derived.KernelRfl
namespace Go.Proofs.Ytjpmagekianpdaa
/- THE CELL 'sum', in the pinned program and in every row, IS THE sha256 OF THE DUMP (.gsa) THAT YtjpmagekianpdaaProg.lean LOADS. Nothing in Lean hashes anything: it is a label: what it is worth is what the hold of that sum in a sandbox is worth. -/
noncomputable def Try.pinned : Pinned := { name := "ytjpmagekianpdaa", sum := "76ac8e15459b29872eb14498fa0f41095189d765e89984998e3fbf51b3916ca8", checked := Try.checked }
namespace Rows
def none {H : Type} : Left H := { results := [], args := [] }

/-- 'calquelaw06.ElfAll': WHATEVER THE INPUT: true; the input reads as it did. -/
def elfAllSpec : ChangeSpec := { name := "elfAll", fn := fun _ => fun
  | [d1, d2] => { results := [.lit (.bool true)], args := [d1, d2] }
  | _ => none }
def elfAllRow : OpenClaim := { program := "ytjpmagekianpdaa", sum := "76ac8e15459b29872eb14498fa0f41095189d765e89984998e3fbf51b3916ca8", func := "calque/calquelaw06.ElfAll", spec := "elfAll", apart := false }
def ElfAllSaid : Prop := elfAllRow.holds Try.pinned (OpenSpec.ofChange elfAllSpec)

/-- ITS FALSE NEIGHBOUR: 'it returns false'. Refute it at one input. -/
def elfAllWrong : ChangeSpec := { name := "elfAll", fn := fun _ => fun
  | [d1, d2] => { results := [.lit (.bool false)], args := [d1, d2] }
  | _ => none }
def ElfAllWrongFalsely : Prop := elfAllRow.holds Try.pinned (OpenSpec.ofChange elfAllWrong)

/-- 'calquelaw06.ElfBack': WHATEVER THE INPUT: true; the input reads as it did. -/
def elfBackSpec : ChangeSpec := { name := "elfBack", fn := fun _ => fun
  | [d] => { results := [.lit (.bool true)], args := [d] }
  | _ => none }
def elfBackRow : OpenClaim := { program := "ytjpmagekianpdaa", sum := "76ac8e15459b29872eb14498fa0f41095189d765e89984998e3fbf51b3916ca8", func := "calque/calquelaw06.ElfBack", spec := "elfBack", apart := false }
def ElfBackSaid : Prop := elfBackRow.holds Try.pinned (OpenSpec.ofChange elfBackSpec)

/-- ITS FALSE NEIGHBOUR: 'it returns false'. Refute it at one input. -/
def elfBackWrong : ChangeSpec := { name := "elfBack", fn := fun _ => fun
  | [d] => { results := [.lit (.bool false)], args := [d] }
  | _ => none }
def ElfBackWrongFalsely : Prop := elfBackRow.holds Try.pinned (OpenSpec.ofChange elfBackWrong)

/-- 'calquelaw06.ElfRight': WHATEVER THE INPUT: true; the input reads as it did. -/
def elfRightSpec : ChangeSpec := { name := "elfRight", fn := fun _ => fun
  | [d1, d2, d3, d4] => { results := [.lit (.bool true)], args := [d1, d2, d3, d4] }
  | _ => none }
def elfRightRow : OpenClaim := { program := "ytjpmagekianpdaa", sum := "76ac8e15459b29872eb14498fa0f41095189d765e89984998e3fbf51b3916ca8", func := "calque/calquelaw06.ElfRight", spec := "elfRight", apart := false }
def ElfRightSaid : Prop := elfRightRow.holds Try.pinned (OpenSpec.ofChange elfRightSpec)

/-- ITS FALSE NEIGHBOUR: 'it returns false'. Refute it at one input. -/
def elfRightWrong : ChangeSpec := { name := "elfRight", fn := fun _ => fun
  | [d1, d2, d3, d4] => { results := [.lit (.bool false)], args := [d1, d2, d3, d4] }
  | _ => none }
def ElfRightWrongFalsely : Prop := elfRightRow.holds Try.pinned (OpenSpec.ofChange elfRightWrong)

/-- 'calquelaw06.ElfSpoilt': WHATEVER THE INPUT: true; the input reads as it did. -/
def elfSpoiltSpec : ChangeSpec := { name := "elfSpoilt", fn := fun _ => fun
  | [d1, d2, d3] => { results := [.lit (.bool true)], args := [d1, d2, d3] }
  | _ => none }
def elfSpoiltRow : OpenClaim := { program := "ytjpmagekianpdaa", sum := "76ac8e15459b29872eb14498fa0f41095189d765e89984998e3fbf51b3916ca8", func := "calque/calquelaw06.ElfSpoilt", spec := "elfSpoilt", apart := false }
def ElfSpoiltSaid : Prop := elfSpoiltRow.holds Try.pinned (OpenSpec.ofChange elfSpoiltSpec)

/-- ITS FALSE NEIGHBOUR: 'it returns false'. Refute it at one input. -/
def elfSpoiltWrong : ChangeSpec := { name := "elfSpoilt", fn := fun _ => fun
  | [d1, d2, d3] => { results := [.lit (.bool false)], args := [d1, d2, d3] }
  | _ => none }
def ElfSpoiltWrongFalsely : Prop := elfSpoiltRow.holds Try.pinned (OpenSpec.ofChange elfSpoiltWrong)

/-- 'calquelaw06.ElfMany': WHATEVER THE INPUT: true; the input reads as it did. -/
def elfManySpec : ChangeSpec := { name := "elfMany", fn := fun _ => fun
  | [d1, d2, d3] => { results := [.lit (.bool true)], args := [d1, d2, d3] }
  | _ => none }
def elfManyRow : OpenClaim := { program := "ytjpmagekianpdaa", sum := "76ac8e15459b29872eb14498fa0f41095189d765e89984998e3fbf51b3916ca8", func := "calque/calquelaw06.ElfMany", spec := "elfMany", apart := false }
def ElfManySaid : Prop := elfManyRow.holds Try.pinned (OpenSpec.ofChange elfManySpec)

/-- ITS FALSE NEIGHBOUR: 'it returns false'. Refute it at one input. -/
def elfManyWrong : ChangeSpec := { name := "elfMany", fn := fun _ => fun
  | [d1, d2, d3] => { results := [.lit (.bool false)], args := [d1, d2, d3] }
  | _ => none }
def ElfManyWrongFalsely : Prop := elfManyRow.holds Try.pinned (OpenSpec.ofChange elfManyWrong)

/- THE SECOND FORM. 'bulk': how many values and letters a reading holds, each counted each time it is reached (what is shared counts as often as it is met; a slice's spare places count too). A statement '..UptoSaid' is the law's where the arguments, and the package variables that the reading takes, are together of bulk at most 1048576: NARROWER than '..Said'. Prove '..Said' where nothing that the law and all that it calls make is longer than what came in: it says more and counts as full. Else prove '..UptoSaid'. A law counts once. -/
mutual
def uptoBulk {H : Type} : DataW H → Nat
  | .lit (.string bytes) => bytes.length + 1
  | .lit _ => 1
  | .nil => 1
  | .ptr d => uptoBulk d + 1
  | .slice elems spare => uptoBulkAll elems + uptoBulkAll spare + 1
  | .agg parts => uptoBulkAll parts + 1
  | .iface _ d => uptoBulk d + 1
  | .map entries => uptoBulkEntries entries + 1
  | .held _ => 1
def uptoBulkAll {H : Type} : List (DataW H) → Nat
  | [] => 0
  | d :: r => uptoBulk d + uptoBulkAll r
def uptoBulkEntries {H : Type} : List (Lit × DataW H) → Nat
  | [] => 0
  | x :: r => uptoBulkEntry x + uptoBulkEntries r
def uptoBulkEntry {H : Type} : Lit × DataW H → Nat
  | (.string bytes, d) => bytes.length + uptoBulk d + 1
  | (_, d) => uptoBulk d + 1
 end
def uptoSmall : (H : Type) → List (DataW H) → Bool := fun _ ds => decide (uptoBulkAll ds ≤ 1048576)
def OpenSpec.upto (s : _root_.Go.ChangeSpec) : _root_.Go.OpenSpec := { _root_.Go.OpenSpec.ofChange s with cond := some uptoSmall }

/-- 'calquelaw06.ElfAll', WHERE WHAT IT READS IS OF BULK AT MOST 1048576: true; the input reads as it did. -/
def elfAllUptoRow : OpenClaim := { program := "ytjpmagekianpdaa", sum := "76ac8e15459b29872eb14498fa0f41095189d765e89984998e3fbf51b3916ca8", func := "calque/calquelaw06.ElfAll", spec := "elfAll", apart := false, narrowed := true }
def ElfAllUptoSaid : Prop := elfAllUptoRow.holds Try.pinned (OpenSpec.upto elfAllSpec)

/-- 'calquelaw06.ElfBack', WHERE WHAT IT READS IS OF BULK AT MOST 1048576: true; the input reads as it did. -/
def elfBackUptoRow : OpenClaim := { program := "ytjpmagekianpdaa", sum := "76ac8e15459b29872eb14498fa0f41095189d765e89984998e3fbf51b3916ca8", func := "calque/calquelaw06.ElfBack", spec := "elfBack", apart := false, narrowed := true }
def ElfBackUptoSaid : Prop := elfBackUptoRow.holds Try.pinned (OpenSpec.upto elfBackSpec)

/-- 'calquelaw06.ElfRight', WHERE WHAT IT READS IS OF BULK AT MOST 1048576: true; the input reads as it did. -/
def elfRightUptoRow : OpenClaim := { program := "ytjpmagekianpdaa", sum := "76ac8e15459b29872eb14498fa0f41095189d765e89984998e3fbf51b3916ca8", func := "calque/calquelaw06.ElfRight", spec := "elfRight", apart := false, narrowed := true }
def ElfRightUptoSaid : Prop := elfRightUptoRow.holds Try.pinned (OpenSpec.upto elfRightSpec)

/-- 'calquelaw06.ElfSpoilt', WHERE WHAT IT READS IS OF BULK AT MOST 1048576: true; the input reads as it did. -/
def elfSpoiltUptoRow : OpenClaim := { program := "ytjpmagekianpdaa", sum := "76ac8e15459b29872eb14498fa0f41095189d765e89984998e3fbf51b3916ca8", func := "calque/calquelaw06.ElfSpoilt", spec := "elfSpoilt", apart := false, narrowed := true }
def ElfSpoiltUptoSaid : Prop := elfSpoiltUptoRow.holds Try.pinned (OpenSpec.upto elfSpoiltSpec)

/-- 'calquelaw06.ElfMany', WHERE WHAT IT READS IS OF BULK AT MOST 1048576: true; the input reads as it did. -/
def elfManyUptoRow : OpenClaim := { program := "ytjpmagekianpdaa", sum := "76ac8e15459b29872eb14498fa0f41095189d765e89984998e3fbf51b3916ca8", func := "calque/calquelaw06.ElfMany", spec := "elfMany", apart := false, narrowed := true }
def ElfManyUptoSaid : Prop := elfManyUptoRow.holds Try.pinned (OpenSpec.upto elfManySpec)

end Rows
end Go.Proofs.Ytjpmagekianpdaa

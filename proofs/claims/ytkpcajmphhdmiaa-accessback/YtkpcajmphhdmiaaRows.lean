/-
  No cell of these rows narrows 'for every input' (looked for: loops, veiled, ifaces, maps, wideKeys, modest, calm, conditions, laid).
  DERIVED. THE GIVEN ROWS OF THIS SEAT. 4 by the template 'for every input the law returns true; each argument reads behind the call as it read before'; 0 by the template 'total and deterministic' (their statements: YtkpcajmphhdmiaaTotals.lean).
  GIVEN WITH THE SEED: the statements are not yours to turn. If you find one false, say at which input.
  Laid BY PROGRAM, IN A SANDBOX (cutbox-rows.mjs): the forced cells as the released guide's own fill.sh prints them over the translation 89559da02ed1b165… (all of the seat's roots in one cut). By AI agents, Wed Nov 11 2026. No macro, syntax, notation, axiom, sorry.
-/
import Derived.Test.YtkpcajmphhdmiaaChecked
import GoSem.Claim
import GoSem.ClaimJoined
import GoSem.ClaimMapViews
import Derived.JoinedTies
import Derived.KernelRfl
namespace Go.Proofs.Ytkpcajmphhdmiaa
/- THE CELL 'sum', in the pinned program and in every row, IS THE sha256 OF THE DUMP (.gsa) THAT YtkpcajmphhdmiaaProg.lean LOADS. Nothing in Lean hashes anything: it is a label: what it is worth is what the hold of that sum in a sandbox is worth. -/
noncomputable def Try.pinned : Pinned := { name := "ytkpcajmphhdmiaa", sum := "89559da02ed1b165cb7600914f37f740f35a4dbb7ccc7356e421bbcc165d6975", checked := Try.checked }
namespace Rows
def none {H : Type} : Left H := { results := [], args := [] }

/-- 'calquelaw10.AccessAll': WHATEVER THE INPUT: true; the input reads as it did. -/
def accessAllSpec : ChangeSpec := { name := "accessAll", fn := fun _ => fun
  | [d1, d2, d3, d4] => { results := [.lit (.bool true)], args := [d1, d2, d3, d4] }
  | _ => none }
def accessAllRow : OpenClaim := { program := "ytkpcajmphhdmiaa", sum := "89559da02ed1b165cb7600914f37f740f35a4dbb7ccc7356e421bbcc165d6975", func := "calque/calquelaw10.AccessAll", spec := "accessAll", inPlace := ["sync/atomic.LoadInt64", "sync/atomic.AddInt64"], unfollowed := true, recurses := true, apart := false }
def AccessAllSaid : Prop := accessAllRow.holds Try.pinned (OpenSpec.ofChange accessAllSpec)

/-- ITS FALSE NEIGHBOUR: 'it returns false'. Refute it at one input. -/
def accessAllWrong : ChangeSpec := { name := "accessAll", fn := fun _ => fun
  | [d1, d2, d3, d4] => { results := [.lit (.bool false)], args := [d1, d2, d3, d4] }
  | _ => none }
def AccessAllWrongFalsely : Prop := accessAllRow.holds Try.pinned (OpenSpec.ofChange accessAllWrong)

/-- 'calquelaw10.AccessBack': WHATEVER THE INPUT: true; the input reads as it did. -/
def accessBackSpec : ChangeSpec := { name := "accessBack", fn := fun _ => fun
  | [d1, d2, d3] => { results := [.lit (.bool true)], args := [d1, d2, d3] }
  | _ => none }
def accessBackRow : OpenClaim := { program := "ytkpcajmphhdmiaa", sum := "89559da02ed1b165cb7600914f37f740f35a4dbb7ccc7356e421bbcc165d6975", func := "calque/calquelaw10.AccessBack", spec := "accessBack", inPlace := ["sync/atomic.LoadInt64", "sync/atomic.AddInt64"], apart := false }
def AccessBackSaid : Prop := accessBackRow.holds Try.pinned (OpenSpec.ofChange accessBackSpec)

/-- ITS FALSE NEIGHBOUR: 'it returns false'. Refute it at one input. -/
def accessBackWrong : ChangeSpec := { name := "accessBack", fn := fun _ => fun
  | [d1, d2, d3] => { results := [.lit (.bool false)], args := [d1, d2, d3] }
  | _ => none }
def AccessBackWrongFalsely : Prop := accessBackRow.holds Try.pinned (OpenSpec.ofChange accessBackWrong)

/-- 'calquelaw10.AccessPerms': WHATEVER THE INPUT: true; the input reads as it did. -/
def accessPermsSpec : ChangeSpec := { name := "accessPerms", fn := fun _ => fun
  | [d1, d2] => { results := [.lit (.bool true)], args := [d1, d2] }
  | _ => none }
def accessPermsRow : OpenClaim := { program := "ytkpcajmphhdmiaa", sum := "89559da02ed1b165cb7600914f37f740f35a4dbb7ccc7356e421bbcc165d6975", func := "calque/calquelaw10.AccessPerms", spec := "accessPerms", inPlace := ["sync/atomic.LoadInt64", "sync/atomic.AddInt64"], apart := false }
def AccessPermsSaid : Prop := accessPermsRow.holds Try.pinned (OpenSpec.ofChange accessPermsSpec)

/-- ITS FALSE NEIGHBOUR: 'it returns false'. Refute it at one input. -/
def accessPermsWrong : ChangeSpec := { name := "accessPerms", fn := fun _ => fun
  | [d1, d2] => { results := [.lit (.bool false)], args := [d1, d2] }
  | _ => none }
def AccessPermsWrongFalsely : Prop := accessPermsRow.holds Try.pinned (OpenSpec.ofChange accessPermsWrong)

/-- 'calquelaw10.AccessSigns': WHATEVER THE INPUT: true; the input reads as it did. -/
def accessSignsSpec : ChangeSpec := { name := "accessSigns", fn := fun _ => fun
  | [d1, d2] => { results := [.lit (.bool true)], args := [d1, d2] }
  | _ => none }
def accessSignsRow : OpenClaim := { program := "ytkpcajmphhdmiaa", sum := "89559da02ed1b165cb7600914f37f740f35a4dbb7ccc7356e421bbcc165d6975", func := "calque/calquelaw10.AccessSigns", spec := "accessSigns", inPlace := ["sync/atomic.LoadInt64", "sync/atomic.AddInt64"], apart := false }
def AccessSignsSaid : Prop := accessSignsRow.holds Try.pinned (OpenSpec.ofChange accessSignsSpec)

/-- ITS FALSE NEIGHBOUR: 'it returns false'. Refute it at one input. -/
def accessSignsWrong : ChangeSpec := { name := "accessSigns", fn := fun _ => fun
  | [d1, d2] => { results := [.lit (.bool false)], args := [d1, d2] }
  | _ => none }
def AccessSignsWrongFalsely : Prop := accessSignsRow.holds Try.pinned (OpenSpec.ofChange accessSignsWrong)

/- THE SECOND FORM. 'bulk': how many values and letters a reading holds, each counted each time it is reached (what is shared counts as often as it is met; a slice's spare places count too). A statement '..UptoSaid' is the law's where the arguments, and the package variables that the reading takes, are together of bulk at most 1048576: NARROWER than '..Said'. Prove '..Said' where nothing that the law and all that it calls make is longer than what came in: it says more and counts as full. Else prove '..UptoSaid'. A law counts once. -/
mutual
def uptoBulk {H : Type} : DataW H → Nat
  | .lit (.string bytes) => bytes.length + 1
  | .lit _ => 1
  | .nil => 1
  | .ptr d => uptoBulk d + 1
  | .slice elems spare => uptoBulkAll elems + uptoBulkAll spare + 1
  | .agg parts => uptoBulkAll parts + 1
  | .iface _ d => uptoBulk d + 1
  | .map entries => uptoBulkEntries entries + 1
  | .held _ => 1
def uptoBulkAll {H : Type} : List (DataW H) → Nat
  | [] => 0
  | d :: r => uptoBulk d + uptoBulkAll r
def uptoBulkEntries {H : Type} : List (Lit × DataW H) → Nat
  | [] => 0
  | x :: r => uptoBulkEntry x + uptoBulkEntries r
def uptoBulkEntry {H : Type} : Lit × DataW H → Nat
  | (.string bytes, d) => bytes.length + uptoBulk d + 1
  | (_, d) => uptoBulk d + 1
 end
def uptoSmall : (H : Type) → List (DataW H) → Bool := fun _ ds => decide (uptoBulkAll ds ≤ 1048576)
def OpenSpec.upto (s : _root_.Go.ChangeSpec) : _root_.Go.OpenSpec := { _root_.Go.OpenSpec.ofChange s with cond := some uptoSmall }

/-- 'calquelaw10.AccessAll', WHERE WHAT IT READS IS OF BULK AT MOST 1048576: true; the input reads as it did. -/
def accessAllUptoRow : OpenClaim := { program := "ytkpcajmphhdmiaa", sum := "89559da02ed1b165cb7600914f37f740f35a4dbb7ccc7356e421bbcc165d6975", func := "calque/calquelaw10.AccessAll", spec := "accessAll", inPlace := ["sync/atomic.LoadInt64", "sync/atomic.AddInt64"], unfollowed := true, recurses := true, apart := false, narrowed := true }
def AccessAllUptoSaid : Prop := accessAllUptoRow.holds Try.pinned (OpenSpec.upto accessAllSpec)

/-- 'calquelaw10.AccessBack', WHERE WHAT IT READS IS OF BULK AT MOST 1048576: true; the input reads as it did. -/
def accessBackUptoRow : OpenClaim := { program := "ytkpcajmphhdmiaa", sum := "89559da02ed1b165cb7600914f37f740f35a4dbb7ccc7356e421bbcc165d6975", func := "calque/calquelaw10.AccessBack", spec := "accessBack", inPlace := ["sync/atomic.LoadInt64", "sync/atomic.AddInt64"], apart := false, narrowed := true }
def AccessBackUptoSaid : Prop := accessBackUptoRow.holds Try.pinned (OpenSpec.upto accessBackSpec)

/-- 'calquelaw10.AccessPerms', WHERE WHAT IT READS IS OF BULK AT MOST 1048576: true; the input reads as it did. -/
def accessPermsUptoRow : OpenClaim := { program := "ytkpcajmphhdmiaa", sum := "89559da02ed1b165cb7600914f37f740f35a4dbb7ccc7356e421bbcc165d6975", func := "calque/calquelaw10.AccessPerms", spec := "accessPerms", inPlace := ["sync/atomic.LoadInt64", "sync/atomic.AddInt64"], apart := false, narrowed := true }
def AccessPermsUptoSaid : Prop := accessPermsUptoRow.holds Try.pinned (OpenSpec.upto accessPermsSpec)

/-- 'calquelaw10.AccessSigns', WHERE WHAT IT READS IS OF BULK AT MOST 1048576: true; the input reads as it did. -/
def accessSignsUptoRow : OpenClaim := { program := "ytkpcajmphhdmiaa", sum := "89559da02ed1b165cb7600914f37f740f35a4dbb7ccc7356e421bbcc165d6975", func := "calque/calquelaw10.AccessSigns", spec := "accessSigns", inPlace := ["sync/atomic.LoadInt64", "sync/atomic.AddInt64"], apart := false, narrowed := true }
def AccessSignsUptoSaid : Prop := accessSignsUptoRow.holds Try.pinned (OpenSpec.upto accessSignsSpec)

end Rows
end Go.Proofs.Ytkpcajmphhdmiaa

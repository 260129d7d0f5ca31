/- Same: two pages, two memories held against each other. -/
import Derived.Test.YtpknppicamefgaaAwake
import Derived.Deep.LoopGhost
import Derived.Laws.Strings
namespace Go.Proofs.Ytpknppicamefgaa
open Go.ChangeShapes Go.WideShapes Go.ChangeAt Go.RowKit
set_option linter.unusedVariables false
theorem bytes_ne {l m : List UInt8} (h : l ≠ m) : ((⟨l.toArray⟩ : ByteArray).toList == (⟨m.toArray⟩ : ByteArray).toList) = false := by
  rw [ByteArray.toList_eq, ByteArray.toList_eq]
  simpa using h
theorem partB_all (l : List UInt8) (h : l.length = 256) : partB l 0 256 = l := by
  unfold partB
  simp [List.take_of_length_le, h]
def goodAt (s t : MS) (k : Nat) : Bool := decide (k ∈ t.ks) && decide (s.pm k = t.pm k ∧ s.data k = t.data k)
def sameM (s t : MS) : Bool := decide (s.ks.length = t.ks.length) && s.ks.all (goodAt s t)
theorem pageOf_key {k : Nat} (h : k % 256 = 0) : pageOf k = k := by unfold pageOf; omega
end Go.Proofs.Ytpknppicamefgaa

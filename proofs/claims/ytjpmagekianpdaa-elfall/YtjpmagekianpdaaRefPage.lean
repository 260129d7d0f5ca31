/- Chapter 6's own first and last page of a segment. -/
import Derived.Test.YtjpmagekianpdaaSegs
namespace Go.Proofs.Ytjpmagekianpdaa
open Go.ChangeShapes Go.WideShapes Go.ChangeAt Go.RowKit
set_option maxRecDepth 20000 in
theorem rfirst_any (s : Sg) (h : okB s = true) (w : World) : Calls Try.prog 35 #[.agg #[.int .u32 (s.at_ : Int), .string ⟨s.data.toArray⟩, .int .u32 (s.size : Int), .int .i64 s.perm]] w fun e w' => e = .returned (.int .i64 ((s.at_ / 256 : Nat) : Int)) ∧ Below w.heap.size w w' := by
  obtain ⟨h1, h2, h3, h4, h5, h6⟩ := ok_size h
  obtain ⟨at_, data, size, perm⟩ := s
  clear h
  simp only at h1 h2 h3 h4 h5 h6 ⊢
  go_enter Try.func35, Try.ntmps35
  go_wp2
  go_ret
  exact ⟨ret_int (by omega), (Below.refl _ _).alloc (Nat.le_refl _) _⟩
set_option maxRecDepth 20000 in
theorem rlast_any (s : Sg) (h : okB s = true) (w : World) : Calls Try.prog 36 #[.agg #[.int .u32 (s.at_ : Int), .string ⟨s.data.toArray⟩, .int .u32 (s.size : Int), .int .i64 s.perm]] w fun e w' => e = .returned (.int .i64 (lastPg s : Int)) ∧ Below w.heap.size w w' := by
  obtain ⟨h1, h2, h3, h4, h5, h6⟩ := ok_size h
  unfold lastPg
  obtain ⟨at_, data, size, perm⟩ := s
  clear h
  simp only at h1 h2 h3 h4 h5 h6 ⊢
  go_enter Try.func36, Try.ntmps36
  go_wp2
  go_ret
  exact ⟨ret_int (by omega), (Below.refl _ _).alloc (Nat.le_refl _) _⟩
end Go.Proofs.Ytjpmagekianpdaa

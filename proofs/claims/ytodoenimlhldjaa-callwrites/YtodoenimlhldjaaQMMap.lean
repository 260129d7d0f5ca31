/- Chapter 5's own memory: Map, where the page is there, and where there is no room. -/
import Derived.Test.YtodoenimlhldjaaQMPoke
import Derived.Deep.Cut
namespace Go.Proofs.Ytodoenimlhldjaa
open Go.ChangeShapes Go.WideShapes Go.ChangeAt Go.RowKit
set_option linter.unusedVariables false
def allow5 (p : P5) (z : Int) : P5 := { p with perm := bits .or .i64 p.perm (bits .and .i64 z 7) }
theorem allow5_fit {p : P5} (h : Fit5 p) (z : Int) : Fit5 (allow5 p z) := ⟨h.lb, h.la⟩
theorem allow5_one (p : P5) (z : Int) : one5 (allow5 p z) = (one5 p).set 1 (.int .i64 (bits .or .i64 p.perm (bits .and .i64 z 7))) := rfl
set_option maxRecDepth 20000 in
set_option maxHeartbeats 8000000 in
theorem map5_there (w : World) (m g off cap n k a : Nat) (pm z : Int) (hC : Calls Try.prog 61 #[.pointer (some ⟨m, 0, none⟩), .int .u32 (a : Int)] w fun e w' => e = .returned (.int .i64 (k : Int)) ∧ w' = w) (hP : w.cell? ⟨m, 1, none⟩ = some (.slice (some ⟨g, off, none⟩) n cap)) (hB : w.cell? ⟨g, off + k * 259 + 1, none⟩ = some (.int .i64 pm)) (hz : w.frozen? ⟨g, off + k * 259 + 1, none⟩ = false) (hne : ¬ m = g) (hkn : k < n) :
    Calls Try.prog 31 #[.pointer (some ⟨m, 0, none⟩), .int .u32 (a : Int), .int .i64 z] w fun e w' => e = .returned (.int .i64 0) ∧ ∃ r, w' = (w.drewN r).setCell ⟨g, off + k * 259 + 1, none⟩ (.int .i64 (bits .or .i64 pm (bits .and .i64 z 7))) := by
  have C := hidden hC
  clear hC
  have hne' : ¬ g = m := fun e => hne e.symm
  have hk0 : (0 : Int) ≤ (k : Int) := by omega
  go_enter Try.func31, Try.ntmps31
  go_wp2_with (first | (go_at_call 61; refine (Hid.out C).mono ?_; rintro e w4 ⟨rfl, hww⟩; rw [hww]; clear hww w4))
  go_region
  all_goals go_wp2
  go_ret
  exact ⟨rfl, _, rfl⟩
set_option maxRecDepth 20000 in
set_option maxHeartbeats 8000000 in
theorem map5_full (w : World) (m cap n most a : Nat) (ao : Option Addr) (z : Int) (hC : Calls Try.prog 61 #[.pointer (some ⟨m, 0, none⟩), .int .u32 (a : Int)] w fun e w' => e = .returned (.int .i64 (-1)) ∧ w' = w) (hP : w.cell? ⟨m, 1, none⟩ = some (.slice ao n cap)) (h0 : w.cell? ⟨m, 0, none⟩ = some (.int .i64 (most : Int))) (hfull : most ≤ n) :
    Calls Try.prog 31 #[.pointer (some ⟨m, 0, none⟩), .int .u32 (a : Int), .int .i64 z] w fun e w' => e = .returned (.int .i64 2) ∧ ∃ r, w' = w.drewN r := by
  have C := hidden hC
  clear hC
  have hf2 : (most : Int) ≤ (n : Int) := by omega
  go_enter Try.func31, Try.ntmps31
  go_wp2_with (first | (go_at_call 61; refine (Hid.out C).mono ?_; rintro e w4 ⟨rfl, hww⟩; rw [hww]; clear hww w4))
  go_region
  all_goals go_wp2
  go_ret
  exact ⟨rfl, _, rfl⟩
end Go.Proofs.Ytodoenimlhldjaa

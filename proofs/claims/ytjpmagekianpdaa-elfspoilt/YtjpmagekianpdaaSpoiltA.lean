/- ElfSpoilt, all its ways. -/
import Derived.Test.YtjpmagekianpdaaSpoilt3
namespace Go.Proofs.Ytjpmagekianpdaa
open Go.ChangeShapes Go.WideShapes Go.ChangeAt Go.RowKit
set_option linter.unusedVariables false
set_option maxRecDepth 20000 in
theorem spoilt_walk (w : World) (ao : Option Addr) (n cap v : Nat) (how : Int) (vs : List Nat) (h : Wds w ao vs) (hvs : ∀ x ∈ vs, x < 4294967296) (hn : vs.length = n) (hcap : n ≤ cap) (hmax : cap ≤ 9223372036854775807) (hv : v < 4294967296) : Calls Try.prog 6 #[.slice ao n cap, .int .i64 how, .int .u32 (v : Int)] w fun e w' => e = .returned (.bool true) ∧ Below w.heap.size w w' := by
  by_cases h5 : 500 < n
  · have l1 : (500 : Int) < (n : Int) := by omega
    clear h hvs hn
    go_enter Try.func6, Try.ntmps6
    go_wp2_with (go_at_call 9; with_reducible refine (awake_any _).mono ?_; rintro e we ⟨rfl, hb⟩; have HE := hidden hb; clear hb)
    go_ret
    exact ⟨rfl, Hid.out HE⟩
  by_cases h0 : n = 0
  · subst h0
    clear h hvs hn
    go_enter Try.func6, Try.ntmps6
    go_wp2_with (go_at_call 9; with_reducible refine (awake_any _).mono ?_; rintro e we ⟨rfl, hb⟩; have HE := hidden hb; clear hb)
    go_ret
    exact ⟨rfl, Hid.out HE⟩
  rcases (show how % 7 = 0 ∨ how % 7 = 1 ∨ how % 7 = 2 ∨ how % 7 = 3 ∨ how % 7 = 4 ∨ how % 7 = 5 ∨ how % 7 = 6 by omega) with hc | hc | hc | hc | hc | hc | hc
  · exact spoilt0 w ao n cap v how vs h hvs hn (by omega) (by omega) hcap hmax hv hc
  · exact spoilt1 w ao n cap v how vs h hvs hn (by omega) (by omega) hcap hmax hv hc
  · exact spoilt2 w ao n cap v how vs h hvs hn (by omega) (by omega) hcap hmax hv hc
  · exact spoilt3 w ao n cap v how vs h hvs hn (by omega) (by omega) hcap hmax hv hc
  · exact spoilt4 w ao n cap v how vs h hvs hn (by omega) (by omega) hcap hmax hv hc
  · exact spoilt5 w ao n cap v how vs h hvs hn (by omega) (by omega) hcap hmax hv hc
  · exact spoilt6 w ao n cap v how vs h hvs hn (by omega) (by omega) hcap hmax hv hc
end Go.Proofs.Ytjpmagekianpdaa

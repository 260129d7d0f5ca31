/- AluNumbers, walked. -/
import Derived.Test.YtlheilpaafjeiaaPAluExec
import Derived.Test.YtlheilpaafjeiaaPAluTr
import Derived.Test.YtlheilpaafjeiaaPAluAwake
import Derived.Deep.CutBlock
namespace Go.Proofs.Ytlheilpaafjeiaa
open Go.ChangeShapes Go.WideShapes Go.ChangeAt Go.RowKit
set_option linter.unusedVariables false
/-- Pairs in a row: what stands in their cells. -/
def pairC : List (Int × Int) → List Value
  | [] => []
  | p :: l => .int .i64 p.1 :: .int .i64 p.2 :: pairC l
theorem pairC_get : ∀ (l : List (Int × Int)) (k : Nat), k < l.length → (pairC l)[2 * k]? = some (.int .i64 (l.getD k (0, 0)).1) ∧ (pairC l)[2 * k + 1]? = some (.int .i64 (l.getD k (0, 0)).2)
  | [], k, h => by simp at h
  | p :: l, 0, _ => ⟨rfl, rfl⟩
  | p :: l, k + 1, h => by
    have := pairC_get l k (by simpa using h)
    rw [show 2 * (k + 1) = 2 * k + 2 by omega, show 2 * k + 2 + 1 = 2 * k + 1 + 2 by omega]
    exact this
theorem pair_cells {w : World} {n : Nat} {l : List (Int × Int)} {cs : Array Value} (h : Blk w n cs 35) (hc : cs = (pairC l).toArray) {k : Nat} (hk : k < l.length) : w.cell? ⟨n, k * 2, none⟩ = some (.int .i64 (l.getD k (0, 0)).1) ∧ w.cell? ⟨n, k * 2 + 1, none⟩ = some (.int .i64 (l.getD k (0, 0)).2) := by
  subst hc
  have := pairC_get l k hk
  rw [Nat.mul_comm 2 k] at this
  exact ⟨h.cell (by simpa using this.1), h.cell (by simpa using this.2)⟩
def numP : List (Int × Int) := [(40, 1), (41, 9), (42, 7), (43, 8), (44, 3), (45, 4), (46, 5)]
def shfP : List (Int × Int) := [(16, 11), (17, 12), (18, 13)]
theorem num_pairs (k : Nat) (hk : k < 7) (s m : Int) : ∃ v, reck (numP.getD k (0, 0)).1 s 77 0 m = (v, true) ∧ reck (numP.getD k (0, 0)).2 s m 0 0 = (v, true) := by
  rcases (show k = 0 ∨ k = 1 ∨ k = 2 ∨ k = 3 ∨ k = 4 ∨ k = 5 ∨ k = 6 by omega) with rfl | rfl | rfl | rfl | rfl | rfl | rfl <;> exact ⟨_, rfl, rfl⟩
theorem shf_pairs (k : Nat) (hk : k < 3) (s a : Int) (h : 0 ≤ a) (h2 : a < 32) : ∃ v, reck (shfP.getD k (0, 0)).1 77 s a 0 = (v, true) ∧ reck (shfP.getD k (0, 0)).2 a s 0 0 = (v, true) := by
  rcases (show k = 0 ∨ k = 1 ∨ k = 2 by omega) with rfl | rfl | rfl <;> exact ⟨_, rfl, rfl⟩
theorem reckon_to (op S T D A m s t v : Int) (h1 : 0 ≤ s) (h2 : s < 4294967296) (h3 : 0 ≤ t) (h4 : t < 4294967296) (h5 : 0 ≤ m) (h6 : m < 4294967296) (e : reck op s t A m = (v, true)) (w : World) :
    Calls Try.prog 8 #[.agg (insC op S T D A m), .int .u32 s, .int .u32 t] w fun e w' => e = .returned (.tuple #[.int .u32 v, .bool true]) ∧ Below w.heap.size w w' := by
  have h := reckon_any op S T D A m s t h1 h2 h3 h4 h5 h6 w
  rw [e] at h
  exact h
set_option maxRecDepth 20000 in
set_option maxHeartbeats 4000000 in
theorem num_walk (s m A : Int) (h1 : 0 ≤ s) (h2 : s < 4294967296) (h5 : 0 ≤ m) (h6 : m < 4294967296) (w : World) :
    Calls Try.prog 7 #[.int .u32 s, .int .u32 m, .int .i64 A] w fun e w' => e = .returned (.bool true) ∧ Below w.heap.size w w' := by
  have z0 : (0 : Int) ≤ 0 := by omega
  have z1 : (0 : Int) < 4294967296 := by omega
  have z2 : (0 : Int) ≤ 77 := by omega
  have z3 : (77 : Int) < 4294967296 := by omega
  obtain ⟨a, haa⟩ : ∃ a, a = A % 32 := ⟨_, rfl⟩
  have ha : bits .and .i64 A 31 = a := by rw [haa]; exact and31i A
  have ha0 : 0 ≤ a := by omega
  have ha1 : a < 32 := by omega
  have ha2 : a < 4294967296 := by omega
  have ha3 : a % 4294967296 = a := by omega
  clear haa
  have q0 : Blk (w.alloc (.cells (pairC numP).toArray 35)) w.heap.size (pairC numP).toArray 35 := Blk.new w _ _
  have qb := below_new w (.cells (pairC numP).toArray 35)
  have Q0 := hidden q0
  have QB := hidden qb
  clear q0 qb
  go_enter Try.func7, Try.ntmps7
  go_wp2
  go_loopw [28] (fun x28 wr => ∃ (k : Nat), k ≤ 7 ∧ x28 = .int .i64 (k : Int) ∧ Blk wr w.heap.size (pairC numP).toArray 35 ∧ Below w.heap.size w wr) (fun x28 _ => 7 - (intOf x28).toNat)
  case atStart => exact ⟨0, by omega, rfl, Q0.out, QB.out⟩
  case round =>
    clear Q0 QB
    obtain ⟨k, hk, rfl, hB, hW⟩ := hrel
    by_cases hlt : k < 7
    · obtain ⟨c0, c1⟩ := pair_cells hB rfl (l := numP) (k := k) hlt
      have hlt2 : (k : Int) < 7 := by omega
      have hge : (0 : Int) ≤ (k : Int) := by omega
      have hba := below_new wr (.cells #[.int .i64 (numP.getD k (0, 0)).1, .int .i64 (numP.getD k (0, 0)).2] 35)
      have hq := Blk.new wr #[.int .i64 (numP.getD k (0, 0)).1, .int .i64 (numP.getD k (0, 0)).2] 35
      have hB2 := hB.later hba
      have hW2 := hidden (hW.trans (hba.mono hW.size))
      obtain ⟨v, e1, e2⟩ := num_pairs k hlt s m
      have E1 := hidden e1
      have E2 := hidden e2
      generalize (numP.getD k (0, 0)).1 = p1 at *
      generalize (numP.getD k (0, 0)).2 = p2 at *
      have HB2 := hidden hB2
      have HQ := hidden hq
      clear hba hq hB2 e1 e2 hB hW
      go_wp2_with (first
        | (go_at_call 8; (with_reducible refine (reckon_to p1 0 0 0 0 m s 77 v h1 h2 z2 z3 h5 h6 E1.out _).mono ?_); rintro e w1 ⟨rfl, b1⟩; have HQ1 := HQ.out.later b1; have d1 := HQ1.cell (j := 1) rfl; have HB3 := hidden (HB2.out.later b1); have HW3 := hidden (hW2.out.trans (b1.mono hW2.out.size)); clear HQ1)
        | (go_at_call 8; (with_reducible refine (reckon_to p2 0 0 0 0 0 s m v h1 h2 h5 h6 z0 z1 E2.out _).mono ?_); rintro e w2 ⟨rfl, b2⟩; have HB4 := hidden (HB3.out.later b2); have HW4 := hidden (HW3.out.trans (b2.mono HW3.out.size))))
      go_roundw
      case rel => first | exact ⟨k + 1, by omega, by simp, HB4.out, HW4.out⟩ | ((repeat apply Exists.intro); exact ⟨⟨k + 1, by omega, by simp, HB4.out, HW4.out⟩, rfl⟩)
      case measure => simp [intOf]; omega
    · have hnl : ¬ (k : Int) < 7 := by omega
      have q0 : Blk (wr.alloc (.cells (pairC shfP).toArray 35)) wr.heap.size (pairC shfP).toArray 35 := Blk.new wr _ _
      have qb := hW.trans ((below_new wr (.cells (pairC shfP).toArray 35)).mono hW.size)
      obtain ⟨nb, hnb⟩ : ∃ nb, nb = wr.heap.size := ⟨_, rfl⟩
      rw [← hnb] at q0
      have HNB := hidden hnb
      have Q0 := hidden q0
      have QB := hidden qb
      clear q0 qb hB hW hnb
      go_wp2
      rw [← HNB.out]
      go_loopw [67] (fun x67 wr => ∃ (k : Nat), k ≤ 3 ∧ x67 = .int .i64 (k : Int) ∧ Blk wr nb (pairC shfP).toArray 35 ∧ Below w.heap.size w wr) (fun x67 _ => 3 - (intOf x67).toNat)
      case atStart => exact ⟨0, by omega, rfl, Q0.out, QB.out⟩
      case round =>
        clear Q0 QB HNB
        clear hlt hnl hk
        rename_i wq
        obtain ⟨k, hk, rfl, hB, hW⟩ := hrel
        by_cases hlt : k < 3
        · obtain ⟨c0, c1⟩ := pair_cells hB rfl (l := shfP) (k := k) hlt
          have hlt2 : (k : Int) < 3 := by omega
          have hge : (0 : Int) ≤ (k : Int) := by omega
          have hba := below_new wr (.cells #[.int .i64 (shfP.getD k (0, 0)).1, .int .i64 (shfP.getD k (0, 0)).2] 35)
          have hq := Blk.new wr #[.int .i64 (shfP.getD k (0, 0)).1, .int .i64 (shfP.getD k (0, 0)).2] 35
          have hB2 := hB.later hba
          have hW2 := hidden (hW.trans (hba.mono hW.size))
          obtain ⟨v, e1, e2⟩ := shf_pairs k hlt s a ha0 ha1
          have E1 := hidden e1
          have E2 := hidden e2
          generalize (shfP.getD k (0, 0)).1 = p1 at *
          generalize (shfP.getD k (0, 0)).2 = p2 at *
          have HB2 := hidden hB2
          have HQ := hidden hq
          clear hba hq hB2 e1 e2 hB hW
          go_wp2_with (first
            | (go_at_call 8; (with_reducible refine (reckon_to p1 0 0 0 a 0 77 s v z2 z3 h1 h2 z0 z1 E1.out _).mono ?_); rintro e w1 ⟨rfl, b1⟩; have HQ1 := HQ.out.later b1; have d1 := HQ1.cell (j := 1) rfl; have HB3 := hidden (HB2.out.later b1); have HW3 := hidden (hW2.out.trans (b1.mono hW2.out.size)); clear HQ1)
            | (go_at_call 8; (with_reducible refine (reckon_to p2 0 0 0 0 0 a s v ha0 ha2 h1 h2 z0 z1 E2.out _).mono ?_); rintro e w2 ⟨rfl, b2⟩; have HB4 := hidden (HB3.out.later b2); have HW4 := hidden (HW3.out.trans (b2.mono HW3.out.size))))
          go_roundw
          case rel => first | exact ⟨k + 1, by omega, by simp, HB4.out, HW4.out⟩ | ((repeat apply Exists.intro); exact ⟨⟨k + 1, by omega, by simp, HB4.out, HW4.out⟩, rfl⟩)
          case measure => simp [intOf]; omega
        · have hnl : ¬ (k : Int) < 3 := by omega
          have HW := hidden hW
          clear hB hW
          go_wp2_with (first
            | (go_at_call 12; (with_reducible refine (traps_41 0 0 0 0 m s 0 h1 h2 z0 z1 h5 h6 _).mono ?_); rintro e w1 ⟨rfl, b1⟩)
            | (go_at_call 12; (with_reducible refine (traps_9 0 0 0 0 0 s m h1 h2 h5 h6 z0 z1 _).mono ?_); rintro e w2 ⟨rfl, b2⟩)
            | (go_at_call 18; refine (awake9_any _).mono ?_; rintro e w3 ⟨rfl, b3⟩))
          go_ret
          exact ⟨rfl, bthen (bthen (HW.out.trans (b1.mono HW.out.size)) b2) b3⟩
end Go.Proofs.Ytlheilpaafjeiaa

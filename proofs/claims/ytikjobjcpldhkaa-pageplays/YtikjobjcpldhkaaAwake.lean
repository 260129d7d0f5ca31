/- The document's example. -/
import Derived.Test.YtikjobjcpldhkaaBytes
namespace Go.Proofs.Ytikjobjcpldhkaa
open Go.ChangeShapes Go.WideShapes Go.ChangeAt Go.RowKit
set_option linter.unusedVariables false
theorem new_pg (p : Int) (w : World) : Calls Try.prog 6 #[.int .i64 p] w fun e w' => e = .returned (.pointer (some ⟨w.heap.size, 0, none⟩)) ∧ Pg 51 w' w.heap.size zeros (p % 8) 0 ∧ Below w.heap.size w w' :=
  (new_any p w).mono fun e w' ⟨he, hw⟩ => by
    subst hw
    exact ⟨he, pg_new 51 w zeros (p % 8) 0 zeros_len, (Below.refl _ _).alloc (Nat.le_refl _) _⟩
theorem refNew_pg (p : Int) (w : World) : Calls Try.prog 7 #[.int .i64 p] w fun e w' => e = .returned (.pointer (some ⟨w.heap.size, 0, none⟩)) ∧ Pg 33 w' w.heap.size zeros (p % 8) 0 ∧ Below w.heap.size w w' :=
  (refNew_any p w).mono fun e w' ⟨he, hw⟩ => by
    subst hw
    exact ⟨he, pg_new 33 w zeros (p % 8) 0 zeros_len, (Below.refl _ _).alloc (Nat.le_refl _) _⟩
theorem setPerm_pg (w : World) (b : Nat) (l : List UInt8) (p n q : Int) (h : Pg 51 w b l p n) : Calls Try.prog 9 #[.pointer (some ⟨b, 0, none⟩), .int .i64 q] w fun e w' => e = .returned (.tuple #[]) ∧ Pg 51 w' b l (q % 8) n ∧ Only b w w' :=
  (setPerm_any w b l p n q h).mono fun e w' ⟨he, hw⟩ => by
    subst hw
    exact ⟨he, h.setPerm _, (Only.refl _ _).setCell _ _⟩
theorem get39 : ((getB (setB zeros 3 9) 3).toNat : Int) = 9 := by
  unfold getB setB
  rw [if_pos (by decide), if_pos (by decide)]
  decide +kernel
set_option maxHeartbeats 400000 in
theorem awake_any (w : World) : Calls Try.prog 19 #[] w fun e w' => e = .returned (.bool true) ∧ Below w.heap.size w w' := by
  have h9 := get39
  go_enter Try.func19, Try.ntmps19
  go_wp2_with (first | (go_at_call 6; refine (new_pg 4 w).mono ?_; rintro e w1 ⟨rfl, hp1, hb1⟩; have HP1 := hidden hp1; have HB1 := hidden hb1; clear hp1 hb1) | (go_at_call 11; refine (setByte_any w1 w.heap.size zeros (4 % 8) 0 3 9 (by decide) (by decide) (Hid.out HP1)).mono ?_; rintro e w2 ⟨rfl, hp2, ho2⟩; have HP2 := hidden hp2; have HB2 := hidden (Below.trans (Hid.out HB1) (Only.below ho2 (Nat.le_refl _))); clear hp2 ho2) | (go_at_call 13; refine (byte_any w2 w.heap.size _ _ _ 3 (Hid.out HP2)).mono ?_; rintro e w3 ⟨rfl, hww⟩; rw [hww]; clear hww w3) | (go_at_call 16; refine (writes_any w2 w.heap.size _ _ _ (Hid.out HP2)).mono ?_; rintro e w3 ⟨rfl, hww⟩; rw [hww]; clear hww w3) | (go_at_call 15; refine (perm_any w2 w.heap.size _ _ _ (Hid.out HP2)).mono ?_; rintro e w3 ⟨rfl, hww⟩; rw [hww]; clear hww w3))
  go_ret
  exact ⟨rfl, Hid.out HB2⟩
end Go.Proofs.Ytikjobjcpldhkaa

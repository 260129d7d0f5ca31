/- What an instruction does, walked (StE). -/
import Derived.Test.YtobnocioefchlaaPMBI
namespace Go.Proofs.Ytobnocioefchlaa
open Go.ChangeShapes Go.WideShapes Go.ChangeAt Go.RowKit
set_option linter.unusedVariables false
theorem set_twice {l : List Int} (k : Nat) (a z b : Int) : ((l.set 0 a).set k z).set 0 b = (l.set k z).set 0 b := by
  by_cases h : k = 0
  · subst h; simp [List.set_set]
  · rw [List.set_comm _ _ (fun e => h e.symm), List.set_set]
theorem doP_j27t (s : MS) (v : SV) (op m A x t : Int) (k a : Nat) (hop : op = 27) (htb : takeB op x t m = true) : doP s v op m A x t k a = { v.on with R := v.on.R.set 0 0, nx := targP op m v.nx x, sl := true } := by
  subst hop
  unfold doP
  rw [htb]
  rw [show jumpB 27 = true from by decide]
  rw [show longV 27 x t v.hi v.lo = (v.hi, v.lo) from rfl]
  rw [show putP s v.hi v.lo v.nx 27 A m x t a = none from rfl]
  simp only [setO, SV.on, Bool.and_true, if_true, List.set_set]
theorem doP_j68t (s : MS) (v : SV) (op m A x t : Int) (k a : Nat) (hop : op = 68) (htb : takeB op x t m = true) : doP s v op m A x t k a = { v.on with R := v.on.R.set 0 0, nx := targP op m v.nx x, sl := true } := by
  subst hop
  unfold doP
  rw [htb]
  rw [show jumpB 68 = true from by decide]
  rw [show longV 68 x t v.hi v.lo = (v.hi, v.lo) from rfl]
  rw [show putP s v.hi v.lo v.nx 68 A m x t a = none from rfl]
  simp only [setO, SV.on, Bool.and_true, if_true, List.set_set]
theorem doP_l28t (s : MS) (v : SV) (op m A x t : Int) (k a : Nat) (hop : op = 28) (htb : takeB op x t m = true) : doP s v op m A x t k a = { v.on with R := (v.on.R.set k ((v.nx + 4) % 4294967296)).set 0 0, nx := targP op m v.nx x, sl := true } := by
  subst hop
  unfold doP
  rw [htb]
  rw [show jumpB 28 = true from by decide]
  rw [show longV 28 x t v.hi v.lo = (v.hi, v.lo) from rfl]
  rw [show putP s v.hi v.lo v.nx 28 A m x t a = some ((v.nx + 4) % 4294967296) from rfl]
  simp only [setO, SV.on, Bool.and_true, if_true, set_twice]
theorem doP_l69t (s : MS) (v : SV) (op m A x t : Int) (k a : Nat) (hop : op = 69) (htb : takeB op x t m = true) : doP s v op m A x t k a = { v.on with R := (v.on.R.set k ((v.nx + 4) % 4294967296)).set 0 0, nx := targP op m v.nx x, sl := true } := by
  subst hop
  unfold doP
  rw [htb]
  rw [show jumpB 69 = true from by decide]
  rw [show longV 69 x t v.hi v.lo = (v.hi, v.lo) from rfl]
  rw [show putP s v.hi v.lo v.nx 69 A m x t a = some ((v.nx + 4) % 4294967296) from rfl]
  simp only [setO, SV.on, Bool.and_true, if_true, set_twice]
theorem doP_j60t (s : MS) (v : SV) (op m A x t : Int) (k a : Nat) (hop : op = 60) (htb : takeB op x t m = true) : doP s v op m A x t k a = { v.on with R := v.on.R.set 0 0, nx := targP op m v.nx x, sl := true } := by
  subst hop
  unfold doP
  rw [htb]
  rw [show jumpB 60 = true from by decide]
  rw [show longV 60 x t v.hi v.lo = (v.hi, v.lo) from rfl]
  rw [show putP s v.hi v.lo v.nx 60 A m x t a = none from rfl]
  simp only [setO, SV.on, Bool.and_true, if_true, List.set_set]
theorem doP_j60f (s : MS) (v : SV) (op m A x t : Int) (k a : Nat) (hop : op = 60) (htb : takeB op x t m = false) : doP s v op m A x t k a = { v.on with R := v.on.R.set 0 0, nx := v.on.nx, sl := true } := by
  subst hop
  unfold doP
  rw [htb]
  rw [show jumpB 60 = true from by decide]
  rw [show longV 60 x t v.hi v.lo = (v.hi, v.lo) from rfl]
  rw [show putP s v.hi v.lo v.nx 60 A m x t a = none from rfl]
  simp only [setO, SV.on, Bool.and_false, if_false, Bool.false_eq_true, List.set_set]
theorem doP_j61t (s : MS) (v : SV) (op m A x t : Int) (k a : Nat) (hop : op = 61) (htb : takeB op x t m = true) : doP s v op m A x t k a = { v.on with R := v.on.R.set 0 0, nx := targP op m v.nx x, sl := true } := by
  subst hop
  unfold doP
  rw [htb]
  rw [show jumpB 61 = true from by decide]
  rw [show longV 61 x t v.hi v.lo = (v.hi, v.lo) from rfl]
  rw [show putP s v.hi v.lo v.nx 61 A m x t a = none from rfl]
  simp only [setO, SV.on, Bool.and_true, if_true, List.set_set]
theorem doP_j61f (s : MS) (v : SV) (op m A x t : Int) (k a : Nat) (hop : op = 61) (htb : takeB op x t m = false) : doP s v op m A x t k a = { v.on with R := v.on.R.set 0 0, nx := v.on.nx, sl := true } := by
  subst hop
  unfold doP
  rw [htb]
  rw [show jumpB 61 = true from by decide]
  rw [show longV 61 x t v.hi v.lo = (v.hi, v.lo) from rfl]
  rw [show putP s v.hi v.lo v.nx 61 A m x t a = none from rfl]
  simp only [setO, SV.on, Bool.and_false, if_false, Bool.false_eq_true, List.set_set]
theorem doP_j62t (s : MS) (v : SV) (op m A x t : Int) (k a : Nat) (hop : op = 62) (htb : takeB op x t m = true) : doP s v op m A x t k a = { v.on with R := v.on.R.set 0 0, nx := targP op m v.nx x, sl := true } := by
  subst hop
  unfold doP
  rw [htb]
  rw [show jumpB 62 = true from by decide]
  rw [show longV 62 x t v.hi v.lo = (v.hi, v.lo) from rfl]
  rw [show putP s v.hi v.lo v.nx 62 A m x t a = none from rfl]
  simp only [setO, SV.on, Bool.and_true, if_true, List.set_set]
theorem doP_j62f (s : MS) (v : SV) (op m A x t : Int) (k a : Nat) (hop : op = 62) (htb : takeB op x t m = false) : doP s v op m A x t k a = { v.on with R := v.on.R.set 0 0, nx := v.on.nx, sl := true } := by
  subst hop
  unfold doP
  rw [htb]
  rw [show jumpB 62 = true from by decide]
  rw [show longV 62 x t v.hi v.lo = (v.hi, v.lo) from rfl]
  rw [show putP s v.hi v.lo v.nx 62 A m x t a = none from rfl]
  simp only [setO, SV.on, Bool.and_false, if_false, Bool.false_eq_true, List.set_set]
theorem doP_j63t (s : MS) (v : SV) (op m A x t : Int) (k a : Nat) (hop : op = 63) (htb : takeB op x t m = true) : doP s v op m A x t k a = { v.on with R := v.on.R.set 0 0, nx := targP op m v.nx x, sl := true } := by
  subst hop
  unfold doP
  rw [htb]
  rw [show jumpB 63 = true from by decide]
  rw [show longV 63 x t v.hi v.lo = (v.hi, v.lo) from rfl]
  rw [show putP s v.hi v.lo v.nx 63 A m x t a = none from rfl]
  simp only [setO, SV.on, Bool.and_true, if_true, List.set_set]
theorem doP_j63f (s : MS) (v : SV) (op m A x t : Int) (k a : Nat) (hop : op = 63) (htb : takeB op x t m = false) : doP s v op m A x t k a = { v.on with R := v.on.R.set 0 0, nx := v.on.nx, sl := true } := by
  subst hop
  unfold doP
  rw [htb]
  rw [show jumpB 63 = true from by decide]
  rw [show longV 63 x t v.hi v.lo = (v.hi, v.lo) from rfl]
  rw [show putP s v.hi v.lo v.nx 63 A m x t a = none from rfl]
  simp only [setO, SV.on, Bool.and_false, if_false, Bool.false_eq_true, List.set_set]
theorem doP_j64t (s : MS) (v : SV) (op m A x t : Int) (k a : Nat) (hop : op = 64) (htb : takeB op x t m = true) : doP s v op m A x t k a = { v.on with R := v.on.R.set 0 0, nx := targP op m v.nx x, sl := true } := by
  subst hop
  unfold doP
  rw [htb]
  rw [show jumpB 64 = true from by decide]
  rw [show longV 64 x t v.hi v.lo = (v.hi, v.lo) from rfl]
  rw [show putP s v.hi v.lo v.nx 64 A m x t a = none from rfl]
  simp only [setO, SV.on, Bool.and_true, if_true, List.set_set]
theorem doP_j64f (s : MS) (v : SV) (op m A x t : Int) (k a : Nat) (hop : op = 64) (htb : takeB op x t m = false) : doP s v op m A x t k a = { v.on with R := v.on.R.set 0 0, nx := v.on.nx, sl := true } := by
  subst hop
  unfold doP
  rw [htb]
  rw [show jumpB 64 = true from by decide]
  rw [show longV 64 x t v.hi v.lo = (v.hi, v.lo) from rfl]
  rw [show putP s v.hi v.lo v.nx 64 A m x t a = none from rfl]
  simp only [setO, SV.on, Bool.and_false, if_false, Bool.false_eq_true, List.set_set]
theorem doP_j65t (s : MS) (v : SV) (op m A x t : Int) (k a : Nat) (hop : op = 65) (htb : takeB op x t m = true) : doP s v op m A x t k a = { v.on with R := v.on.R.set 0 0, nx := targP op m v.nx x, sl := true } := by
  subst hop
  unfold doP
  rw [htb]
  rw [show jumpB 65 = true from by decide]
  rw [show longV 65 x t v.hi v.lo = (v.hi, v.lo) from rfl]
  rw [show putP s v.hi v.lo v.nx 65 A m x t a = none from rfl]
  simp only [setO, SV.on, Bool.and_true, if_true, List.set_set]
theorem doP_j65f (s : MS) (v : SV) (op m A x t : Int) (k a : Nat) (hop : op = 65) (htb : takeB op x t m = false) : doP s v op m A x t k a = { v.on with R := v.on.R.set 0 0, nx := v.on.nx, sl := true } := by
  subst hop
  unfold doP
  rw [htb]
  rw [show jumpB 65 = true from by decide]
  rw [show longV 65 x t v.hi v.lo = (v.hi, v.lo) from rfl]
  rw [show putP s v.hi v.lo v.nx 65 A m x t a = none from rfl]
  simp only [setO, SV.on, Bool.and_false, if_false, Bool.false_eq_true, List.set_set]
theorem doP_l66t (s : MS) (v : SV) (op m A x t : Int) (k a : Nat) (hop : op = 66) (htb : takeB op x t m = true) : doP s v op m A x t k a = { v.on with R := (v.on.R.set k ((v.nx + 4) % 4294967296)).set 0 0, nx := targP op m v.nx x, sl := true } := by
  subst hop
  unfold doP
  rw [htb]
  rw [show jumpB 66 = true from by decide]
  rw [show longV 66 x t v.hi v.lo = (v.hi, v.lo) from rfl]
  rw [show putP s v.hi v.lo v.nx 66 A m x t a = some ((v.nx + 4) % 4294967296) from rfl]
  simp only [setO, SV.on, Bool.and_true, if_true, set_twice]
theorem doP_l66f (s : MS) (v : SV) (op m A x t : Int) (k a : Nat) (hop : op = 66) (htb : takeB op x t m = false) : doP s v op m A x t k a = { v.on with R := (v.on.R.set k ((v.nx + 4) % 4294967296)).set 0 0, nx := v.on.nx, sl := true } := by
  subst hop
  unfold doP
  rw [htb]
  rw [show jumpB 66 = true from by decide]
  rw [show longV 66 x t v.hi v.lo = (v.hi, v.lo) from rfl]
  rw [show putP s v.hi v.lo v.nx 66 A m x t a = some ((v.nx + 4) % 4294967296) from rfl]
  simp only [setO, SV.on, Bool.and_false, if_false, Bool.false_eq_true, set_twice]
theorem doP_l67t (s : MS) (v : SV) (op m A x t : Int) (k a : Nat) (hop : op = 67) (htb : takeB op x t m = true) : doP s v op m A x t k a = { v.on with R := (v.on.R.set k ((v.nx + 4) % 4294967296)).set 0 0, nx := targP op m v.nx x, sl := true } := by
  subst hop
  unfold doP
  rw [htb]
  rw [show jumpB 67 = true from by decide]
  rw [show longV 67 x t v.hi v.lo = (v.hi, v.lo) from rfl]
  rw [show putP s v.hi v.lo v.nx 67 A m x t a = some ((v.nx + 4) % 4294967296) from rfl]
  simp only [setO, SV.on, Bool.and_true, if_true, set_twice]
theorem doP_l67f (s : MS) (v : SV) (op m A x t : Int) (k a : Nat) (hop : op = 67) (htb : takeB op x t m = false) : doP s v op m A x t k a = { v.on with R := (v.on.R.set k ((v.nx + 4) % 4294967296)).set 0 0, nx := v.on.nx, sl := true } := by
  subst hop
  unfold doP
  rw [htb]
  rw [show jumpB 67 = true from by decide]
  rw [show longV 67 x t v.hi v.lo = (v.hi, v.lo) from rfl]
  rw [show putP s v.hi v.lo v.nx 67 A m x t a = some ((v.nx + 4) % 4294967296) from rfl]
  simp only [setO, SV.on, Bool.and_false, if_false, Bool.false_eq_true, set_twice]
theorem doP_p14z (s : MS) (v : SV) (op m A x t : Int) (k a : Nat) (hop : op = 14) (ht : t = 0) : doP s v op m A x t k a = { v.on with R := (v.on.R.set k (x)).set 0 0 } := by
  subst hop
  unfold doP
  rw [show jumpB 14 = false from by decide]
  rw [show longV 14 x t v.hi v.lo = (v.hi, v.lo) from rfl]
  rw [show putP s v.hi v.lo v.nx 14 A m x t a = some (x) from (by unfold putP; rw [ht]; rfl)]
  simp only [setO, SV.on, Bool.false_and, if_false, Bool.false_eq_true, set_twice]
theorem doP_p14n (s : MS) (v : SV) (op m A x t : Int) (k a : Nat) (hop : op = 14) (ht : ¬ t = 0) : doP s v op m A x t k a = { v.on with R := v.on.R.set 0 0 } := by
  subst hop
  unfold doP
  rw [show jumpB 14 = false from by decide]
  rw [show longV 14 x t v.hi v.lo = (v.hi, v.lo) from rfl]
  rw [show putP s v.hi v.lo v.nx 14 A m x t a = none from (by unfold putP; rw [if_neg (by decide), if_pos rfl, if_neg ht])]
  simp only [setO, SV.on, Bool.false_and, if_false, Bool.false_eq_true, List.set_set]
theorem doP_p15z (s : MS) (v : SV) (op m A x t : Int) (k a : Nat) (hop : op = 15) (ht : t = 0) : doP s v op m A x t k a = { v.on with R := v.on.R.set 0 0 } := by
  subst hop
  unfold doP
  rw [show jumpB 15 = false from by decide]
  rw [show longV 15 x t v.hi v.lo = (v.hi, v.lo) from rfl]
  rw [show putP s v.hi v.lo v.nx 15 A m x t a = none from (by unfold putP; rw [ht]; rfl)]
  simp only [setO, SV.on, Bool.false_and, if_false, Bool.false_eq_true, List.set_set]
theorem doP_p15n (s : MS) (v : SV) (op m A x t : Int) (k a : Nat) (hop : op = 15) (ht : ¬ t = 0) : doP s v op m A x t k a = { v.on with R := (v.on.R.set k (x)).set 0 0 } := by
  subst hop
  unfold doP
  rw [show jumpB 15 = false from by decide]
  rw [show longV 15 x t v.hi v.lo = (v.hi, v.lo) from rfl]
  rw [show putP s v.hi v.lo v.nx 15 A m x t a = some (x) from (by unfold putP; rw [if_neg (by decide), if_neg (by decide), if_pos rfl, if_neg ht])]
  simp only [setO, SV.on, Bool.false_and, if_false, Bool.false_eq_true, set_twice]
theorem doP_p23 (s : MS) (v : SV) (op m A x t : Int) (k a : Nat) (hop : op = 23) : doP s v op m A x t k a = { v.on with R := (v.on.R.set k (v.hi)).set 0 0 } := by
  subst hop
  unfold doP
  rw [show jumpB 23 = false from by decide]
  rw [show longV 23 x t v.hi v.lo = (v.hi, v.lo) from rfl]
  rw [show putP s v.hi v.lo v.nx 23 A m x t a = some (v.hi) from rfl]
  simp only [setO, SV.on, Bool.false_and, if_false, Bool.false_eq_true, set_twice]
theorem doP_p24 (s : MS) (v : SV) (op m A x t : Int) (k a : Nat) (hop : op = 24) : doP s v op m A x t k a = { v.on with R := (v.on.R.set k (v.lo)).set 0 0 } := by
  subst hop
  unfold doP
  rw [show jumpB 24 = false from by decide]
  rw [show longV 24 x t v.hi v.lo = (v.hi, v.lo) from rfl]
  rw [show putP s v.hi v.lo v.nx 24 A m x t a = some (v.lo) from rfl]
  simp only [setO, SV.on, Bool.false_and, if_false, Bool.false_eq_true, set_twice]
theorem doP_p48 (s : MS) (v : SV) (op m A x t : Int) (k a : Nat) (hop : op = 48) : doP s v op m A x t k a = { v.on with R := (v.on.R.set k (((loadN s op a t.toNat : Nat) : Int))).set 0 0 } := by
  subst hop
  unfold doP
  rw [show jumpB 48 = false from by decide]
  rw [show longV 48 x t v.hi v.lo = (v.hi, v.lo) from rfl]
  rw [show putP s v.hi v.lo v.nx 48 A m x t a = some (((loadN s 48 a t.toNat : Nat) : Int)) from rfl]
  simp only [setO, SV.on, Bool.false_and, if_false, Bool.false_eq_true, set_twice]
theorem doP_p49 (s : MS) (v : SV) (op m A x t : Int) (k a : Nat) (hop : op = 49) : doP s v op m A x t k a = { v.on with R := (v.on.R.set k (((loadN s op a t.toNat : Nat) : Int))).set 0 0 } := by
  subst hop
  unfold doP
  rw [show jumpB 49 = false from by decide]
  rw [show longV 49 x t v.hi v.lo = (v.hi, v.lo) from rfl]
  rw [show putP s v.hi v.lo v.nx 49 A m x t a = some (((loadN s 49 a t.toNat : Nat) : Int)) from rfl]
  simp only [setO, SV.on, Bool.false_and, if_false, Bool.false_eq_true, set_twice]
theorem doP_p50 (s : MS) (v : SV) (op m A x t : Int) (k a : Nat) (hop : op = 50) : doP s v op m A x t k a = { v.on with R := (v.on.R.set k (((loadN s op a t.toNat : Nat) : Int))).set 0 0 } := by
  subst hop
  unfold doP
  rw [show jumpB 50 = false from by decide]
  rw [show longV 50 x t v.hi v.lo = (v.hi, v.lo) from rfl]
  rw [show putP s v.hi v.lo v.nx 50 A m x t a = some (((loadN s 50 a t.toNat : Nat) : Int)) from rfl]
  simp only [setO, SV.on, Bool.false_and, if_false, Bool.false_eq_true, set_twice]
theorem doP_p51 (s : MS) (v : SV) (op m A x t : Int) (k a : Nat) (hop : op = 51) : doP s v op m A x t k a = { v.on with R := (v.on.R.set k (((loadN s op a t.toNat : Nat) : Int))).set 0 0 } := by
  subst hop
  unfold doP
  rw [show jumpB 51 = false from by decide]
  rw [show longV 51 x t v.hi v.lo = (v.hi, v.lo) from rfl]
  rw [show putP s v.hi v.lo v.nx 51 A m x t a = some (((loadN s 51 a t.toNat : Nat) : Int)) from rfl]
  simp only [setO, SV.on, Bool.false_and, if_false, Bool.false_eq_true, set_twice]
theorem doP_p52 (s : MS) (v : SV) (op m A x t : Int) (k a : Nat) (hop : op = 52) : doP s v op m A x t k a = { v.on with R := (v.on.R.set k (((loadN s op a t.toNat : Nat) : Int))).set 0 0 } := by
  subst hop
  unfold doP
  rw [show jumpB 52 = false from by decide]
  rw [show longV 52 x t v.hi v.lo = (v.hi, v.lo) from rfl]
  rw [show putP s v.hi v.lo v.nx 52 A m x t a = some (((loadN s 52 a t.toNat : Nat) : Int)) from rfl]
  simp only [setO, SV.on, Bool.false_and, if_false, Bool.false_eq_true, set_twice]
theorem doP_p53 (s : MS) (v : SV) (op m A x t : Int) (k a : Nat) (hop : op = 53) : doP s v op m A x t k a = { v.on with R := (v.on.R.set k (((loadN s op a t.toNat : Nat) : Int))).set 0 0 } := by
  subst hop
  unfold doP
  rw [show jumpB 53 = false from by decide]
  rw [show longV 53 x t v.hi v.lo = (v.hi, v.lo) from rfl]
  rw [show putP s v.hi v.lo v.nx 53 A m x t a = some (((loadN s 53 a t.toNat : Nat) : Int)) from rfl]
  simp only [setO, SV.on, Bool.false_and, if_false, Bool.false_eq_true, set_twice]
theorem doP_p54 (s : MS) (v : SV) (op m A x t : Int) (k a : Nat) (hop : op = 54) : doP s v op m A x t k a = { v.on with R := (v.on.R.set k (((loadN s op a t.toNat : Nat) : Int))).set 0 0 } := by
  subst hop
  unfold doP
  rw [show jumpB 54 = false from by decide]
  rw [show longV 54 x t v.hi v.lo = (v.hi, v.lo) from rfl]
  rw [show putP s v.hi v.lo v.nx 54 A m x t a = some (((loadN s 54 a t.toNat : Nat) : Int)) from rfl]
  simp only [setO, SV.on, Bool.false_and, if_false, Bool.false_eq_true, set_twice]
theorem doP_p55 (s : MS) (v : SV) (op m A x t : Int) (k a : Nat) (hop : op = 55) : doP s v op m A x t k a = { v.on with R := v.on.R.set 0 0 } := by
  subst hop
  unfold doP
  rw [show jumpB 55 = false from by decide]
  rw [show longV 55 x t v.hi v.lo = (v.hi, v.lo) from rfl]
  rw [show putP s v.hi v.lo v.nx 55 A m x t a = none from rfl]
  simp only [setO, SV.on, Bool.false_and, if_false, Bool.false_eq_true, List.set_set]
theorem doP_p56 (s : MS) (v : SV) (op m A x t : Int) (k a : Nat) (hop : op = 56) : doP s v op m A x t k a = { v.on with R := v.on.R.set 0 0 } := by
  subst hop
  unfold doP
  rw [show jumpB 56 = false from by decide]
  rw [show longV 56 x t v.hi v.lo = (v.hi, v.lo) from rfl]
  rw [show putP s v.hi v.lo v.nx 56 A m x t a = none from rfl]
  simp only [setO, SV.on, Bool.false_and, if_false, Bool.false_eq_true, List.set_set]
theorem doP_p57 (s : MS) (v : SV) (op m A x t : Int) (k a : Nat) (hop : op = 57) : doP s v op m A x t k a = { v.on with R := v.on.R.set 0 0 } := by
  subst hop
  unfold doP
  rw [show jumpB 57 = false from by decide]
  rw [show longV 57 x t v.hi v.lo = (v.hi, v.lo) from rfl]
  rw [show putP s v.hi v.lo v.nx 57 A m x t a = none from rfl]
  simp only [setO, SV.on, Bool.false_and, if_false, Bool.false_eq_true, List.set_set]
theorem doP_p58 (s : MS) (v : SV) (op m A x t : Int) (k a : Nat) (hop : op = 58) : doP s v op m A x t k a = { v.on with R := v.on.R.set 0 0 } := by
  subst hop
  unfold doP
  rw [show jumpB 58 = false from by decide]
  rw [show longV 58 x t v.hi v.lo = (v.hi, v.lo) from rfl]
  rw [show putP s v.hi v.lo v.nx 58 A m x t a = none from rfl]
  simp only [setO, SV.on, Bool.false_and, if_false, Bool.false_eq_true, List.set_set]
theorem doP_p59 (s : MS) (v : SV) (op m A x t : Int) (k a : Nat) (hop : op = 59) : doP s v op m A x t k a = { v.on with R := v.on.R.set 0 0 } := by
  subst hop
  unfold doP
  rw [show jumpB 59 = false from by decide]
  rw [show longV 59 x t v.hi v.lo = (v.hi, v.lo) from rfl]
  rw [show putP s v.hi v.lo v.nx 59 A m x t a = none from rfl]
  simp only [setO, SV.on, Bool.false_and, if_false, Bool.false_eq_true, List.set_set]
theorem doP_pot (s : MS) (v : SV) (op m A x t : Int) (k a : Nat) (e66 : (op == 66) = false) (e67 : (op == 67) = false) (e69 : (op == 69) = false) (e28 : (op == 28) = false) (e60 : (op == 60) = false) (e61 : (op == 61) = false) (e62 : (op == 62) = false) (e63 : (op == 63) = false) (e64 : (op == 64) = false) (e65 : (op == 65) = false) (e27 : (op == 27) = false) (e68 : (op == 68) = false) (e14 : (op == 14) = false) (e15 : (op == 15) = false) (e23 : (op == 23) = false) (e24 : (op == 24) = false) (e48 : (op == 48) = false) (e49 : (op == 49) = false) (e50 : (op == 50) = false) (e51 : (op == 51) = false) (e52 : (op == 52) = false) (e53 : (op == 53) = false) (e54 : (op == 54) = false) (e55 : (op == 55) = false) (e56 : (op == 56) = false) (e57 : (op == 57) = false) (e58 : (op == 58) = false) (e59 : (op == 59) = false) (rv : Int) (hrv : (reck op x t A m).1 = rv) (hrb : (reck op x t A m).2 = true) : doP s v op m A x t k a = { v.on with R := (v.on.R.set k rv).set 0 0, hi := (longV op x t v.hi v.lo).1, lo := (longV op x t v.hi v.lo).2 } := by
  have hj : jumpB op = false := by
    unfold jumpB
    simp only [beq_eq_false_iff_ne, ne_eq] at e66 e67 e69 e28 e60 e61 e62 e63 e64 e65 e27 e68 e14 e15 e23 e24 e48 e49 e50 e51 e52 e53 e54 e55 e56 e57 e58 e59
    exact decide_eq_false (by omega)
  have hp : putP s v.hi v.lo v.nx op A m x t a = some rv := by
    unfold putP
    simp only [beq_eq_false_iff_ne, ne_eq] at e66 e67 e69 e28 e60 e61 e62 e63 e64 e65 e27 e68 e14 e15 e23 e24 e48 e49 e50 e51 e52 e53 e54 e55 e56 e57 e58 e59
    rw [if_neg (by omega), if_neg (by omega), if_neg (by omega), if_neg (by omega), if_neg (by omega), if_neg (by omega), hrb]
    rw [if_pos rfl, hrv]
  unfold doP
  rw [hj, hp]
  simp only [setO, SV.on, Bool.false_and, if_false, Bool.false_eq_true, set_twice]
theorem doP_pof (s : MS) (v : SV) (op m A x t : Int) (k a : Nat) (e66 : (op == 66) = false) (e67 : (op == 67) = false) (e69 : (op == 69) = false) (e28 : (op == 28) = false) (e60 : (op == 60) = false) (e61 : (op == 61) = false) (e62 : (op == 62) = false) (e63 : (op == 63) = false) (e64 : (op == 64) = false) (e65 : (op == 65) = false) (e27 : (op == 27) = false) (e68 : (op == 68) = false) (e14 : (op == 14) = false) (e15 : (op == 15) = false) (e23 : (op == 23) = false) (e24 : (op == 24) = false) (e48 : (op == 48) = false) (e49 : (op == 49) = false) (e50 : (op == 50) = false) (e51 : (op == 51) = false) (e52 : (op == 52) = false) (e53 : (op == 53) = false) (e54 : (op == 54) = false) (e55 : (op == 55) = false) (e56 : (op == 56) = false) (e57 : (op == 57) = false) (e58 : (op == 58) = false) (e59 : (op == 59) = false) (rv : Int) (hrv : (reck op x t A m).1 = rv) (hrb : (reck op x t A m).2 = false) : doP s v op m A x t k a = { v.on with R := v.on.R.set 0 0, hi := (longV op x t v.hi v.lo).1, lo := (longV op x t v.hi v.lo).2 } := by
  have hj : jumpB op = false := by
    unfold jumpB
    simp only [beq_eq_false_iff_ne, ne_eq] at e66 e67 e69 e28 e60 e61 e62 e63 e64 e65 e27 e68 e14 e15 e23 e24 e48 e49 e50 e51 e52 e53 e54 e55 e56 e57 e58 e59
    exact decide_eq_false (by omega)
  have hp : putP s v.hi v.lo v.nx op A m x t a = none := by
    unfold putP
    simp only [beq_eq_false_iff_ne, ne_eq] at e66 e67 e69 e28 e60 e61 e62 e63 e64 e65 e27 e68 e14 e15 e23 e24 e48 e49 e50 e51 e52 e53 e54 e55 e56 e57 e58 e59
    rw [if_neg (by omega), if_neg (by omega), if_neg (by omega), if_neg (by omega), if_neg (by omega), if_neg (by omega), hrb]
    rfl
  unfold doP
  rw [hj, hp]
  simp only [setO, SV.on, Bool.false_and, if_false, Bool.false_eq_true, List.set_set]
end Go.Proofs.Ytobnocioefchlaa

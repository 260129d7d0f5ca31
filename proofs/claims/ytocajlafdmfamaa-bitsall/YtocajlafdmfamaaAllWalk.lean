/- The Go function BitsAll answers true, and writes nothing that was there. -/
import Derived.Test.YtocajlafdmfamaaPuts
import Derived.Test.YtocajlafdmfamaaSplit
import Derived.BigQuiet
import Derived.WalkSmall
import Derived.Test.YtocajlafdmfamaaSteps
namespace Go.Proofs.Ytocajlafdmfamaa
open Go.ChangeShapes Go.WideShapes Go.ChangeAt Go.RowKit
set_option linter.unusedVariables false
set_option maxRecDepth 100000 in
set_option maxHeartbeats 8000000 in
theorem all_walk (a b at_ n : Int) (s : Bool) (l : Option Addr) (len cap : Nat) (zs : List Int) (w : World) (h1 : 0 ≤ a) (h2 : a < 4294967296) (h3 : 0 ≤ b) (h4 : b < 4294967296) (hr : Row8 w l len zs) (hz : Hid (∀ j, 0 ≤ zs.getD j 0 ∧ zs.getD j 0 ≤ 255)) (hl : len ≤ 140737488351232) (hlow : -9223372036854775808 ≤ at_) (hhigh : at_ ≤ 9223372036854775807) :
    Calls Try.prog 3 #[.int .u32 a, .int .u32 b, .int .i64 at_, .int .i64 n, .bool s, .slice l len cap] w fun e w' => e = .returned (.bool true) ∧ Below w.heap.size w w' := by
  have hm := and31 b h3 h4
  have hm0 : 0 ≤ b % 32 := by omega
  have hs1 : shl32 a b = a * 2 ^ (b % 32).toNat % 4294967296 := rfl
  have hs2 : shr32 a b = a / 2 ^ (b % 32).toNat := rfl
  go_enter Try.func3, Try.ntmps3
  go_wp2_with fail
  refine (addOver_any _ _ h1 h2 h3 h4 _).mono ?_
  rintro e wx ⟨rfl, hwx⟩; rw [hwx]; clear hwx
  go_wp2_with fail
  refine (refAddOver_any _ _ h1 h2 h3 h4 _).mono ?_
  rintro e wx ⟨rfl, hwx⟩; rw [hwx]; clear hwx
  go_wp2_with fail
  refine (subOver_any _ _ h1 h2 h3 h4 _).mono ?_
  rintro e wx ⟨rfl, hwx⟩; rw [hwx]; clear hwx
  go_wp2_with fail
  refine (refSubOver_any _ _ h1 h2 h3 h4 _).mono ?_
  rintro e wx ⟨rfl, hwx⟩; rw [hwx]; clear hwx
  go_wp2_with fail
  refine (mul_any _ _ _ h1 h2 h3 h4 _).mono ?_
  rintro e wx ⟨rfl, hwx⟩; rw [hwx]; clear hwx
  go_wp2_with fail
  refine (refMul_any _ _ _ h1 h2 h3 h4 _).mono ?_
  rintro e wx ⟨rfl, hwx⟩; rw [hwx]; clear hwx
  go_wp2_with fail
  refine (div_any _ _ _ h1 h2 h3 h4 _).mono ?_
  rintro e wx ⟨rfl, k1, hwx⟩; rw [hwx]; clear hwx
  go_wp2_with fail
  refine (refDiv_any _ _ _ h1 h2 h3 h4 _).mono ?_
  rintro e wx ⟨rfl, k2, hwx⟩; rw [hwx]; clear hwx
  go_wp2_with fail
  refine (put_any _ h1 h2 _).mono ?_
  rintro e w1 ⟨rfl, hb1⟩
  have hr1 : Row8 w1 l len zs := row_later hb1 (row_later (below_drewN (Below.refl _ _) _) hr)
  have hbw : Below w.heap.size w w1 := (below_drewN (Below.refl _ _) _).trans hb1
  clear hb1 hr
  go_wp2_with fail
  simp only [List.append_eq, List.cons_append, List.nil_append]
  refine wp_region_split 102 20 84 (by kernel_rfl) (by kernel_rfl) (by omega) (by kernel_rfl) (by kernel_rfl) (by kernel_rfl) (by kernel_rfl) (by kernel_rfl) ?_
  simp only [List.take_succ_cons, List.take_zero]
  repeat (go_big_quiet_step (first | (go_at_call 18; exact Calls.quiet_of_same (field_any _ _ _ h1 h2 _)) | (go_at_call 19; exact Calls.quiet_of_same (refField_any _ _ _ h1 h2 _)) | (go_at_call 20; exact Calls.quiet_of_same (sext_any _ _ h1 h2 _)) | (go_at_call 21; exact Calls.quiet_of_same (refSext_any _ _ h1 h2 _)) | (go_at_call 22; exact Calls.quiet_of_same (shl_any _ _ h1 h2 h3 h4 _)) | (go_at_call 23; exact Calls.quiet_of_same (shr_any _ _ h1 h2 h3 h4 _)) | (go_at_call 24; exact Calls.quiet_of_same (sar_any _ _ h1 h2 h3 h4 _)) | (go_at_call 25; exact Calls.quiet_of_same (refSar_any _ _ h1 h2 h3 h4 _)) | (go_at_call 26; exact Calls.quiet_of_same (zeros_any _ h1 h2 _)) | (go_at_call 27; exact Calls.quiet_of_same (refZeros_any _ h1 h2 _)) | (go_at_call 28; exact Calls.quiet_of_same (ones_any _ h1 h2 _)) | (go_at_call 29; exact Calls.quiet_of_same (refOnes_any _ h1 h2 _))))
  refine wpQuiet_nil ?_
  rintro _ ⟨kq, rfl⟩
  have hW : Below w1.heap.size w1 ((w1.alloc (.cells #[.int .u8 (a / 16777216), .int .u8 (a / 65536 % 256), .int .u8 (a / 256 % 256), .int .u8 (a % 256)] 28)).drewN kq) := below_drewN ((Below.refl _ _).alloc (Nat.le_refl _) _) _
  have hcW : ∀ i, i < 4 → ((w1.alloc (.cells #[.int .u8 (a / 16777216), .int .u8 (a / 65536 % 256), .int .u8 (a / 256 % 256), .int .u8 (a % 256)] 28)).drewN kq).cell? ⟨w1.heap.size, 0 + i, none⟩ = some (.int .u8 ([a / 16777216, a / 65536 % 256, a / 256 % 256, a % 256].getD i 0)) := cells4 w1 _ _ _ _ 28
  have hsz : w1.heap.size < ((w1.alloc (.cells #[.int .u8 (a / 16777216), .int .u8 (a / 65536 % 256), .int .u8 (a / 256 % 256), .int .u8 (a % 256)] 28)).drewN kq).heap.size := by simp [go_sem]
  generalize ((w1.alloc (.cells #[.int .u8 (a / 16777216), .int .u8 (a / 65536 % 256), .int .u8 (a / 256 % 256), .int .u8 (a % 256)] 28)).drewN kq) = W at hW hcW hsz ⊢
  have hN : Below W.heap.size W (W.alloc (.cells #[.int .u8 (a / 16777216), .int .u8 (a / 65536 % 256), .int .u8 (a / 256 % 256), .int .u8 (a % 256)] 5)) := (Below.refl _ _).alloc (Nat.le_refl _) _
  have hbW : Below w.heap.size w W := hbw.trans (hW.mono hbw.size)
  have hbN := hbW.trans (hN.mono hbW.size)
  have hcN := cells4 W (a / 16777216) (a / 65536 % 256) (a / 256 % 256) (a % 256) 5
  have hcW' : ∀ i, i < 4 → (W.alloc (.cells #[.int .u8 (a / 16777216), .int .u8 (a / 65536 % 256), .int .u8 (a / 256 % 256), .int .u8 (a % 256)] 5)).cell? ⟨w1.heap.size, 0 + i, none⟩ = some (.int .u8 ([a / 16777216, a / 65536 % 256, a / 256 % 256, a % 256].getD i 0)) := fun i hi => by rw [hN.cell (p := ⟨w1.heap.size, 0 + i, none⟩) hsz]; exact hcW i hi
  refine any_start 102 20 ?_
  intro lB hlB hB
  simp only [List.drop_succ_cons, List.drop_zero] at hlB
  subst hlB
  refine any_yield (i := 102 + 0) (.slice (some ⟨w1.heap.size, 0, none⟩) 4 4) ((hB 0).trans rfl) (by kernel_rfl) (by kernel_rfl) (by kernel_rfl) (fun _ _ _ h => h) (by kernel_rfl) (fun _ => by kernel_rfl) ?_
  conv => arg 7; simp only [Act.put, List.setIfInBounds_toArray, List.set_cons_succ, List.set_cons_zero]
  refine any_yield (i := 102 + 2) (.int .u32 a) ((hB 2).trans rfl) (by kernel_rfl) (by kernel_rfl) (by kernel_rfl) (fun _ _ _ h => h) (by kernel_rfl) (fun _ => by kernel_rfl) ?_
  conv => arg 7; simp only [Act.put, List.setIfInBounds_toArray, List.set_cons_succ, List.set_cons_zero]
  apply cutT
  · intro key
    refine any_two (i := 102 + 1) (j := 102 + 3) (by kernel_rfl) (wpOp_val (.string (strOfNums [a / 16777216, a / 65536 % 256, a / 256 % 256, a % 256])) ((hB 1).trans rfl) (by kernel_rfl) (conv_bytes rfl w1.heap.size [a / 16777216, a / 65536 % 256, a / 256 % 256, a % 256] rfl (by kernel_rfl) _ hcW) ?_) (wpOp_call 30 #[.int .u32 a] ((hB 3).trans rfl) (by kernel_rfl) (by kernel_rfl) (refPut_any a h1 h2 _) ?_)
    · conv => arg 7; simp only [Act.put, List.setIfInBounds_toArray, List.set_cons_succ, List.set_cons_zero]
      refine any_one (i := 102 + 3) (by kernel_rfl) (wpOp_call 30 #[.int .u32 a] ((hB 3).trans rfl) (by kernel_rfl) (by kernel_rfl) (refPut_any a h1 h2 _) ?_)
      rintro w4 hw4
      rw [hw4]
      clear hw4 w4
      conv => arg 7; simp only [Act.put, List.setIfInBounds_toArray, List.set_cons_succ, List.set_cons_zero]
      refine any_one (i := 102 + 4) (by kernel_rfl) (wpOp_val (.string (strOfNums [a / 16777216, a / 65536 % 256, a / 256 % 256, a % 256])) ((hB 4).trans rfl) (by kernel_rfl) (conv_bytes rfl W.heap.size [a / 16777216, a / 65536 % 256, a / 256 % 256, a % 256] rfl (by kernel_rfl) _ hcN) ?_)
      conv => arg 7; simp only [Act.put, List.setIfInBounds_toArray, List.set_cons_succ, List.set_cons_zero]
      rw [show 2 ^ 102 - 1 ||| 2 ^ (102 + 0) ||| 2 ^ (102 + 2) ||| 2 ^ (102 + 1) ||| 2 ^ (102 + 3) ||| 2 ^ (102 + 4) = 2 ^ 107 - 1 from by kernel_rfl]
      exact key
    · rintro w4 hw4
      rw [hw4]
      clear hw4 w4
      conv => arg 7; simp only [Act.put, List.setIfInBounds_toArray, List.set_cons_succ, List.set_cons_zero]
      refine any_two (i := 102 + 1) (j := 102 + 4) (by kernel_rfl) (wpOp_val (.string (strOfNums [a / 16777216, a / 65536 % 256, a / 256 % 256, a % 256])) ((hB 1).trans rfl) (by kernel_rfl) (conv_bytes rfl w1.heap.size [a / 16777216, a / 65536 % 256, a / 256 % 256, a % 256] rfl (by kernel_rfl) _ hcW') ?_) (wpOp_val (.string (strOfNums [a / 16777216, a / 65536 % 256, a / 256 % 256, a % 256])) ((hB 4).trans rfl) (by kernel_rfl) (conv_bytes rfl W.heap.size [a / 16777216, a / 65536 % 256, a / 256 % 256, a % 256] rfl (by kernel_rfl) _ hcN) ?_)
      · conv => arg 7; simp only [Act.put, List.setIfInBounds_toArray, List.set_cons_succ, List.set_cons_zero]
        refine any_one (i := 102 + 4) (by kernel_rfl) (wpOp_val (.string (strOfNums [a / 16777216, a / 65536 % 256, a / 256 % 256, a % 256])) ((hB 4).trans rfl) (by kernel_rfl) (conv_bytes rfl W.heap.size [a / 16777216, a / 65536 % 256, a / 256 % 256, a % 256] rfl (by kernel_rfl) _ hcN) ?_)
        conv => arg 7; simp only [Act.put, List.setIfInBounds_toArray, List.set_cons_succ, List.set_cons_zero]
        rw [show 2 ^ 102 - 1 ||| 2 ^ (102 + 0) ||| 2 ^ (102 + 2) ||| 2 ^ (102 + 3) ||| 2 ^ (102 + 1) ||| 2 ^ (102 + 4) = 2 ^ 107 - 1 from by kernel_rfl]
        exact key
      · conv => arg 7; simp only [Act.put, List.setIfInBounds_toArray, List.set_cons_succ, List.set_cons_zero]
        refine any_one (i := 102 + 1) (by kernel_rfl) (wpOp_val (.string (strOfNums [a / 16777216, a / 65536 % 256, a / 256 % 256, a % 256])) ((hB 1).trans rfl) (by kernel_rfl) (conv_bytes rfl w1.heap.size [a / 16777216, a / 65536 % 256, a / 256 % 256, a % 256] rfl (by kernel_rfl) _ hcW') ?_)
        conv => arg 7; simp only [Act.put, List.setIfInBounds_toArray, List.set_cons_succ, List.set_cons_zero]
        rw [show 2 ^ 102 - 1 ||| 2 ^ (102 + 0) ||| 2 ^ (102 + 2) ||| 2 ^ (102 + 3) ||| 2 ^ (102 + 4) ||| 2 ^ (102 + 1) = 2 ^ 107 - 1 from by kernel_rfl]
        exact key
  · refine any_one (i := 102 + 5) (by kernel_rfl) (wpOp_val (.bool true) ((hB 5).trans rfl) (by kernel_rfl) (eql_str (s := strOfNums [a / 16777216, a / 65536 % 256, a / 256 % 256, a % 256]) rfl (by kernel_rfl) (by kernel_rfl) _) ?_)
    conv => arg 7; simp only [Act.put, List.setIfInBounds_toArray, List.set_cons_succ, List.set_cons_zero]
    refine any_one (i := 102 + 6) (by kernel_rfl) (wpOp_val (.bool true) ((hB 6).trans rfl) (by kernel_rfl) (by kernel_rfl) ?_)
    conv => arg 7; simp only [Act.put, List.setIfInBounds_toArray, List.set_cons_succ, List.set_cons_zero]
    refine any_one (i := 102 + 7) (by kernel_rfl) (wpOp_val (.bool true) ((hB 7).trans rfl) (by kernel_rfl) (by kernel_rfl) ?_)
    conv => arg 7; simp only [Act.put, List.setIfInBounds_toArray, List.set_cons_succ, List.set_cons_zero]
    refine any_yield (i := 102 + 8) (.slice l len cap) ((hB 8).trans rfl) (by kernel_rfl) (by kernel_rfl) (by kernel_rfl) (fun _ _ _ h => h) (by kernel_rfl) (fun _ => by kernel_rfl) ?_
    conv => arg 7; simp only [Act.put, List.setIfInBounds_toArray, List.set_cons_succ, List.set_cons_zero]
    refine any_yield (i := 102 + 9) (.int .i64 at_) ((hB 9).trans rfl) (by kernel_rfl) (by kernel_rfl) (by kernel_rfl) (fun _ _ _ h => h) (by kernel_rfl) (fun _ => by kernel_rfl) ?_
    conv => arg 7; simp only [Act.put, List.setIfInBounds_toArray, List.set_cons_succ, List.set_cons_zero]
    refine any_yield (i := 102 + 11) (.slice l len cap) ((hB 11).trans rfl) (by kernel_rfl) (by kernel_rfl) (by kernel_rfl) (fun _ _ _ h => h) (by kernel_rfl) (fun _ => by kernel_rfl) ?_
    conv => arg 7; simp only [Act.put, List.setIfInBounds_toArray, List.set_cons_succ, List.set_cons_zero]
    refine any_yield (i := 102 + 12) (.int .i64 at_) ((hB 12).trans rfl) (by kernel_rfl) (by kernel_rfl) (by kernel_rfl) (fun _ _ _ h => h) (by kernel_rfl) (fun _ => by kernel_rfl) ?_
    conv => arg 7; simp only [Act.put, List.setIfInBounds_toArray, List.set_cons_succ, List.set_cons_zero]
    refine any_one (i := 102 + 10) (by kernel_rfl) (wpOp_call 31 #[.slice l len cap, .int .i64 at_] ((hB 10).trans rfl) (by kernel_rfl) (by kernel_rfl) (word_any l len cap zs at_ _ (row_later hN (row_later hW hr1)) hz.out hl hlow hhigh) ?_)
    intro w3 hb3
    conv => arg 7; simp only [Act.put, List.setIfInBounds_toArray, List.set_cons_succ, List.set_cons_zero]
    refine any_one (i := 102 + 13) (by kernel_rfl) (wpOp_call 32 #[.slice l len cap, .int .i64 at_] ((hB 13).trans rfl) (by kernel_rfl) (by kernel_rfl) (refWord_any l len cap zs at_ _ (row_later hb3 (row_later hN (row_later hW hr1))) hz.out hl hlow hhigh) ?_)
    rintro w4 hw4
    rw [hw4]
    clear hw4 w4
    conv => arg 7; simp only [Act.put, List.setIfInBounds_toArray, List.set_cons_succ, List.set_cons_zero]
    refine any_one (i := 102 + 14) (by kernel_rfl) (wpOp_val (.bool true) ((hB 14).trans rfl) (by kernel_rfl) (eql_u32 (n := (word4 (byteAt zs len at_ 0) (byteAt zs len at_ 1) (byteAt zs len at_ 2) (byteAt zs len at_ 3))) rfl (by kernel_rfl) (by kernel_rfl) _) ?_)
    conv => arg 7; simp only [Act.put, List.setIfInBounds_toArray, List.set_cons_succ, List.set_cons_zero]
    refine any_one (i := 102 + 15) (by kernel_rfl) (wpOp_val (.bool true) ((hB 15).trans rfl) (by kernel_rfl) (by kernel_rfl) ?_)
    conv => arg 7; simp only [Act.put, List.setIfInBounds_toArray, List.set_cons_succ, List.set_cons_zero]
    refine any_one (i := 102 + 16) (by kernel_rfl) (wpOp_val (.bool true) ((hB 16).trans rfl) (by kernel_rfl) (by kernel_rfl) ?_)
    conv => arg 7; simp only [Act.put, List.setIfInBounds_toArray, List.set_cons_succ, List.set_cons_zero]
    refine any_one (i := 102 + 17) (by kernel_rfl) (wpOp_call 33 #[] ((hB 17).trans rfl) (by kernel_rfl) (by kernel_rfl) (awake_any _) ?_)
    rintro w4 hw4
    rw [hw4]
    clear hw4 w4
    conv => arg 7; simp only [Act.put, List.setIfInBounds_toArray, List.set_cons_succ, List.set_cons_zero]
    refine any_one (i := 102 + 18) (by kernel_rfl) (wpOp_val (.bool true) ((hB 18).trans rfl) (by kernel_rfl) (by kernel_rfl) ?_)
    conv => arg 7; simp only [Act.put, List.setIfInBounds_toArray, List.set_cons_succ, List.set_cons_zero]
    refine any_one (i := 102 + 19) (by kernel_rfl) (wpOp_val (.bool true) ((hB 19).trans rfl) (by kernel_rfl) (by kernel_rfl) ?_)
    conv => arg 7; simp only [Act.put, List.setIfInBounds_toArray, List.set_cons_succ, List.set_cons_zero]
    refine wpAny_done (by kernel_rfl) ?_ _
    have hend : Below w.heap.size w w3 := hbN.trans (hb3.mono hbN.size)
    clear hB
    go_wp2
    go_ret
    exact ⟨rfl, hend⟩
end Go.Proofs.Ytocajlafdmfamaa

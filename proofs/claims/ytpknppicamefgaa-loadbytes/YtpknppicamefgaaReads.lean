/- What a memory's reading calls answer. -/
import Derived.Test.YtpknppicamefgaaMems
import Derived.Deep.QuietTactic
import Derived.BigQuiet
import Derived.Outline
namespace Go.Proofs.Ytpknppicamefgaa
open Go.ChangeShapes Go.WideShapes Go.ChangeAt Go.RowKit
set_option linter.unusedVariables false
theorem drewN_two {w w1 : World} {n : Nat} (h : w1 = w.drewN n) (m : Nat) : ∃ k, w1.drewN m = w.drewN k := ⟨n + m, by rw [h, World.drewN_drewN]⟩
theorem first_any (a : Nat) (h : a < 4294967296) (w : World) : Calls Try.prog 68 #[.int .u32 (a : Int)] w fun e w' => e = .returned (.int .u32 (pageOf a : Int)) ∧ w' = w := by
  have e : Ending.returned (.int .u32 ((pageOf a : Nat) : Int)) = .returned (.int .u32 ((a : Int) - (a : Int) % 256)) := ret_int (by unfold pageOf; omega)
  rw [e]
  clear e
  go_enter Try.func68, Try.ntmps68
  go_wp2
  go_ret
  exact ⟨rfl, rfl⟩
theorem within_any (a : Nat) (h : a < 4294967296) (w : World) : Calls Try.prog 48 #[.int .u32 (a : Int)] w fun e w' => e = .returned (.int .i64 ((a % 256 : Nat) : Int)) ∧ w' = w := by
  have e : Ending.returned (.int .i64 ((a % 256 : Nat) : Int)) = .returned (.int .i64 ((a : Int) % 256)) := ret_int (by omega)
  rw [e]
  clear e
  go_enter Try.func48, Try.ntmps48
  go_wp2
  go_ret
  exact ⟨rfl, rfl⟩
theorem find_in (w : World) (s : MS) (a : Nat) (h : MemW w s) (ha : a < 4294967296) (hk : pageOf a ∈ s.ks) : Calls Try.prog 45 #[.pointer (some ⟨s.mb, 0, none⟩), .int .u32 (a : Int)] w fun e w' => e = .returned (.pointer (some ⟨s.hb (pageOf a), 0, none⟩)) ∧ ∃ n, w' = w.drewN n := by
  have hc := h.cell0
  have hl := fun n => run_look_in (w := w.drewN n) h.map hk
  have H := fun w => hidden (first_any a ha w)
  clear h hk ha
  generalize pageOf a = k at hl H
  go_enter Try.func45, Try.ntmps45
  go_wp2
  go_quiet ((go_at_call 68; exact Calls.quiet_of_same (Hid.out (H _))))
  go_wp2
  go_ret
  exact ⟨rfl, _, rfl⟩
theorem find_out (w : World) (s : MS) (a : Nat) (h : MemW w s) (ha : a < 4294967296) (hk : pageOf a ∉ s.ks) : Calls Try.prog 45 #[.pointer (some ⟨s.mb, 0, none⟩), .int .u32 (a : Int)] w fun e w' => e = .returned (.pointer none) ∧ ∃ n, w' = w.drewN n := by
  have hc := h.cell0
  have hl := fun n => run_look_out (w := w.drewN n) h.map hk
  have H := fun w => hidden (first_any a ha w)
  clear h hk ha
  generalize pageOf a = k at hl H
  go_enter Try.func45, Try.ntmps45
  go_wp2
  go_quiet ((go_at_call 68; exact Calls.quiet_of_same (Hid.out (H _))))
  go_wp2
  go_ret
  exact ⟨rfl, _, rfl⟩
theorem mapped_any (w : World) (s : MS) (a : Nat) (h : MemW w s) (ha : a < 4294967296) : Calls Try.prog 25 #[.pointer (some ⟨s.mb, 0, none⟩), .int .u32 (a : Int)] w fun e w' => e = .returned (.bool (decide (pageOf a ∈ s.ks))) ∧ ∃ n, w' = w.drewN n := by
  by_cases hk : pageOf a ∈ s.ks
  · rw [decide_eq_true hk]
    have H := hidden (find_in w s a h ha hk)
    clear h hk ha
    go_enter Try.func25, Try.ntmps25
    go_wp2_with (go_at_call 45; refine (Hid.out H).mono ?_; rintro e w1 ⟨rfl, n, hww⟩; rw [hww]; clear hww w1)
    go_ret
    exact ⟨rfl, _, rfl⟩
  · rw [decide_eq_false hk]
    have H := hidden (find_out w s a h ha hk)
    clear h hk ha
    go_enter Try.func25, Try.ntmps25
    go_wp2_with (go_at_call 45; refine (Hid.out H).mono ?_; rintro e w1 ⟨rfl, n, hww⟩; rw [hww]; clear hww w1)
    go_ret
    exact ⟨rfl, _, rfl⟩
def MS.perm (s : MS) (a : Nat) : Int := if pageOf a ∈ s.ks then s.pm (pageOf a) else 0
theorem permOf_any (w : World) (s : MS) (a : Nat) (h : MemW w s) (ha : a < 4294967296) : Calls Try.prog 17 #[.pointer (some ⟨s.mb, 0, none⟩), .int .u32 (a : Int)] w fun e w' => e = .returned (.int .i64 (s.perm a)) ∧ ∃ n, w' = w.drewN n := by
  by_cases hk : pageOf a ∈ s.ks
  · have e : s.perm a = s.pm (pageOf a) := by unfold MS.perm; rw [if_pos hk]
    rw [e]
    have H := hidden (find_in w s a h ha hk)
    have hc := h.held0 hk
    obtain ⟨c, _, _, hp⟩ := h.page _ hk
    have H2 := fun n => hidden (perm_any (w.drewN n) _ _ _ _ (hp.same rfl))
    clear h hk ha e hp
    generalize pageOf a = k at hc H H2
    go_enter Try.func17, Try.ntmps17
    go_wp2_with (first | (go_at_call 45; refine (Hid.out H).mono ?_; rintro e w1 ⟨rfl, n, hww⟩; rw [hww]; clear hww w1) | (go_at_call 46; refine (Hid.out (H2 _)).mono ?_; rintro e w1 ⟨rfl, hww⟩; rw [hww]; clear hww w1))
    go_ret
    exact ⟨rfl, _, rfl⟩
  · have e : s.perm a = 0 := by unfold MS.perm; rw [if_neg hk]
    rw [e]
    have H := hidden (find_out w s a h ha hk)
    clear h hk ha e
    go_enter Try.func17, Try.ntmps17
    go_wp2_with (go_at_call 45; refine (Hid.out H).mono ?_; rintro e w1 ⟨rfl, n, hww⟩; rw [hww]; clear hww w1)
    go_ret
    exact ⟨rfl, _, rfl⟩
theorem getB_nat (l : List UInt8) (j : Nat) (h : j < 256) : getB l (j : Int) = l.getD j 0 := by
  unfold getB
  rw [if_pos ⟨by omega, by omega⟩, Int.toNat_natCast]
theorem peek_any (w : World) (s : MS) (a : Nat) (h : MemW w s) (ha : a < 4294967296) : Calls Try.prog 18 #[.pointer (some ⟨s.mb, 0, none⟩), .int .u32 (a : Int)] w fun e w' => e = .returned (.int .u8 ((s.get a).toNat : Int)) ∧ ∃ n, w' = w.drewN n := by
  by_cases hk : pageOf a ∈ s.ks
  · have e : s.get a = (s.data (pageOf a)).getD (a % 256) 0 := by unfold MS.get; rw [if_pos hk]
    rw [e]
    have H := hidden (find_in w s a h ha hk)
    have H3 := fun w => hidden (within_any a ha w)
    obtain ⟨c, _, _, hp⟩ := h.page _ hk
    have HC : Hid (∀ w1 n, w1 = w.drewN n → w1.cell? ⟨s.hb (pageOf a), 0, none⟩ = some (.pointer (some ⟨s.pb (pageOf a), 0, none⟩)) ∧ Pg 109 w1 (s.pb (pageOf a)) (s.data (pageOf a)) (s.pm (pageOf a)) c) := by
      intro w1 n e
      subst e
      exact ⟨h.held0 hk, hp.same rfl⟩
    have H2 : Hid (∀ w1, Pg 109 w1 (s.pb (pageOf a)) (s.data (pageOf a)) (s.pm (pageOf a)) c → Calls Try.prog 47 #[.pointer (some ⟨s.pb (pageOf a), 0, none⟩), .int .i64 ((a % 256 : Nat) : Int)] w1 fun e w' => e = .returned (.int .u8 (((s.data (pageOf a)).getD (a % 256) 0).toNat : Int)) ∧ w' = w1) := by
      intro w1 hp1
      have := byte_any w1 _ _ _ _ ((a % 256 : Nat) : Int) hp1
      rw [getB_nat _ _ (Nat.mod_lt _ (by omega))] at this
      exact this
    clear h hk ha e hp
    generalize a % 256 = j at H3 H2
    generalize pageOf a = k at H H2 HC
    generalize (s.data k).getD j 0 = x at H2
    go_enter Try.func18, Try.ntmps18
    go_wp2_with (go_at_call 45; refine (Hid.out H).mono ?_; rintro e w1 ⟨rfl, n, hww⟩; obtain ⟨hc, hp1⟩ := Hid.out HC w1 n hww; have HP := hidden hp1; have HW := hidden hww; clear hww hp1 HC)
    go_quiet (first | (go_at_call 48; exact Calls.quiet_of_same (Hid.out (H3 _))) | (go_at_call 47; exact Calls.quiet_of_same (Hid.out H2 _ (Pg.same (Hid.out HP) rfl))))
    go_wp2
    go_ret
    exact ⟨rfl, drewN_two (Hid.out HW) _⟩
  · have e : s.get a = 0 := by unfold MS.get; rw [if_neg hk]
    rw [e]
    have H := hidden (find_out w s a h ha hk)
    clear h hk ha e
    go_enter Try.func18, Try.ntmps18
    go_wp2_with (go_at_call 45; refine (Hid.out H).mono ?_; rintro e w1 ⟨rfl, n, hww⟩; rw [hww]; clear hww w1)
    go_ret
    exact ⟨rfl, _, rfl⟩
def MS.watched (s : MS) (a : Nat) : Bool := decide (pageOf a ∈ s.ks) && s.on (pageOf a)
end Go.Proofs.Ytpknppicamefgaa

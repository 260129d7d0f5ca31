/- PageCopies, walked. -/
import Derived.Test.YtikjobjcpldhkaaCopyWalk
import Derived.Test.YtikjobjcpldhkaaRowy
import Derived.Test.YtikjobjcpldhkaaAwake
namespace Go.Proofs.Ytikjobjcpldhkaa
open Go.ChangeShapes Go.WideShapes Go.ChangeAt Go.RowKit
set_option linter.unusedVariables false
/-- Bytes that came in. -/
theorem row_bytes {w : World} {a : Option Addr} {len cap : Nat} {zs : List Int} (h : (a = none ∧ len = 0 ∧ cap = 0 ∧ zs = []) ∨
  ∃ x, a = some x ∧ len ≤ cap ∧ cap ≤ maxLen ∧ zs.length = cap ∧ (∀ i, i < zs.length → w.cell? (x.add i) = some (.int .u8 (zs.getD i 0))) ∧ ∀ n ∈ zs, (Lit.int .u8 n).wf = true) : ∃ l : List UInt8, l.length = len ∧ Row w a l cap := by
  rcases h with ⟨rfl, rfl, rfl, rfl⟩ | ⟨x, rfl, hl, hm, hz, hcell, hwz⟩
  · exact ⟨[], rfl, Row.none w⟩
  · by_cases h0 : len = 0
    · subst h0
      exact ⟨[], rfl, by simp, hm, by simp, .inl rfl⟩
    · obtain ⟨b, off, rfl, hc⟩ := ints_at hcell (by omega)
      have hb : ∀ j, 0 ≤ zs.getD j 0 ∧ zs.getD j 0 ≤ 255 := fun j => by have := range_u8 hwz j; simpa using this
      have hln : ((zs.take len).map fun z => UInt8.ofNat z.toNat).length = len := by simp; omega
      refine ⟨(zs.take len).map fun z => UInt8.ofNat z.toNat, hln, by omega, hm, by simp, .inr ⟨b, off, rfl, fun j hj => ?_⟩⟩
      have hj2 : j < len := by omega
      have hjz : j < zs.length := by omega
      have hbj := hb j
      rw [hc j (by omega)]
      congr 2
      simp [List.getD_eq_getElem?_getD, List.getElem?_eq_getElem hjz] at hbj
      simp [List.getD_eq_getElem?_getD, List.getElem?_eq_getElem hjz, hj2]
      omega
theorem getB_setB (l : List UInt8) (i : Int) (v : UInt8) (hl : l.length = 256) (hi : inB i) : getB (setB l i v) i = v := by
  have h := hi
  unfold inB at h
  unfold getB setB
  rw [if_pos hi, if_pos hi, List.getD_eq_getElem?_getD, List.getElem?_set_self (by omega), Option.getD_some]
theorem cntB_in (n i : Int) (hi : inB i) : cntB n i = n + 1 := by unfold cntB; rw [if_pos hi]
theorem i64_of_wf {a : Int} (h : (Lit.int .i64 a).wf = true) : -9223372036854775808 ≤ a ∧ a ≤ 9223372036854775807 := by
  simp [Lit.wf, IntKind.bits, IntKind.signed, IntKind.min, IntKind.max] at h; omega
theorem byte_of_wf {a : Int} (h : (Lit.int .u8 a).wf = true) : ∃ v : UInt8, a = (v.toNat : Int) := by
  have h2 : 0 ≤ a ∧ a ≤ 255 := by simp [Lit.wf, IntKind.bits, IntKind.signed, IntKind.min, IntKind.max] at h; omega
  refine ⟨UInt8.ofNat a.toNat, ?_⟩
  rw [UInt8.toNat_ofNat']
  omega
theorem setPerm_to (w : World) (b : Nat) (l : List UInt8) (p n q r : Int) (hr : q % 8 = r) (h : Pg 51 w b l p n) : Calls Try.prog 9 #[.pointer (some ⟨b, 0, none⟩), .int .i64 q] w fun e w' => e = .returned (.tuple #[]) ∧ Pg 51 w' b l r n ∧ Only b w w' := by
  subst hr
  exact setPerm_pg w b l p n q h
theorem long_copies (ao : Option Addr) (len cap : Nat) (at_ v perm : Int) (w : World) (h : 200 < len) (h2 : len ≤ 9223372036854775807) :
    Calls Try.prog 5 #[.slice ao len cap, .int .i64 at_, .int .u8 v, .int .i64 perm] w fun e w' => e = .returned (.bool true) ∧ Below w.heap.size w w' := by
  go_enter Try.func5, Try.ntmps5
  go_wp2_with (first | (go_at_call 6; refine (new_pg perm w).mono ?_; rintro e w1 ⟨rfl, hp1, hb1⟩; have HB1 := hidden hb1; clear hp1 hb1) | (go_at_call 19; refine (awake_any _).mono ?_; rintro e w3 ⟨rfl, hb3⟩; have HB3 := hidden (Below.trans (Hid.out HB1) (Below.mono hb3 (Hid.out HB1).size)); clear hb3))
  go_ret
  exact ⟨rfl, Hid.out HB3⟩
set_option maxRecDepth 20000 in
set_option maxHeartbeats 2000000 in
theorem few_copies (ao : Option Addr) (cap : Nat) (l : List UInt8) (at_ perm : Int) (v : UInt8) (w : World) (hl : Row w ao l cap) (hn : l.length ≤ 200) (hp1 : -9223372036854775808 ≤ perm) (hp2 : perm ≤ 9223372036854775807) :
    Calls Try.prog 5 #[.slice ao l.length cap, .int .i64 at_, .int .u8 (v.toNat : Int), .int .i64 perm] w fun e w' => e = .returned (.bool true) ∧ Below w.heap.size w w' := by
  have HL := hidden hl
  clear hl
  have ha := and7
  have hd : decide ((200 : Int) < (l.length : Int)) = false := by simp; omega
  go_enter Try.func5, Try.ntmps5
  go_wp2_with (go_at_call 6; refine (new_pg perm w).mono ?_; rintro e w1 ⟨rfl, hp1, hb1⟩; have HP1 := hidden hp1; have HB1 := hidden hb1; clear hp1 hb1)
  go_loopw [10] (fun i wr => ∃ (k : Nat) (m : List UInt8), k ≤ l.length ∧ i = .int .i64 (k : Int) ∧ Pg 51 wr w.heap.size m (perm % 8) (k : Int) ∧ Below w.heap.size w wr) (fun i _ => l.length - (intOf i).toNat)
  case atStart => exact ⟨0, zeros, by omega, rfl, Hid.out HP1, Hid.out HB1⟩
  case round =>
    obtain ⟨k, m, hk, rfl, hpg, hbel⟩ := hrel
    have HP := hidden hpg
    have HB := hidden hbel
    clear hpg hbel
    by_cases hkn : k < l.length
    · obtain ⟨b, off, rfl, hc⟩ : ∃ b off, ao = some ⟨b, off, none⟩ ∧ wr.cell? ⟨b, off + k, none⟩ = some (.int .u8 ((l.getD k 0).toNat : Int)) := by
        rcases (Row.lies ((Hid.out HL).later (Hid.out HB))) with h | ⟨b, off, e, h⟩
        · simp [h] at hkn
        · exact ⟨b, off, e, h k hkn⟩
      have H11 := hidden (setByte_any wr w.heap.size m (perm % 8) (k : Int) (k : Int) (l.getD k 0) (by omega) (by omega) (Hid.out HP))
      rw [cntB_in _ _ (by unfold inB; omega)] at H11
      generalize l.getD k 0 = x at hc H11
      generalize setB m (k : Int) x = m2 at H11
      go_wp2_with (go_at_call 11; refine (Hid.out H11).mono ?_; rintro e w2 ⟨rfl, hp2, ho2⟩; have HP2 := hidden hp2; have HB2 := hidden (Below.trans (Hid.out HB) (Only.below ho2 (Nat.le_refl _))); clear hp2 ho2)
      go_roundw
      case rel => first | exact ⟨k + 1, m2, by omega, by go_num, by simpa using Hid.out HP2, Hid.out HB2⟩ | ((repeat apply Exists.intro); exact ⟨⟨k + 1, m2, by omega, by go_num, by simpa using Hid.out HP2, Hid.out HB2⟩, rfl⟩)
      case measure => simp [intOf]; omega
    · have hkl : l.length = k := by omega
      rw [hkl] at hn
      have H8 := hidden (place_any at_ 256 (by omega) (by omega) wr)
      have hK0 := Int.emod_nonneg at_ (show (256 : Int) ≠ 0 by omega)
      have hK1 := Int.emod_lt_of_pos at_ (show (0 : Int) < 256 by omega)
      generalize at_ % 256 = K at H8 hK0 hK1
      have hin : Hid (inB K) := ⟨hK0, hK1⟩
      have hg := getB_setB m K v (Hid.out HP).len (Hid.out hin)
      have hcn := hidden (cntB_in (k : Int) K (Hid.out hin))
      have H10 := hidden (copy_any wr w.heap.size m (perm % 8) (k : Int) (Hid.out HP))
      have hkl2 : (l.length : Int) = (k : Int) := by omega
      generalize l.length = n at hkl hkl2
      subst hkl
      clear hkl2
      clear hkn
      go_wp2_with (first | (go_at_call 8; refine (Hid.out H8).mono ?_; rintro e w0 ⟨rfl, hww⟩; rw [hww]; clear hww w0) | (go_at_call 10; refine (Hid.out H10).mono ?_; rintro e w2 ⟨c, rfl, hc2, hp2, hb2⟩; have HQ2 := hidden hp2; have HP2 := hidden ((Hid.out HP).later hb2); have HB2 := hidden (Below.trans (Hid.out HB) (Below.mono hb2 (Hid.out HB).size)); have hne := hidden (Nat.ne_of_lt (Nat.lt_of_lt_of_le (Pg.lt (Hid.out HP)) hc2)); have hle := hidden (Nat.le_trans (Below.size (Hid.out HB)) hc2); clear hc2 hp2 hb2) | (go_at_call 16; (first | (with_reducible refine (writes_any _ c _ _ _ (Hid.out HQ4)).mono ?_) | (with_reducible refine (writes_any _ w.heap.size _ _ _ (Hid.out HP4)).mono ?_) | (with_reducible refine (writes_any _ c _ _ _ (Hid.out HQ2)).mono ?_)); rintro e w0 ⟨rfl, hww⟩; rw [hww]; clear hww w0) | (go_at_call 13; (first | (with_reducible refine (byte_any _ c _ _ _ _ (Hid.out HQ4)).mono ?_) | (with_reducible refine (byte_any _ w.heap.size _ _ _ _ (Hid.out HP4)).mono ?_) | (with_reducible refine (byte_any _ w.heap.size _ _ _ _ (Hid.out HP2)).mono ?_)); rintro e w0 ⟨rfl, hww⟩; rw [hww]; clear hww w0) | (go_at_call 11; refine (setByte_any _ c _ _ _ _ v ?_ ?_ (Hid.out HQ2)).mono ?_; omega; omega; rintro e w3 ⟨rfl, hq3, ho3⟩; have HQ3 := hidden hq3; have HP3 := hidden (Pg.only (Hid.out HP2) ho3 (Hid.out hne)); have HB3 := hidden (Below.trans (Hid.out HB2) (Only.below ho3 (Hid.out hle))); clear hq3 ho3) | (go_at_call 9; refine (setPerm_to _ c _ _ _ _ ((perm % 8 + 1) % 8) ?_ (Hid.out HQ3)).mono ?_; (first | omega | (unfold wrap64; omega) | (rw [IntKind.wrap_i64]; omega)); rintro e w4 ⟨rfl, hq4, ho4⟩; have HQ4 := hidden hq4; have HP4 := hidden (Pg.only (Hid.out HP3) ho4 (Hid.out hne)); have HB4 := hidden (Below.trans (Hid.out HB3) (Only.below ho4 (Hid.out hle))); rw [Hid.out hcn] at HQ4; clear hq4 ho4) | (go_at_call 15; (first | (with_reducible refine (perm_any _ c _ _ _ (Hid.out HQ4)).mono ?_) | (with_reducible refine (perm_any _ w.heap.size _ _ _ (Hid.out HP4)).mono ?_)); rintro e w0 ⟨rfl, hww⟩; rw [hww]; clear hww w0) | (go_at_call 19; refine (awake_any _).mono ?_; rintro e w5 ⟨rfl, hb5⟩; have HB5 := hidden (Below.trans (Hid.out HB4) (Below.mono hb5 (Hid.out HB4).size)); clear hb5))
      go_ret
      exact ⟨rfl, Hid.out HB5⟩
end Go.Proofs.Ytikjobjcpldhkaa

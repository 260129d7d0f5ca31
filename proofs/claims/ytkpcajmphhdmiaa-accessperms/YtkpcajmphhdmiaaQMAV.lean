/- The first sentence of layer 10. -/
import Derived.Test.YtkpcajmphhdmiaaQMAU
import Derived.Test.YtkpcajmphhdmiaaQMAI
import Derived.Test.YtkpcajmphhdmiaaQMAO
namespace Go.Proofs.Ytkpcajmphhdmiaa
open Go.ChangeShapes Go.WideShapes Go.ChangeAt Go.RowKit
set_option linter.unusedVariables false
/-- The chapter's example: four bytes at 0. -/
def exP (ao : Option Addr) : Part4 := ⟨0, [1, 2, 3, 4], 7, false, ao, 4⟩
theorem ex_word {s : MS} {ao : Option Addr} (h : s.abs = memOf [exP ao]) : preW s 0 4 = 16909060 := by
  have g : ∀ j, j < 4 → (s.get (wrapAt 0 j)) = [1, 2, 3, 4].getD j 0 := fun j hj => by
    rw [get_getA, h]
    exact one_get (exP ao) (by simp [exP]) (by simp [exP]) j (by simpa [exP] using hj)
  show (((0 * 256 + (s.get (wrapAt 0 0)).toNat) * 256 + (s.get (wrapAt 0 1)).toNat) * 256 + (s.get (wrapAt 0 2)).toNat) * 256 + (s.get (wrapAt 0 3)).toNat = _
  rw [g 0 (by omega), g 1 (by omega), g 2 (by omega), g 3 (by omega)]
  rfl
theorem ex_load {s : MS} {ao : Option Addr} (h : s.abs = memOf [exP ao]) : loadN s 50 1 2864434397 = 33752285 := by
  show lwlN 1 (preW s 0 4) 2864434397 = _
  rw [ex_word h]
  rfl
theorem ex_kind (s : MS) : faultK s 51 2 = 2 := by
  unfold faultK
  rw [if_pos (kindP_reads (by omega))]
  rfl
theorem ex_loadC {s : MS} {ao : Option Addr} (h : s.abs = memOf [exP ao]) (w : World) (hm : MemW w s) : Calls Try.prog 15 #[.pointer (some ⟨s.mb, 0, none⟩), .agg (insC 50 0 0 0 0 0), .int .u32 1, .int .u32 2864434397] w fun e w' => e = .returned (.int .u32 33752285) ∧ Below w.heap.size w w' := by
  have := accLoad_any w s hm 50 0 0 0 0 0 1 2864434397 (by omega) (by omega)
  rw [ex_load h] at this
  exact this
theorem ex_kindC (s : MS) (w : World) (hm : MemW w s) : Calls Try.prog 11 #[.pointer (some ⟨s.mb, 0, none⟩), .agg (insC 51 0 0 0 0 0), .int .u32 2] w fun e w' => e = .returned (.int .i64 2) ∧ Below w.heap.size w w' := by
  have := accKind_any w s hm 51 0 0 0 0 0 2 (by omega)
  rw [ex_kind] at this
  exact this
set_option maxRecDepth 20000 in
set_option maxHeartbeats 1000000 in
theorem awake10_any (w : World) : Calls Try.prog 8 #[] w fun e w' => e = .returned (.bool true) ∧ Below w.heap.size w w' := by
  obtain ⟨wa, hwa⟩ : ∃ wa, w.alloc (.cells #[.int .u8 1, .int .u8 2, .int .u8 3, .int .u8 4] 5) = wa := ⟨_, rfl⟩
  obtain ⟨gn, hgn⟩ : ∃ gn, w.heap.size = gn := ⟨_, rfl⟩
  have hra : Row wa (some ⟨gn, 0, none⟩) [1, 2, 3, 4] 4 := by rw [← hwa, ← hgn]; exact row_new w [1, 2, 3, 4] (by simp) (by simp)
  have hba : Below w.heap.size w wa := by rw [← hwa]; exact below_new w _
  obtain ⟨wb, hwb⟩ : ∃ wb, wa.alloc (.cells #[.int .u32 0, .slice (some ⟨gn, 0, none⟩) 4 4, .int .i64 7, .bool false] 48) = wb := ⟨_, rfl⟩
  obtain ⟨pn, hpn⟩ : ∃ pn, wa.heap.size = pn := ⟨_, rfl⟩
  have hpb : Pieces wb (some ⟨pn, 0, none⟩) [exP (some ⟨gn, 0, none⟩)] := by rw [← hwb, ← hpn]; exact piece_new wa 0 (by omega) (some ⟨gn, 0, none⟩) [1, 2, 3, 4] 4 7 false hra
  have hbb : Below wa.heap.size wa wb := by rw [← hwb]; exact below_new wa _
  have HBB := hidden (hba.trans (hbb.mono hba.size))
  have HME := hidden (memory_any wb (some ⟨pn, 0, none⟩) 1 [exP (some ⟨gn, 0, none⟩)] hpb (by simp) (by simp [exP]))
  clear hra hba hpb hbb
  go_enter Try.func8, Try.ntmps8
  go_wp2_with (first | (go_at_call 9; refine HME.out.mono ?_; rintro e w1 ⟨s, rfl, hown, habs, h64, h32, hts, hcc⟩; have HO := hidden hown; have HAB := hidden habs; clear hown habs h64 h32 hts hcc) | (go_at_call 15; refine (ex_loadC HAB.out w1 HO.out.mem).mono ?_; rintro e w2 ⟨rfl, hb2⟩; have HB2 := hidden hb2; have HM2 := hidden (HO.out.mem.later hb2); clear hb2) | (go_at_call 11; refine (ex_kindC s w2 HM2.out).mono ?_; rintro e w3 ⟨rfl, hb3⟩; have HB3 := hidden hb3; clear hb3))
  go_ret
  have hb1 := HBB.out.trans (HO.out.below.mono HBB.out.size)
  have hb2 := hb1.trans (HB2.out.mono hb1.size)
  exact ⟨rfl, hb2.trans (HB3.out.mono hb2.size)⟩
end Go.Proofs.Ytkpcajmphhdmiaa
namespace Go.Proofs.Ytkpcajmphhdmiaa
open Go.ChangeShapes Go.WideShapes Go.ChangeAt Go.RowKit
set_option linter.unusedVariables false
theorem rkind48 (w : World) : Calls Try.prog 25 #[.int .i64 48] w fun e w' => e = .returned (.int .i64 4) ∧ w' = w := by
  go_enter Try.func25, Try.ntmps25
  go_wp2
  go_ret
  exact ⟨rfl, rfl⟩
/-- One page at 1024. -/
def pgP (p : Int) : Part4 := ⟨1024, [], p, false, none, 0⟩
theorem pg_some {s : MS} {p : Int} (h : s.abs = memOf [pgP p]) (q : Nat) : (s.abs q).isSome = true ↔ q = 1024 := by
  have e : pageOf (pgP p).at_ = 1024 := show pageOf 1024 = 1024 by decide
  rw [h, bare_some (pgP p) rfl (by simp [pgP]), e]
theorem pg_perm {s : MS} {p : Int} (h : s.abs = memOf [pgP p]) (h0 : 0 ≤ p) (h8 : p < 8) (a : Nat) (ha : pageOf a = 1024) : s.perm a = p := by
  have := perm_all (s := s) (z := p) (by rw [h]; exact one_allP (pgP p)) a (by rw [pg_some h, ha])
  rw [this]
  omega
theorem pg_none {s : MS} {p : Int} (h : s.abs = memOf [pgP p]) : s.perm 2048 = 0 := by
  refine perm_none 2048 ?_
  cases hq : s.abs (pageOf 2048) with
  | none => rfl
  | some x =>
    have := (pg_some h (pageOf 2048)).1 (by rw [hq]; rfl)
    exact absurd this (by decide)
def zB (p m : Int) (r : Int) : Int := if bits .and .i64 p m = 0 then r else 0
theorem pg_read {s : MS} {p : Int} (h : s.abs = memOf [pgP p]) (h0 : 0 ≤ p) (h8 : p < 8) (a : Nat) (ha : pageOf a = 1024) : faultK s 48 a = zB p 4 5 := by
  unfold faultK
  rw [if_pos (kindP_reads (by omega))]
  unfold faultV
  rw [if_neg (show ¬ astrayB 48 a = true by rw [show astrayB 48 a = false from rfl]; decide), pg_perm h h0 h8 a ha]
  rfl
theorem pg_write {s : MS} {p : Int} (h : s.abs = memOf [pgP p]) (h0 : 0 ≤ p) (h8 : p < 8) (a : Nat) (ha : pageOf a = 1024) : faultK s 55 a = zB p 2 6 := by
  unfold faultK
  rw [if_neg (by rw [kindP_writes (by omega)]; decide), if_pos (kindP_writes (by omega))]
  unfold faultV
  rw [if_neg (show ¬ astrayB 55 a = true by rw [show astrayB 55 a = false from rfl]; decide), pg_perm h h0 h8 a ha]
  rfl
theorem pg_fetch {s : MS} {p : Int} (h : s.abs = memOf [pgP p]) (h0 : 0 ≤ p) (h8 : p < 8) (a : Nat) (ha : pageOf a = 1024) (h4 : a % 4 = 0) : (fetchV s a).2 = zB p 1 4 := by
  unfold fetchV
  rw [if_neg (by omega), pg_perm h h0 h8 a ha]
  unfold zB
  split <;> rfl
theorem pg_far {s : MS} {p : Int} (h : s.abs = memOf [pgP p]) : fetchV s 2048 = (0, 4) := by
  unfold fetchV
  rw [if_neg (by omega), pg_none h]
  rfl
theorem pg_kindC {s : MS} {op : Int} {a : Nat} {r : Int} (ha : a < 4294967296) (hr : faultK s op a = r) (w : World) (hm : MemW w s) : Calls Try.prog 11 #[.pointer (some ⟨s.mb, 0, none⟩), .agg (insC op 0 0 0 0 0), .int .u32 (a : Int)] w fun e w' => e = .returned (.int .i64 r) ∧ Below w.heap.size w w' := by
  have := accKind_any w s hm op 0 0 0 0 0 a ha
  rw [hr] at this
  exact this
theorem pg_fetchC {s : MS} {a : Nat} {r : Int} (ha : a < 4294967296) (hr : (fetchV s a).2 = r) (w : World) (hm : MemW w s) : Calls Try.prog 13 #[.pointer (some ⟨s.mb, 0, none⟩), .int .u32 (a : Int)] w fun e w' => (∃ x, e = .returned (.tuple #[.int .u32 x, .int .i64 r])) ∧ Below w.heap.size w w' := by
  have := accFetch_any w s hm a ha
  rw [hr] at this
  exact this.mono fun e w' ⟨h1, n, h2⟩ => ⟨⟨_, h1⟩, by rw [h2]; exact below_drewN (Below.refl _ w) n⟩
theorem pg_farC {s : MS} {p : Int} (h : s.abs = memOf [pgP p]) (w : World) (hm : MemW w s) : Calls Try.prog 13 #[.pointer (some ⟨s.mb, 0, none⟩), .int .u32 2048] w fun e w' => (∃ x, e = .returned (.tuple #[.int .u32 x, .int .i64 4])) ∧ Below w.heap.size w w' := pg_fetchC (a := 2048) (by omega) (by rw [pg_far h]) w hm
set_option maxRecDepth 20000 in
set_option maxHeartbeats 8000000 in
theorem perms_walk (z : Int) (x : Nat) (w : World) : Calls Try.prog 5 #[.int .i64 z, .int .u32 (x : Int)] w fun e w' => e = .returned (.bool true) ∧ Below w.heap.size w w' := by
  have HPL := hidden (place_any z 8 (by omega) (by omega) w)
  obtain ⟨p, hp⟩ : ∃ p, z % 8 = p := ⟨_, rfl⟩
  have p0 : 0 ≤ p := by omega
  have p8 : p < 8 := by omega
  rw [hp] at HPL
  clear hp
  obtain ⟨wb, hwb⟩ : ∃ wb, w.alloc (.cells #[.int .u32 1024, .slice none 0 0, .int .i64 p, .bool false] 48) = wb := ⟨_, rfl⟩
  obtain ⟨pn, hpn⟩ : ∃ pn, w.heap.size = pn := ⟨_, rfl⟩
  have hpb : Pieces wb (some ⟨pn, 0, none⟩) [pgP p] := by rw [← hwb, ← hpn]; exact piece_new w 1024 (by omega) none [] 0 p false (Row.none w)
  have HBB := hidden (show Below w.heap.size w wb by rw [← hwb]; exact below_new w _)
  have HME := hidden (memory_any wb (some ⟨pn, 0, none⟩) 1 [pgP p] hpb (by simp) (by simp [pgP]))
  obtain ⟨a, hadef⟩ : ∃ a : Nat, (a : Int) = 1024 + (x : Int) % 256 := ⟨1024 + x % 256, by omega⟩
  have ha : a < 4294967296 := by omega
  have hpg : pageOf a = 1024 := by unfold pageOf; omega
  have hb : a - a % 4 < 4294967296 := by omega
  have hpb2 : pageOf (a - a % 4) = 1024 := by unfold pageOf; omega
  have hb4 : (a - a % 4) % 4 = 0 := by omega
  have e1 : (1024 : Int) + (x : Int) % 256 = (a : Int) := hadef.symm
  obtain ⟨b, hbd⟩ : ∃ b, a - a % 4 = b := ⟨_, rfl⟩
  have e2 : (a : Int) - (a : Int) % 4 = (b : Int) := by omega
  rw [hbd] at hb hpb2 hb4
  have HC := hidden (fun (s : MS) (h : s.abs = memOf [pgP p]) => And.intro (pg_read h p0 p8 a hpg) (And.intro (pg_write h p0 p8 a hpg) (pg_fetch h p0 p8 b hpb2 hb4)))
  have HA := hidden ha
  have HB := hidden hb
  have H5 := hidden (fun u => new5_any 1 1 (by decide) u)
  clear hpb hadef ha hpg hb hpb2 hb4 hbd
  rcases (show p = 0 ∨ p = 1 ∨ p = 2 ∨ p = 3 ∨ p = 4 ∨ p = 5 ∨ p = 6 ∨ p = 7 by omega) with rfl | rfl | rfl | rfl | rfl | rfl | rfl | rfl
  · clear p0 p8
    go_enter Try.func5, Try.ntmps5
    go_wp2_with (first | (go_at_call 24; refine HPL.out.mono ?_; rintro e w9 ⟨rfl, hww⟩; rw [hww]; clear hww w9) | (go_at_call 9; refine HME.out.mono ?_; rintro e w1 ⟨s, rfl, hown, habs, h64, h32, hts, hcc⟩; have HO := hidden hown; have HAB := hidden habs; clear hown habs h64 h32 hts hcc) | (go_at_call 11; with_reducible refine (pg_kindC (op := 48) HA.out (r := 5) (HC.out s HAB.out).1 w1 HO.out.mem).mono ?_; rintro e w2 ⟨rfl, hb2⟩; have HB2 := hidden hb2; have HM2 := hidden (HO.out.mem.later hb2); clear hb2) | (go_at_call 11; with_reducible refine (pg_kindC (op := 55) HA.out (r := 6) (HC.out s HAB.out).2.1 w2 HM2.out).mono ?_; rintro e w3 ⟨rfl, hb3⟩; have HB3 := hidden hb3; have HM3 := hidden (HM2.out.later hb3); clear hb3) | (go_at_call 13; with_reducible refine (pg_fetchC HB.out (r := 4) (HC.out s HAB.out).2.2 w3 HM3.out).mono ?_; rintro e w4 ⟨⟨x4, rfl⟩, hb4⟩; have HB4 := hidden hb4; have HM4 := hidden (HM3.out.later hb4); clear hb4) | (go_at_call 13; with_reducible refine (pg_farC HAB.out w4 HM4.out).mono ?_; rintro e w5 ⟨⟨x5, rfl⟩, hb5⟩; have HB5 := hidden hb5; clear hb5) | (go_at_call 25; refine (rkind48 _).mono ?_; rintro e w6 ⟨rfl, hww⟩; rw [hww]; clear hww w6) | (go_at_call 26; refine (H5.out _).mono ?_; rintro e w7 ⟨rfl, hb7, hm7⟩; have HB7 := hidden hb7; clear hb7 hm7) | (go_at_call 8; refine (awake10_any _).mono ?_; rintro e w8 ⟨rfl, hb8⟩; have HB8 := hidden hb8; clear hb8))
    go_ret
    have b1 := HBB.out.trans (HO.out.below.mono HBB.out.size)
    have b2 := b1.trans (HB2.out.mono b1.size)
    have b3 := b2.trans (HB3.out.mono b2.size)
    have b4 := b3.trans (HB4.out.mono b3.size)
    have b5 := b4.trans (HB5.out.mono b4.size)
    have b7 := b5.trans (HB7.out.mono b5.size)
    exact ⟨rfl, b7.trans (HB8.out.mono b7.size)⟩
  · clear p0 p8
    go_enter Try.func5, Try.ntmps5
    go_wp2_with (first | (go_at_call 24; refine HPL.out.mono ?_; rintro e w9 ⟨rfl, hww⟩; rw [hww]; clear hww w9) | (go_at_call 9; refine HME.out.mono ?_; rintro e w1 ⟨s, rfl, hown, habs, h64, h32, hts, hcc⟩; have HO := hidden hown; have HAB := hidden habs; clear hown habs h64 h32 hts hcc) | (go_at_call 11; with_reducible refine (pg_kindC (op := 48) HA.out (r := 5) (HC.out s HAB.out).1 w1 HO.out.mem).mono ?_; rintro e w2 ⟨rfl, hb2⟩; have HB2 := hidden hb2; have HM2 := hidden (HO.out.mem.later hb2); clear hb2) | (go_at_call 11; with_reducible refine (pg_kindC (op := 55) HA.out (r := 6) (HC.out s HAB.out).2.1 w2 HM2.out).mono ?_; rintro e w3 ⟨rfl, hb3⟩; have HB3 := hidden hb3; have HM3 := hidden (HM2.out.later hb3); clear hb3) | (go_at_call 13; with_reducible refine (pg_fetchC HB.out (r := 0) (HC.out s HAB.out).2.2 w3 HM3.out).mono ?_; rintro e w4 ⟨⟨x4, rfl⟩, hb4⟩; have HB4 := hidden hb4; have HM4 := hidden (HM3.out.later hb4); clear hb4) | (go_at_call 13; with_reducible refine (pg_farC HAB.out w4 HM4.out).mono ?_; rintro e w5 ⟨⟨x5, rfl⟩, hb5⟩; have HB5 := hidden hb5; clear hb5) | (go_at_call 25; refine (rkind48 _).mono ?_; rintro e w6 ⟨rfl, hww⟩; rw [hww]; clear hww w6) | (go_at_call 26; refine (H5.out _).mono ?_; rintro e w7 ⟨rfl, hb7, hm7⟩; have HB7 := hidden hb7; clear hb7 hm7) | (go_at_call 8; refine (awake10_any _).mono ?_; rintro e w8 ⟨rfl, hb8⟩; have HB8 := hidden hb8; clear hb8))
    go_ret
    have b1 := HBB.out.trans (HO.out.below.mono HBB.out.size)
    have b2 := b1.trans (HB2.out.mono b1.size)
    have b3 := b2.trans (HB3.out.mono b2.size)
    have b4 := b3.trans (HB4.out.mono b3.size)
    have b5 := b4.trans (HB5.out.mono b4.size)
    have b7 := b5.trans (HB7.out.mono b5.size)
    exact ⟨rfl, b7.trans (HB8.out.mono b7.size)⟩
  · clear p0 p8
    go_enter Try.func5, Try.ntmps5
    go_wp2_with (first | (go_at_call 24; refine HPL.out.mono ?_; rintro e w9 ⟨rfl, hww⟩; rw [hww]; clear hww w9) | (go_at_call 9; refine HME.out.mono ?_; rintro e w1 ⟨s, rfl, hown, habs, h64, h32, hts, hcc⟩; have HO := hidden hown; have HAB := hidden habs; clear hown habs h64 h32 hts hcc) | (go_at_call 11; with_reducible refine (pg_kindC (op := 48) HA.out (r := 5) (HC.out s HAB.out).1 w1 HO.out.mem).mono ?_; rintro e w2 ⟨rfl, hb2⟩; have HB2 := hidden hb2; have HM2 := hidden (HO.out.mem.later hb2); clear hb2) | (go_at_call 11; with_reducible refine (pg_kindC (op := 55) HA.out (r := 0) (HC.out s HAB.out).2.1 w2 HM2.out).mono ?_; rintro e w3 ⟨rfl, hb3⟩; have HB3 := hidden hb3; have HM3 := hidden (HM2.out.later hb3); clear hb3) | (go_at_call 13; with_reducible refine (pg_fetchC HB.out (r := 4) (HC.out s HAB.out).2.2 w3 HM3.out).mono ?_; rintro e w4 ⟨⟨x4, rfl⟩, hb4⟩; have HB4 := hidden hb4; have HM4 := hidden (HM3.out.later hb4); clear hb4) | (go_at_call 13; with_reducible refine (pg_farC HAB.out w4 HM4.out).mono ?_; rintro e w5 ⟨⟨x5, rfl⟩, hb5⟩; have HB5 := hidden hb5; clear hb5) | (go_at_call 25; refine (rkind48 _).mono ?_; rintro e w6 ⟨rfl, hww⟩; rw [hww]; clear hww w6) | (go_at_call 26; refine (H5.out _).mono ?_; rintro e w7 ⟨rfl, hb7, hm7⟩; have HB7 := hidden hb7; clear hb7 hm7) | (go_at_call 8; refine (awake10_any _).mono ?_; rintro e w8 ⟨rfl, hb8⟩; have HB8 := hidden hb8; clear hb8))
    go_ret
    have b1 := HBB.out.trans (HO.out.below.mono HBB.out.size)
    have b2 := b1.trans (HB2.out.mono b1.size)
    have b3 := b2.trans (HB3.out.mono b2.size)
    have b4 := b3.trans (HB4.out.mono b3.size)
    have b5 := b4.trans (HB5.out.mono b4.size)
    have b7 := b5.trans (HB7.out.mono b5.size)
    exact ⟨rfl, b7.trans (HB8.out.mono b7.size)⟩
  · clear p0 p8
    go_enter Try.func5, Try.ntmps5
    go_wp2_with (first | (go_at_call 24; refine HPL.out.mono ?_; rintro e w9 ⟨rfl, hww⟩; rw [hww]; clear hww w9) | (go_at_call 9; refine HME.out.mono ?_; rintro e w1 ⟨s, rfl, hown, habs, h64, h32, hts, hcc⟩; have HO := hidden hown; have HAB := hidden habs; clear hown habs h64 h32 hts hcc) | (go_at_call 11; with_reducible refine (pg_kindC (op := 48) HA.out (r := 5) (HC.out s HAB.out).1 w1 HO.out.mem).mono ?_; rintro e w2 ⟨rfl, hb2⟩; have HB2 := hidden hb2; have HM2 := hidden (HO.out.mem.later hb2); clear hb2) | (go_at_call 11; with_reducible refine (pg_kindC (op := 55) HA.out (r := 0) (HC.out s HAB.out).2.1 w2 HM2.out).mono ?_; rintro e w3 ⟨rfl, hb3⟩; have HB3 := hidden hb3; have HM3 := hidden (HM2.out.later hb3); clear hb3) | (go_at_call 13; with_reducible refine (pg_fetchC HB.out (r := 0) (HC.out s HAB.out).2.2 w3 HM3.out).mono ?_; rintro e w4 ⟨⟨x4, rfl⟩, hb4⟩; have HB4 := hidden hb4; have HM4 := hidden (HM3.out.later hb4); clear hb4) | (go_at_call 13; with_reducible refine (pg_farC HAB.out w4 HM4.out).mono ?_; rintro e w5 ⟨⟨x5, rfl⟩, hb5⟩; have HB5 := hidden hb5; clear hb5) | (go_at_call 25; refine (rkind48 _).mono ?_; rintro e w6 ⟨rfl, hww⟩; rw [hww]; clear hww w6) | (go_at_call 26; refine (H5.out _).mono ?_; rintro e w7 ⟨rfl, hb7, hm7⟩; have HB7 := hidden hb7; clear hb7 hm7) | (go_at_call 8; refine (awake10_any _).mono ?_; rintro e w8 ⟨rfl, hb8⟩; have HB8 := hidden hb8; clear hb8))
    go_ret
    have b1 := HBB.out.trans (HO.out.below.mono HBB.out.size)
    have b2 := b1.trans (HB2.out.mono b1.size)
    have b3 := b2.trans (HB3.out.mono b2.size)
    have b4 := b3.trans (HB4.out.mono b3.size)
    have b5 := b4.trans (HB5.out.mono b4.size)
    have b7 := b5.trans (HB7.out.mono b5.size)
    exact ⟨rfl, b7.trans (HB8.out.mono b7.size)⟩
  · clear p0 p8
    go_enter Try.func5, Try.ntmps5
    go_wp2_with (first | (go_at_call 24; refine HPL.out.mono ?_; rintro e w9 ⟨rfl, hww⟩; rw [hww]; clear hww w9) | (go_at_call 9; refine HME.out.mono ?_; rintro e w1 ⟨s, rfl, hown, habs, h64, h32, hts, hcc⟩; have HO := hidden hown; have HAB := hidden habs; clear hown habs h64 h32 hts hcc) | (go_at_call 11; with_reducible refine (pg_kindC (op := 48) HA.out (r := 0) (HC.out s HAB.out).1 w1 HO.out.mem).mono ?_; rintro e w2 ⟨rfl, hb2⟩; have HB2 := hidden hb2; have HM2 := hidden (HO.out.mem.later hb2); clear hb2) | (go_at_call 11; with_reducible refine (pg_kindC (op := 55) HA.out (r := 6) (HC.out s HAB.out).2.1 w2 HM2.out).mono ?_; rintro e w3 ⟨rfl, hb3⟩; have HB3 := hidden hb3; have HM3 := hidden (HM2.out.later hb3); clear hb3) | (go_at_call 13; with_reducible refine (pg_fetchC HB.out (r := 4) (HC.out s HAB.out).2.2 w3 HM3.out).mono ?_; rintro e w4 ⟨⟨x4, rfl⟩, hb4⟩; have HB4 := hidden hb4; have HM4 := hidden (HM3.out.later hb4); clear hb4) | (go_at_call 13; with_reducible refine (pg_farC HAB.out w4 HM4.out).mono ?_; rintro e w5 ⟨⟨x5, rfl⟩, hb5⟩; have HB5 := hidden hb5; clear hb5) | (go_at_call 25; refine (rkind48 _).mono ?_; rintro e w6 ⟨rfl, hww⟩; rw [hww]; clear hww w6) | (go_at_call 26; refine (H5.out _).mono ?_; rintro e w7 ⟨rfl, hb7, hm7⟩; have HB7 := hidden hb7; clear hb7 hm7) | (go_at_call 8; refine (awake10_any _).mono ?_; rintro e w8 ⟨rfl, hb8⟩; have HB8 := hidden hb8; clear hb8))
    go_ret
    have b1 := HBB.out.trans (HO.out.below.mono HBB.out.size)
    have b2 := b1.trans (HB2.out.mono b1.size)
    have b3 := b2.trans (HB3.out.mono b2.size)
    have b4 := b3.trans (HB4.out.mono b3.size)
    have b5 := b4.trans (HB5.out.mono b4.size)
    have b7 := b5.trans (HB7.out.mono b5.size)
    exact ⟨rfl, b7.trans (HB8.out.mono b7.size)⟩
  · clear p0 p8
    go_enter Try.func5, Try.ntmps5
    go_wp2_with (first | (go_at_call 24; refine HPL.out.mono ?_; rintro e w9 ⟨rfl, hww⟩; rw [hww]; clear hww w9) | (go_at_call 9; refine HME.out.mono ?_; rintro e w1 ⟨s, rfl, hown, habs, h64, h32, hts, hcc⟩; have HO := hidden hown; have HAB := hidden habs; clear hown habs h64 h32 hts hcc) | (go_at_call 11; with_reducible refine (pg_kindC (op := 48) HA.out (r := 0) (HC.out s HAB.out).1 w1 HO.out.mem).mono ?_; rintro e w2 ⟨rfl, hb2⟩; have HB2 := hidden hb2; have HM2 := hidden (HO.out.mem.later hb2); clear hb2) | (go_at_call 11; with_reducible refine (pg_kindC (op := 55) HA.out (r := 6) (HC.out s HAB.out).2.1 w2 HM2.out).mono ?_; rintro e w3 ⟨rfl, hb3⟩; have HB3 := hidden hb3; have HM3 := hidden (HM2.out.later hb3); clear hb3) | (go_at_call 13; with_reducible refine (pg_fetchC HB.out (r := 0) (HC.out s HAB.out).2.2 w3 HM3.out).mono ?_; rintro e w4 ⟨⟨x4, rfl⟩, hb4⟩; have HB4 := hidden hb4; have HM4 := hidden (HM3.out.later hb4); clear hb4) | (go_at_call 13; with_reducible refine (pg_farC HAB.out w4 HM4.out).mono ?_; rintro e w5 ⟨⟨x5, rfl⟩, hb5⟩; have HB5 := hidden hb5; clear hb5) | (go_at_call 25; refine (rkind48 _).mono ?_; rintro e w6 ⟨rfl, hww⟩; rw [hww]; clear hww w6) | (go_at_call 26; refine (H5.out _).mono ?_; rintro e w7 ⟨rfl, hb7, hm7⟩; have HB7 := hidden hb7; clear hb7 hm7) | (go_at_call 8; refine (awake10_any _).mono ?_; rintro e w8 ⟨rfl, hb8⟩; have HB8 := hidden hb8; clear hb8))
    go_ret
    have b1 := HBB.out.trans (HO.out.below.mono HBB.out.size)
    have b2 := b1.trans (HB2.out.mono b1.size)
    have b3 := b2.trans (HB3.out.mono b2.size)
    have b4 := b3.trans (HB4.out.mono b3.size)
    have b5 := b4.trans (HB5.out.mono b4.size)
    have b7 := b5.trans (HB7.out.mono b5.size)
    exact ⟨rfl, b7.trans (HB8.out.mono b7.size)⟩
  · clear p0 p8
    go_enter Try.func5, Try.ntmps5
    go_wp2_with (first | (go_at_call 24; refine HPL.out.mono ?_; rintro e w9 ⟨rfl, hww⟩; rw [hww]; clear hww w9) | (go_at_call 9; refine HME.out.mono ?_; rintro e w1 ⟨s, rfl, hown, habs, h64, h32, hts, hcc⟩; have HO := hidden hown; have HAB := hidden habs; clear hown habs h64 h32 hts hcc) | (go_at_call 11; with_reducible refine (pg_kindC (op := 48) HA.out (r := 0) (HC.out s HAB.out).1 w1 HO.out.mem).mono ?_; rintro e w2 ⟨rfl, hb2⟩; have HB2 := hidden hb2; have HM2 := hidden (HO.out.mem.later hb2); clear hb2) | (go_at_call 11; with_reducible refine (pg_kindC (op := 55) HA.out (r := 0) (HC.out s HAB.out).2.1 w2 HM2.out).mono ?_; rintro e w3 ⟨rfl, hb3⟩; have HB3 := hidden hb3; have HM3 := hidden (HM2.out.later hb3); clear hb3) | (go_at_call 13; with_reducible refine (pg_fetchC HB.out (r := 4) (HC.out s HAB.out).2.2 w3 HM3.out).mono ?_; rintro e w4 ⟨⟨x4, rfl⟩, hb4⟩; have HB4 := hidden hb4; have HM4 := hidden (HM3.out.later hb4); clear hb4) | (go_at_call 13; with_reducible refine (pg_farC HAB.out w4 HM4.out).mono ?_; rintro e w5 ⟨⟨x5, rfl⟩, hb5⟩; have HB5 := hidden hb5; clear hb5) | (go_at_call 25; refine (rkind48 _).mono ?_; rintro e w6 ⟨rfl, hww⟩; rw [hww]; clear hww w6) | (go_at_call 26; refine (H5.out _).mono ?_; rintro e w7 ⟨rfl, hb7, hm7⟩; have HB7 := hidden hb7; clear hb7 hm7) | (go_at_call 8; refine (awake10_any _).mono ?_; rintro e w8 ⟨rfl, hb8⟩; have HB8 := hidden hb8; clear hb8))
    go_ret
    have b1 := HBB.out.trans (HO.out.below.mono HBB.out.size)
    have b2 := b1.trans (HB2.out.mono b1.size)
    have b3 := b2.trans (HB3.out.mono b2.size)
    have b4 := b3.trans (HB4.out.mono b3.size)
    have b5 := b4.trans (HB5.out.mono b4.size)
    have b7 := b5.trans (HB7.out.mono b5.size)
    exact ⟨rfl, b7.trans (HB8.out.mono b7.size)⟩
  · clear p0 p8
    go_enter Try.func5, Try.ntmps5
    go_wp2_with (first | (go_at_call 24; refine HPL.out.mono ?_; rintro e w9 ⟨rfl, hww⟩; rw [hww]; clear hww w9) | (go_at_call 9; refine HME.out.mono ?_; rintro e w1 ⟨s, rfl, hown, habs, h64, h32, hts, hcc⟩; have HO := hidden hown; have HAB := hidden habs; clear hown habs h64 h32 hts hcc) | (go_at_call 11; with_reducible refine (pg_kindC (op := 48) HA.out (r := 0) (HC.out s HAB.out).1 w1 HO.out.mem).mono ?_; rintro e w2 ⟨rfl, hb2⟩; have HB2 := hidden hb2; have HM2 := hidden (HO.out.mem.later hb2); clear hb2) | (go_at_call 11; with_reducible refine (pg_kindC (op := 55) HA.out (r := 0) (HC.out s HAB.out).2.1 w2 HM2.out).mono ?_; rintro e w3 ⟨rfl, hb3⟩; have HB3 := hidden hb3; have HM3 := hidden (HM2.out.later hb3); clear hb3) | (go_at_call 13; with_reducible refine (pg_fetchC HB.out (r := 0) (HC.out s HAB.out).2.2 w3 HM3.out).mono ?_; rintro e w4 ⟨⟨x4, rfl⟩, hb4⟩; have HB4 := hidden hb4; have HM4 := hidden (HM3.out.later hb4); clear hb4) | (go_at_call 13; with_reducible refine (pg_farC HAB.out w4 HM4.out).mono ?_; rintro e w5 ⟨⟨x5, rfl⟩, hb5⟩; have HB5 := hidden hb5; clear hb5) | (go_at_call 25; refine (rkind48 _).mono ?_; rintro e w6 ⟨rfl, hww⟩; rw [hww]; clear hww w6) | (go_at_call 26; refine (H5.out _).mono ?_; rintro e w7 ⟨rfl, hb7, hm7⟩; have HB7 := hidden hb7; clear hb7 hm7) | (go_at_call 8; refine (awake10_any _).mono ?_; rintro e w8 ⟨rfl, hb8⟩; have HB8 := hidden hb8; clear hb8))
    go_ret
    have b1 := HBB.out.trans (HO.out.below.mono HBB.out.size)
    have b2 := b1.trans (HB2.out.mono b1.size)
    have b3 := b2.trans (HB3.out.mono b2.size)
    have b4 := b3.trans (HB4.out.mono b3.size)
    have b5 := b4.trans (HB5.out.mono b4.size)
    have b7 := b5.trans (HB7.out.mono b5.size)
    exact ⟨rfl, b7.trans (HB8.out.mono b7.size)⟩
end Go.Proofs.Ytkpcajmphhdmiaa

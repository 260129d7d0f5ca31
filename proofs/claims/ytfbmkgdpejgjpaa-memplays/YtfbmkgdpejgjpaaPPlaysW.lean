/- MemPlays, walked. -/
import Derived.Test.YtfbmkgdpejgjpaaPPlaysC
namespace Go.Proofs.Ytfbmkgdpejgjpaa
open Go.ChangeShapes Go.WideShapes Go.ChangeAt Go.RowKit
set_option linter.unusedVariables false
set_option maxRecDepth 20000 in
set_option maxHeartbeats 4000000 in
theorem plays_walk (w : World) (most n : Int) (ao : Option Addr) (cap : Nat) (L : List Op4) (h : Ops4 w ao L) (hcap : L.length ≤ cap) (hmax : cap ≤ 9223372036854775807) : Calls Try.prog 3 #[.int .i64 most, .slice ao L.length cap, .int .i64 n] w fun e w' => e = .returned (.bool true) ∧ Below w.heap.size w w' := by
  have H := hidden h
  have H9 := hidden (newMem_any most w)
  have HMO : Hid (min (max most 0) 64 = ((cutMost most : Nat) : Int)) := by show _ = _; unfold cutMost; omega
  have H10 : Hid (∀ w1, Calls Try.prog 10 #[.int .i64 most] w1 fun e w' => e = .returned (.pointer (some ⟨w1.heap.size, 0, none⟩)) ∧ Below w1.heap.size w1 w' ∧ M5 w' ⟨w1.heap.size, cutMost most, [], .slice none 0 0, [], .slice none 0 0⟩) := fun w1 => new5_any (cutMost most) most (Hid.out HMO) w1
  obtain ⟨N, hN⟩ : ∃ N : Nat, n % 1024 = (N : Int) := ⟨(n % 1024).toNat, by omega⟩
  have hN2 : N < 1024 := by omega
  have HAW : Hid (∀ w1, Calls Try.prog 37 #[] w1 fun e w' => e = .returned (.bool true) ∧ Below w1.heap.size w1 w') := awake_any
  clear h
  go_enter Try.func3, Try.ntmps3
  go_wp2_with (first | (go_at_call 9; with_reducible refine (Hid.out H9).mono ?_; rintro e w1 ⟨rfl, hm1, hb1⟩; have HM1 := hidden hm1; have HB1 := hidden hb1; clear hm1 hb1) | (go_at_call 10; with_reducible refine (Hid.out H10 w1).mono ?_; rintro e w2 ⟨rfl, hb2, hm2⟩; have HB2 := hidden hb2; have HM2 := hidden hm2; clear hb2 hm2))
  have HST : Hid (Inv3 w L.length (.pointer (some ⟨w.heap.size + 1, 0, none⟩)) (.pointer (some ⟨w1.heap.size, 0, none⟩)) (.int .i64 0) w2) := by
    refine inv3 0 (fresh (w.heap.size + 1) w.heap.size (cutMost most)) ⟨w1.heap.size, cutMost most, [], .slice none 0 0, [], .slice none 0 0⟩ (by omega) (by omega) rfl ⟨⟨(Hid.out HM1).later (Hid.out HB2), bthen (Hid.out HB1) (Hid.out HB2), ?_⟩, Hid.out HM2, ?_, ?_⟩ ⟨Sim.none _ rfl, rfl, rfl, Nat.le_refl _⟩
    · rintro b (hb | hb | ⟨k, hk, _⟩ | ⟨k, hk, _⟩ | hb)
      · rw [hb]; exact Nat.le_succ _
      · rw [hb]; exact Nat.le_refl _
      · simp [fresh] at hk
      · simp [fresh] at hk
      · simp [fresh, Value.ownBlock] at hb
    · rintro b (hb | hb | hb)
      · rw [hb]; exact (Hid.out HB1).size
      · simp [Value.ownBlock] at hb
      · simp [Value.ownBlock] at hb
    · rintro b hb (h5 | h5 | h5)
      · have := (Hid.out HM1).lt hb
        have e : b = w1.heap.size := h5
        omega
      · simp [Value.ownBlock] at h5
      · simp [Value.ownBlock] at h5
  clear HM1 HM2 HB1 HB2 H9 H10 HMO
  go_loopw [7, 8, 9] (fun x7 x8 x9 wr => Inv3 w L.length x7 x8 x9 wr) (fun x7 x8 x9 _ => 60 - (intOf x9).toNat)
  case atStart => exact Hid.out HST
  case round =>
    obtain ⟨k, s, t, hk1, hk2, rfl, rfl, rfl, hduo, hpi⟩ := hrel
    have HDU := hidden hduo
    have HPI := hidden hpi
    have hbw := hduo.own.below
    by_cases hk : k < L.length ∧ k < 60
    · obtain ⟨hkl, hk60⟩ := hk
      have i1 : (k : Int) < (L.length : Int) := by omega
      have i2 : (k : Int) < 60 := by omega
      obtain ⟨b, off, rfl, hlt, hop⟩ := (Hid.out H).at hkl hbw
      generalize L.getD k noop4 = o at hop
      obtain ⟨c0, c1, c2, c3, hat⟩ := hop
      have hnew := below_new wr (.cells #[.int .i64 o.kd, .int .i64 o.pm, .int .u32 (o.at_ : Int), .int .u8 (o.v.toNat : Int)] 29)
      have HDB : Hid (DB w (wr.alloc (.cells #[.int .i64 o.kd, .int .i64 o.pm, .int .u32 (o.at_ : Int), .int .u8 (o.v.toNat : Int)] 29)) s t wr.heap.size #[.int .i64 o.kd, .int .i64 o.pm, .int .u32 (o.at_ : Int), .int .u8 (o.v.toNat : Int)]) := ⟨hduo.later hnew, Blk.new wr _ 29, fun hf => absurd (hduo.own.mem.lt hf) (Nat.lt_irrefl _), fun hf => absurd (hduo.mem5.footLt hf) (Nat.lt_irrefl _)⟩
      have H11 := hidden (place_any o.kd 9 (by omega) (by omega) (wr.alloc (.cells #[.int .i64 o.kd, .int .i64 o.pm, .int .u32 (o.at_ : Int), .int .u8 (o.v.toNat : Int)] 29)))
      have hk0 : 0 ≤ o.kd % 9 := by omega
      have hk9 : o.kd % 9 < 9 := by omega
      have hfew := hpi.few (w := w) hduo.own.mem
      have htl : t.l.length < 1000 := by omega
      have htt : t.ts.length < 1000000 := by omega
      have hcc : s.c < 1099511627776 := by have := hpi.c; omega
      have HPERM := hidden hduo.own.mem.perm
      clear hduo hpi hbw hnew hfew
      generalize o.kd % 9 = K at H11 hk0 hk9
      go_upto_block 2 with ((go_at_call 11; with_reducible refine (Hid.out H11).mono ?_; rintro e w4 ⟨rfl, hww⟩; rw [hww]; clear hww w4))
      generalize hwo : wr.alloc (.cells #[.int .i64 o.kd, .int .i64 o.pm, .int .u32 (o.at_ : Int), .int .u8 (o.v.toNat : Int)] 29) = wo at HDB H11 ⊢
      generalize hob : wr.heap.size = ob at HDB ⊢
      clear hob hwo hlt c0 c1 c2 c3
      have o0 := DB.o0 (Hid.out HDB); have o1 := DB.o1 (Hid.out HDB); have o2 := DB.o2 (Hid.out HDB); have o3 := DB.o3 (Hid.out HDB); have olt := DB.lt (Hid.out HDB)
      go_cut [7, 8, 11] from 19 to 189 (fun x7 x8 x11 wx => ∃ (s' : MS) (t' : S5), x7 = .pointer (some ⟨s'.mb, 0, none⟩) ∧ x8 = .pointer (some ⟨t'.m, 0, none⟩) ∧ x11 = .bool true ∧ DB w wx s' t' ob #[.int .i64 o.kd, .int .i64 o.pm, .int .u32 (o.at_ : Int), .int .u8 (o.v.toNat : Int)] ∧ PI s' t' (k + 1))
      case first =>
        go_upto_if 49 with ((go_at_call 11; with_reducible refine (Hid.out H11).mono ?_; rintro e w4 ⟨rfl, hww⟩; rw [hww]; clear hww w4))
        rcases (show K = 0 ∨ K = 5 ∨ K = 6 ∨ K = 7 ∨ K = 8 ∨ (¬ K = 0 ∧ ¬ K = 5 ∧ ¬ K = 6 ∧ ¬ K = 7 ∧ ¬ K = 8) by omega) with rfl | rfl | rfl | rfl | rfl | ⟨q0, q5, q6, q7, q8⟩
        · go_wp2
          refine wp_region_pair 12 [51, 52, 53, 54, 55, 56, 57, 58, 59, 60, 61, 62] 5 11 (by decide) (by decide) (by decide) (fun u x y => DB w u x y ob #[.int .i64 o.kd, .int .i64 o.pm, .int .u32 (o.at_ : Int), .int .u8 (o.v.toNat : Int)]) s t (phiMp s.mb t.m ob o) (fun x v => v = .int .i64 (s.mapErr o.at_) ∧ ∃ b, x = s.mapped o.at_ o.pm b) (fun y v => v = .int .i64 (mapErr5 t.l (o.at_ / 256 * 256) t.most) ∧ y.m = t.m ∧ y.most = t.most ∧ y.ts = t.ts ∧ Mapped5 t.l y.l (o.at_ / 256 * 256) (o.pm % 8) t.most) (by kernel_rfl) (by kernel_rfl) rfl ((Hid.out HDB).later ((Below.refl _ _).drew)) ?_ ?_ ?_ ?_
          · intro j hj hjp hjq xs w3 x y hxs hI hpre
            obtain ⟨x0, x1, x2, x3, x4, x5, x6, x7, x8, x9, x10, x11, rfl⟩ := listP12 xs hxs
            rcases (show j = 0 ∨ j = 1 ∨ j = 2 ∨ j = 3 ∨ j = 4 ∨ j = 5 ∨ j = 6 ∨ j = 7 ∨ j = 8 ∨ j = 9 ∨ j = 10 ∨ j = 11 by omega) with rfl | rfl | rfl | rfl | rfl | rfl | rfl | rfl | rfl | rfl | rfl | rfl
            · exact wpOp_run (.pointer (some ⟨s.mb, 0, none⟩)) rfl (by kernel_rfl) (exec_move rfl (by kernel_rfl) w3) ⟨_, by kernel_rfl, rfl, hI⟩
            · exact wpOp_run (.pointer (some ⟨ob, 2, none⟩)) rfl (by kernel_rfl) (by kernel_rfl) ⟨_, by kernel_rfl, rfl, hI⟩
            · have e1 : x1 = .pointer (some ⟨ob, 2, none⟩) := hpre 1 (by kernel_rfl) (by decide) (by decide)
              subst e1
              exact wpOp_run (.int .u32 (o.at_ : Int)) rfl (by kernel_rfl) (exec_load 27 rfl (by kernel_rfl) w3 (load27 hI.o2)) ⟨_, by kernel_rfl, rfl, hI⟩
            · exact wpOp_run (.pointer (some ⟨ob, 1, none⟩)) rfl (by kernel_rfl) (by kernel_rfl) ⟨_, by kernel_rfl, rfl, hI⟩
            · have e3 : x3 = .pointer (some ⟨ob, 1, none⟩) := hpre 3 (by kernel_rfl) (by decide) (by decide)
              subst e3
              exact wpOp_run (.int .i64 o.pm) rfl (by kernel_rfl) (exec_load 3 rfl (by kernel_rfl) w3 (load3 hI.o1)) ⟨_, by kernel_rfl, rfl, hI⟩
            · exact absurd rfl hjp
            · exact wpOp_run (.pointer (some ⟨t.m, 0, none⟩)) rfl (by kernel_rfl) (exec_move rfl (by kernel_rfl) w3) ⟨_, by kernel_rfl, rfl, hI⟩
            · exact wpOp_run (.pointer (some ⟨ob, 2, none⟩)) rfl (by kernel_rfl) (by kernel_rfl) ⟨_, by kernel_rfl, rfl, hI⟩
            · have e7 : x7 = .pointer (some ⟨ob, 2, none⟩) := hpre 7 (by kernel_rfl) (by decide) (by decide)
              subst e7
              exact wpOp_run (.int .u32 (o.at_ : Int)) rfl (by kernel_rfl) (exec_load 27 rfl (by kernel_rfl) w3 (load27 hI.o2)) ⟨_, by kernel_rfl, rfl, hI⟩
            · exact wpOp_run (.pointer (some ⟨ob, 1, none⟩)) rfl (by kernel_rfl) (by kernel_rfl) ⟨_, by kernel_rfl, rfl, hI⟩
            · have e9 : x9 = .pointer (some ⟨ob, 1, none⟩) := hpre 9 (by kernel_rfl) (by decide) (by decide)
              subst e9
              exact wpOp_run (.int .i64 o.pm) rfl (by kernel_rfl) (exec_load 3 rfl (by kernel_rfl) w3 (load3 hI.o1)) ⟨_, by kernel_rfl, rfl, hI⟩
            · exact absurd rfl hjq
          · intro xs w3 y hxs hI hpre
            obtain ⟨x0, x1, x2, x3, x4, x5, x6, x7, x8, x9, x10, x11, rfl⟩ := listP12 xs hxs
            have e0 : x0 = .pointer (some ⟨s.mb, 0, none⟩) := hpre 0 (by kernel_rfl) (by decide) (by decide)
            subst e0
            have e2 : x2 = .int .u32 (o.at_ : Int) := hpre 2 (by kernel_rfl) (by decide) (by decide)
            subst e2
            have e4 : x4 = .int .i64 o.pm := hpre 4 (by kernel_rfl) (by decide) (by decide)
            subst e4
            refine wpOp_callR (R := fun u w4 => u = .int .i64 (s.mapErr o.at_) ∧ ∃ b, Step w3 s w4 (s.mapped o.at_ o.pm b)) 12 #[.pointer (some ⟨s.mb, 0, none⟩), .int .u32 (o.at_ : Int), .int .i64 o.pm] rfl (by kernel_rfl) (by kernel_rfl) ((map_any w3 s o.at_ o.pm hI.duo.own.mem hat).mono fun e w4 ⟨he, hst⟩ => ⟨_, he, rfl, _, hst⟩) ?_
            rintro _ w4 ⟨rfl, b, hst⟩
            exact ⟨_, by kernel_rfl, _, ⟨rfl, b, rfl⟩, hI.code hst⟩
          · intro xs w3 x hxs hI hpre
            obtain ⟨x0, x1, x2, x3, x4, x5, x6, x7, x8, x9, x10, x11, rfl⟩ := listP12 xs hxs
            have e6 : x6 = .pointer (some ⟨t.m, 0, none⟩) := hpre 6 (by kernel_rfl) (by decide) (by decide)
            subst e6
            have e8 : x8 = .int .u32 (o.at_ : Int) := hpre 8 (by kernel_rfl) (by decide) (by decide)
            subst e8
            have e10 : x10 = .int .i64 o.pm := hpre 10 (by kernel_rfl) (by decide) (by decide)
            subst e10
            refine wpOp_callR (R := fun u w4 => u = .int .i64 (mapErr5 t.l (o.at_ / 256 * 256) t.most) ∧ ∃ t1, Step5 w3 t w4 t1 ∧ t1.m = t.m ∧ t1.most = t.most ∧ t1.ts = t.ts ∧ Mapped5 t.l t1.l (o.at_ / 256 * 256) (o.pm % 8) t.most) 13 #[.pointer (some ⟨t.m, 0, none⟩), .int .u32 (o.at_ : Int), .int .i64 o.pm] rfl (by kernel_rfl) (by kernel_rfl) ((hI.duo.mem5.mapC o.at_ o.pm hat htl).mono fun e w4 ⟨he, t1, hst, h1, h2, h3, h4⟩ => ⟨_, he, rfl, t1, hst, h1, h2, h3, h4⟩) ?_
            rintro _ w4 ⟨rfl, t1, hst, h1, h2, h3, h4⟩
            exact ⟨_, by kernel_rfl, t1, ⟨rfl, h1, h2, h3, h4⟩, hI.model hst⟩
          · intro xs w3 x y hxs hI hPa hPb hall
            obtain ⟨x0, x1, x2, x3, x4, x5, x6, x7, x8, x9, x10, x11, rfl⟩ := listP12 xs hxs
            obtain ⟨e5, b, rfl⟩ : x5 = .int .i64 (s.mapErr o.at_) ∧ ∃ b, x = s.mapped o.at_ o.pm b := hPa
            obtain ⟨e11, h1, h2, h3, h4⟩ : x11 = .int .i64 (mapErr5 t.l (o.at_ / 256 * 256) t.most) ∧ y.m = t.m ∧ y.most = t.most ∧ y.ts = t.ts ∧ Mapped5 t.l y.l (o.at_ / 256 * 256) (o.pm % 8) t.most := hPb
            obtain ⟨hsim, herr⟩ := (Hid.out HPI).sim.map o.at_ o.pm b t.most (Hid.out HPI).most (Hid.out HPERM) h4
            rw [herr] at e5
            subst e5 e11
            have HDX := hidden hI
            have HPX : Hid (PI (s.mapped o.at_ o.pm b) y (k + 1)) := ⟨hsim, by rw [mapped_most, h2]; exact (Hid.out HPI).most, by rw [mapped_ts, h3]; exact (Hid.out HPI).ts, by rw [mapped_c]; exact Nat.le_succ_of_le (Hid.out HPI).c⟩
            have HMB := hidden (mapped_mb s o.at_ o.pm b)
            have HM5 := hidden h1
            generalize s.mapped o.at_ o.pm b = s1 at HDX HPX HMB
            generalize mapErr5 t.l (o.at_ / 256 * 256) t.most = er
            clear hall hI hxs hsim herr h1 h2 h3 h4
            simp only [slotsOn, putAll, List.set_cons_succ, List.set_cons_zero, List.drop_succ_cons, List.drop_zero]
            go_wp2
            go_meet
            case rel => exact ⟨s1, y, by rw [Hid.out HMB], by rw [Hid.out HM5], by first | rfl | simp, Hid.out HDX, Hid.out HPX⟩
        · rcases (show o.pm % 2 = 1 ∨ o.pm % 2 = 0 by omega) with hpm | hpm
          · have hb1 : bits .and .i64 o.pm 1 = 1 := by rw [and1]; omega
            go_wp2_with (first | (go_at_call 14; with_reducible refine (watch_any _ s o.at_ true (Hid.out HDB).duo.own.mem hat).mono ?_; rintro e w1 ⟨rfl, hst⟩; have HD1 := hidden (DB.code (Hid.out HDB) hst); clear o0 o1 o2 o3 olt; have o1 := DB.o1 (Hid.out HD1); have o2 := DB.o2 (Hid.out HD1); have olt := DB.lt (Hid.out HD1); clear hst) | (go_at_call 15; with_reducible refine (M5.watchC (Hid.out HD1).duo.mem5 o.at_ true hat).mono ?_; rintro e w2 ⟨rfl, t1, hst, h1, h2, h3, h4⟩; have HD2 := hidden (DB.model (Hid.out HD1) hst); have HTT := hidden (And.intro h1 (And.intro h2 (And.intro h3 h4))); clear hst h1 h2 h3 h4))
            go_meet
            case rel => exact ⟨s.watchAt o.at_ true, t1, by rw [watchAt_mb], by rw [(Hid.out HTT).1], rfl, Hid.out HD2, ⟨by rw [(Hid.out HTT).2.2.2]; exact (Hid.out HPI).sim.watch o.at_ true, by rw [watchAt_most, (Hid.out HTT).2.1]; exact (Hid.out HPI).most, by rw [watchAt_ts, (Hid.out HTT).2.2.1]; exact (Hid.out HPI).ts, by rw [watchAt_c]; exact Nat.le_succ_of_le (Hid.out HPI).c⟩⟩
          · have hb1 : bits .and .i64 o.pm 1 = 0 := by rw [and1]; omega
            go_wp2_with (first | (go_at_call 14; with_reducible refine (watch_any _ s o.at_ false (Hid.out HDB).duo.own.mem hat).mono ?_; rintro e w1 ⟨rfl, hst⟩; have HD1 := hidden (DB.code (Hid.out HDB) hst); clear o0 o1 o2 o3 olt; have o1 := DB.o1 (Hid.out HD1); have o2 := DB.o2 (Hid.out HD1); have olt := DB.lt (Hid.out HD1); clear hst) | (go_at_call 15; with_reducible refine (M5.watchC (Hid.out HD1).duo.mem5 o.at_ false hat).mono ?_; rintro e w2 ⟨rfl, t1, hst, h1, h2, h3, h4⟩; have HD2 := hidden (DB.model (Hid.out HD1) hst); have HTT := hidden (And.intro h1 (And.intro h2 (And.intro h3 h4))); clear hst h1 h2 h3 h4))
            go_meet
            case rel => exact ⟨s.watchAt o.at_ false, t1, by rw [watchAt_mb], by rw [(Hid.out HTT).1], rfl, Hid.out HD2, ⟨by rw [(Hid.out HTT).2.2.2]; exact (Hid.out HPI).sim.watch o.at_ false, by rw [watchAt_most, (Hid.out HTT).2.1]; exact (Hid.out HPI).most, by rw [watchAt_ts, (Hid.out HTT).2.2.1]; exact (Hid.out HPI).ts, by rw [watchAt_c]; exact Nat.le_succ_of_le (Hid.out HPI).c⟩⟩
        · rcases (show o.pm % 2 = 1 ∨ o.pm % 2 = 0 by omega) with hpm | hpm
          · have hb1 : bits .and .i64 o.pm 1 = 1 := by rw [and1]; omega
            go_wp2_with (first | (go_at_call 14; with_reducible refine (watch_any _ s o.at_ true (Hid.out HDB).duo.own.mem hat).mono ?_; rintro e w1 ⟨rfl, hst⟩; have HD1 := hidden (DB.code (Hid.out HDB) hst); clear o0 o1 o2 o3 olt; have o1 := DB.o1 (Hid.out HD1); have o2 := DB.o2 (Hid.out HD1); have olt := DB.lt (Hid.out HD1); clear hst) | (go_at_call 15; with_reducible refine (M5.watchC (Hid.out HD1).duo.mem5 o.at_ true hat).mono ?_; rintro e w2 ⟨rfl, t1, hst, h1, h2, h3, h4⟩; have HD2 := hidden (DB.model (Hid.out HD1) hst); have HTT := hidden (And.intro h1 (And.intro h2 (And.intro h3 h4))); clear hst h1 h2 h3 h4))
            go_meet
            case rel => exact ⟨s.watchAt o.at_ true, t1, by rw [watchAt_mb], by rw [(Hid.out HTT).1], rfl, Hid.out HD2, ⟨by rw [(Hid.out HTT).2.2.2]; exact (Hid.out HPI).sim.watch o.at_ true, by rw [watchAt_most, (Hid.out HTT).2.1]; exact (Hid.out HPI).most, by rw [watchAt_ts, (Hid.out HTT).2.2.1]; exact (Hid.out HPI).ts, by rw [watchAt_c]; exact Nat.le_succ_of_le (Hid.out HPI).c⟩⟩
          · have hb1 : bits .and .i64 o.pm 1 = 0 := by rw [and1]; omega
            go_wp2_with (first | (go_at_call 14; with_reducible refine (watch_any _ s o.at_ false (Hid.out HDB).duo.own.mem hat).mono ?_; rintro e w1 ⟨rfl, hst⟩; have HD1 := hidden (DB.code (Hid.out HDB) hst); clear o0 o1 o2 o3 olt; have o1 := DB.o1 (Hid.out HD1); have o2 := DB.o2 (Hid.out HD1); have olt := DB.lt (Hid.out HD1); clear hst) | (go_at_call 15; with_reducible refine (M5.watchC (Hid.out HD1).duo.mem5 o.at_ false hat).mono ?_; rintro e w2 ⟨rfl, t1, hst, h1, h2, h3, h4⟩; have HD2 := hidden (DB.model (Hid.out HD1) hst); have HTT := hidden (And.intro h1 (And.intro h2 (And.intro h3 h4))); clear hst h1 h2 h3 h4))
            go_meet
            case rel => exact ⟨s.watchAt o.at_ false, t1, by rw [watchAt_mb], by rw [(Hid.out HTT).1], rfl, Hid.out HD2, ⟨by rw [(Hid.out HTT).2.2.2]; exact (Hid.out HPI).sim.watch o.at_ false, by rw [watchAt_most, (Hid.out HTT).2.1]; exact (Hid.out HPI).most, by rw [watchAt_ts, (Hid.out HTT).2.2.1]; exact (Hid.out HPI).ts, by rw [watchAt_c]; exact Nat.le_succ_of_le (Hid.out HPI).c⟩⟩
        · go_wp2_with (first | (go_at_call 17; with_reducible refine (told_any _ s (Hid.out HDB).duo.own.mem).mono ?_; rintro e w1 ⟨rfl, hst, hrow, hnf⟩; have HD1 := hidden (DB.code (Hid.out HDB) hst); have HRW := hidden (wds_of_row hrow); have HOW := hidden hrow; have HNF := hidden hnf; clear hst hrow hnf) | (go_at_call 18; with_reducible refine (M5.takeC (Hid.out HD1).duo.mem5).mono ?_; rintro e w2 ⟨rfl, hst, hrow⟩; have HD2 := hidden (DB.model (Hid.out HD1) hst); have HC16 := hidden (take_same (Hid.out HPI) (Hid.out HDB).duo.apart (Hid.out HOW) hst hrow htt); clear hst hrow) | (go_at_call 16; with_reducible refine (Hid.out HC16).mono ?_; rintro e w3 ⟨rfl, n3, hn3⟩; have HN3 := hidden hn3; clear hn3))
          go_meet
          case rel => exact ⟨s.told, { t with ts := [], vT := .slice none 0 0 }, rfl, rfl, rfl, by rw [Hid.out HN3]; exact (Hid.out HD2).later (below_drewN (Below.refl _ _) n3), ⟨⟨(Hid.out HPI).sim.rise, (Hid.out HPI).sim.here, (Hid.out HPI).sim.back, (Hid.out HPI).sim.len⟩, (Hid.out HPI).most, rfl, Nat.le_succ_of_le (Hid.out HPI).c⟩⟩
        · go_wp2_with (first | (go_at_call 19; with_reducible refine (copyMem_any _ s (Hid.out HDB).duo.own.mem).mono ?_; rintro e w1 ⟨c, rfl, hown, hcp⟩; have HCP := hidden hcp; have HC1 := hidden (cc_start (Hid.out HDB) hown); obtain ⟨ta, tc, htv⟩ := tv_none (Own.mem hown) (CopyOf.ts hcp); have HTV := hidden htv; clear hown hcp htv) | (go_at_call 20; first | (with_reducible refine (Hid.out (cc_same (Hid.out HC1) (Hid.out HCP))).mono ?_; rintro e w2 ⟨rfl, hb2⟩; have HC2 := hidden (CC.later (Hid.out HC1) hb2); clear hb2) | (with_reducible refine (Hid.out (cc_same2 (Hid.out HC2) (Hid.out HCP))).mono ?_; rintro e w3 ⟨rfl, hb3⟩; have HC3 := hidden (CC.later (Hid.out HC2) hb3); clear hb3)) | (go_at_call 17; with_reducible refine (Hid.out (cc_told (Hid.out HC3) (Hid.out HTV))).mono ?_; rintro e w4 ⟨rfl, hst⟩; have HC4 := hidden (CC.told (Hid.out HC3) hst); clear hst; clear o0 o1 o2 o3 olt; have o2 := DB.o2 (CC.db (Hid.out HC4)); have o3 := DB.o3 (CC.db (Hid.out HC4)); have olt := DB.lt (CC.db (Hid.out HC4))) | (go_at_call 21; with_reducible refine (Hid.out (cc_poke (Hid.out HC4) o.v hat hcc)).mono ?_; rintro e w5 ⟨pb, tv, rfl, hst⟩; have HST5 := hidden hst; have HD5 := hidden (DB.code (CC.db (Hid.out HC4)) hst); clear hst) | (go_at_call 22; with_reducible refine (M5.copyC (Hid.out HD5).duo.mem5).mono ?_; rintro e w6 ⟨t2, rfl, hm2, hb6, hf6, h1, h2, h3⟩; have HD6 := hidden (CC.end (Hid.out HC4) (Hid.out HST5) hb6 hm2 hf6); have HT2 := hidden (And.intro h1 (And.intro h2 h3)); clear hm2 hb6 hf6 h1 h2 h3))
          go_meet
          case rel => exact ⟨c.told, t2, rfl, rfl, rfl, Hid.out HD6, ⟨by rw [(Hid.out HT2).1]; exact told_sim ((Hid.out HPI).sim.copy (Hid.out HCP)), by rw [(Hid.out HT2).2.1]; exact (Hid.out HCP).most.trans (Hid.out HPI).most, (Hid.out HT2).2.2.symm, by show c.c ≤ k + 1; rw [(Hid.out HCP).c]; exact Nat.le_succ_of_le (Hid.out HPI).c⟩⟩
        · go_wp2
          refine wp_region_pair 12 [36, 37, 38, 39, 40, 41, 42, 43, 44, 45, 46, 47] 5 11 (by decide) (by decide) (by decide) (fun u x y => DB w u x y ob #[.int .i64 o.kd, .int .i64 o.pm, .int .u32 (o.at_ : Int), .int .u8 (o.v.toNat : Int)]) s t (phiPk s.mb t.m ob o) (fun x v => v = .bool (decide (pageOf o.at_ ∈ s.ks)) ∧ ∃ tv, x = s.pokeAt o.at_ o.v tv) (fun y v => v = .bool (decide (find5 t.l (o.at_ / 256 * 256) < t.l.length)) ∧ y.m = t.m ∧ y.most = t.most ∧ y.l = poke5 t.l o.at_ o.v ∧ y.ts = touch5 t.l t.ts o.at_) (by kernel_rfl) (by kernel_rfl) rfl ((Hid.out HDB).later ((Below.refl _ _).drew)) ?_ ?_ ?_ ?_
          · intro j hj hjp hjq xs w3 x y hxs hI hpre
            obtain ⟨x0, x1, x2, x3, x4, x5, x6, x7, x8, x9, x10, x11, rfl⟩ := listP12 xs hxs
            rcases (show j = 0 ∨ j = 1 ∨ j = 2 ∨ j = 3 ∨ j = 4 ∨ j = 5 ∨ j = 6 ∨ j = 7 ∨ j = 8 ∨ j = 9 ∨ j = 10 ∨ j = 11 by omega) with rfl | rfl | rfl | rfl | rfl | rfl | rfl | rfl | rfl | rfl | rfl | rfl
            · exact wpOp_run (.pointer (some ⟨s.mb, 0, none⟩)) rfl (by kernel_rfl) (exec_move rfl (by kernel_rfl) w3) ⟨_, by kernel_rfl, rfl, hI⟩
            · exact wpOp_run (.pointer (some ⟨ob, 2, none⟩)) rfl (by kernel_rfl) (by kernel_rfl) ⟨_, by kernel_rfl, rfl, hI⟩
            · have e1 : x1 = .pointer (some ⟨ob, 2, none⟩) := hpre 1 (by kernel_rfl) (by decide) (by decide)
              subst e1
              exact wpOp_run (.int .u32 (o.at_ : Int)) rfl (by kernel_rfl) (exec_load 27 rfl (by kernel_rfl) w3 (load27 hI.o2)) ⟨_, by kernel_rfl, rfl, hI⟩
            · exact wpOp_run (.pointer (some ⟨ob, 3, none⟩)) rfl (by kernel_rfl) (by kernel_rfl) ⟨_, by kernel_rfl, rfl, hI⟩
            · have e3 : x3 = .pointer (some ⟨ob, 3, none⟩) := hpre 3 (by kernel_rfl) (by decide) (by decide)
              subst e3
              exact wpOp_run (.int .u8 (o.v.toNat : Int)) rfl (by kernel_rfl) (exec_load 5 rfl (by kernel_rfl) w3 (load5 hI.o3)) ⟨_, by kernel_rfl, rfl, hI⟩
            · exact absurd rfl hjp
            · exact wpOp_run (.pointer (some ⟨t.m, 0, none⟩)) rfl (by kernel_rfl) (exec_move rfl (by kernel_rfl) w3) ⟨_, by kernel_rfl, rfl, hI⟩
            · exact wpOp_run (.pointer (some ⟨ob, 2, none⟩)) rfl (by kernel_rfl) (by kernel_rfl) ⟨_, by kernel_rfl, rfl, hI⟩
            · have e7 : x7 = .pointer (some ⟨ob, 2, none⟩) := hpre 7 (by kernel_rfl) (by decide) (by decide)
              subst e7
              exact wpOp_run (.int .u32 (o.at_ : Int)) rfl (by kernel_rfl) (exec_load 27 rfl (by kernel_rfl) w3 (load27 hI.o2)) ⟨_, by kernel_rfl, rfl, hI⟩
            · exact wpOp_run (.pointer (some ⟨ob, 3, none⟩)) rfl (by kernel_rfl) (by kernel_rfl) ⟨_, by kernel_rfl, rfl, hI⟩
            · have e9 : x9 = .pointer (some ⟨ob, 3, none⟩) := hpre 9 (by kernel_rfl) (by decide) (by decide)
              subst e9
              exact wpOp_run (.int .u8 (o.v.toNat : Int)) rfl (by kernel_rfl) (exec_load 5 rfl (by kernel_rfl) w3 (load5 hI.o3)) ⟨_, by kernel_rfl, rfl, hI⟩
            · exact absurd rfl hjq
          · intro xs w3 y hxs hI hpre
            obtain ⟨x0, x1, x2, x3, x4, x5, x6, x7, x8, x9, x10, x11, rfl⟩ := listP12 xs hxs
            have e0 : x0 = .pointer (some ⟨s.mb, 0, none⟩) := hpre 0 (by kernel_rfl) (by decide) (by decide)
            subst e0
            have e2 : x2 = .int .u32 (o.at_ : Int) := hpre 2 (by kernel_rfl) (by decide) (by decide)
            subst e2
            have e4 : x4 = .int .u8 (o.v.toNat : Int) := hpre 4 (by kernel_rfl) (by decide) (by decide)
            subst e4
            refine wpOp_callR (R := fun u w4 => u = .bool (decide (pageOf o.at_ ∈ s.ks)) ∧ ∃ tv, Step w3 s w4 (s.pokeAt o.at_ o.v tv)) 21 #[.pointer (some ⟨s.mb, 0, none⟩), .int .u32 (o.at_ : Int), .int .u8 (o.v.toNat : Int)] rfl (by kernel_rfl) (by kernel_rfl) ((poke_any w3 s o.at_ o.v hI.duo.own.mem hat hcc).mono fun e w4 ⟨he, tv, hst⟩ => ⟨_, he, rfl, tv, hst⟩) ?_
            rintro _ w4 ⟨rfl, tv, hst⟩
            exact ⟨_, by kernel_rfl, _, ⟨rfl, tv, rfl⟩, hI.code hst⟩
          · intro xs w3 x hxs hI hpre
            obtain ⟨x0, x1, x2, x3, x4, x5, x6, x7, x8, x9, x10, x11, rfl⟩ := listP12 xs hxs
            have e6 : x6 = .pointer (some ⟨t.m, 0, none⟩) := hpre 6 (by kernel_rfl) (by decide) (by decide)
            subst e6
            have e8 : x8 = .int .u32 (o.at_ : Int) := hpre 8 (by kernel_rfl) (by decide) (by decide)
            subst e8
            have e10 : x10 = .int .u8 (o.v.toNat : Int) := hpre 10 (by kernel_rfl) (by decide) (by decide)
            subst e10
            refine wpOp_callR (R := fun u w4 => u = .bool (decide (find5 t.l (o.at_ / 256 * 256) < t.l.length)) ∧ ∃ t1, Step5 w3 t w4 t1 ∧ t1.m = t.m ∧ t1.most = t.most ∧ t1.l = poke5 t.l o.at_ o.v ∧ t1.ts = touch5 t.l t.ts o.at_) 23 #[.pointer (some ⟨t.m, 0, none⟩), .int .u32 (o.at_ : Int), .int .u8 (o.v.toNat : Int)] rfl (by kernel_rfl) (by kernel_rfl) ((poke5_any w3 t hI.duo.mem5 o.at_ o.v hat htt).mono fun e w4 ⟨he, t1, hst, h1, h2, h3, h4⟩ => ⟨_, he, rfl, t1, hst, h1, h2, h3, h4⟩) ?_
            rintro _ w4 ⟨rfl, t1, hst, h1, h2, h3, h4⟩
            exact ⟨_, by kernel_rfl, t1, ⟨rfl, h1, h2, h3, h4⟩, hI.model hst⟩
          · intro xs w3 x y hxs hI hPa hPb hall
            obtain ⟨x0, x1, x2, x3, x4, x5, x6, x7, x8, x9, x10, x11, rfl⟩ := listP12 xs hxs
            obtain ⟨e5, tv, rfl⟩ : x5 = .bool (decide (pageOf o.at_ ∈ s.ks)) ∧ ∃ tv, x = s.pokeAt o.at_ o.v tv := hPa
            obtain ⟨e11, h1, h2, h3, h4⟩ : x11 = .bool (decide (find5 t.l (o.at_ / 256 * 256) < t.l.length)) ∧ y.m = t.m ∧ y.most = t.most ∧ y.l = poke5 t.l o.at_ o.v ∧ y.ts = touch5 t.l t.ts o.at_ := hPb
            rw [(Hid.out HPI).sim.mapped] at e11
            generalize decide (pageOf o.at_ ∈ s.ks) = bb at e5 e11
            subst e5 e11
            have HDX := hidden hI
            have HPX : Hid (PI (s.pokeAt o.at_ o.v tv) y (k + 1)) := ⟨by rw [h3]; exact (Hid.out HPI).sim.poke o.at_ o.v tv, by rw [pokeAt_most, h2]; exact (Hid.out HPI).most, by rw [h4, (Hid.out HPI).sim.touch, (Hid.out HPI).ts], Nat.le_trans (pokeAt_c s o.at_ o.v tv) (Nat.succ_le_succ (Hid.out HPI).c)⟩
            have HMB := hidden (pokeAt_mb s o.at_ o.v tv)
            have HM5 := hidden h1
            generalize s.pokeAt o.at_ o.v tv = s1 at HDX HPX HMB
            clear hall hI hxs h1 h2 h3 h4
            simp only [slotsOn, putAll, List.set_cons_succ, List.set_cons_zero, List.drop_succ_cons, List.drop_zero]
            go_wp2
            go_meet
            case rel => exact ⟨s1, y, by rw [Hid.out HMB], by rw [Hid.out HM5], by first | rfl | simp, Hid.out HDX, Hid.out HPX⟩
      case rest =>
        obtain ⟨s', t', rfl, rfl, rfl, hd4, hpi4⟩ := hcut
        have HD4 := hidden hd4
        have HPI := hidden hpi4
        have HBK := hidden hd4.blk
        have hsm := hpi4.sim
        have HQ24 : Hid (∀ u, Below wc.heap.size wc u → Calls Try.prog 24 #[.pointer (some ⟨s'.mb, 0, none⟩), .int .u32 (o.at_ : Int)] u fun e w' => e = .returned (.bool (decide (pageOf o.at_ ∈ s'.ks))) ∧ Below u.heap.size u w') := fun u hb => (mapped_any u s' o.at_ (hd4.duo.own.mem.later hb) hat).mono fun e w' ⟨he, n, hn⟩ => ⟨he, by rw [hn]; exact below_drewN (Below.refl _ _) _⟩
        have HQ25 : Hid (∀ u, Below wc.heap.size wc u → Calls Try.prog 25 #[.pointer (some ⟨t'.m, 0, none⟩), .int .u32 (o.at_ : Int)] u fun e w' => e = .returned (.bool (decide (pageOf o.at_ ∈ s'.ks))) ∧ Below u.heap.size u w') := fun u hb => ((hd4.duo.mem5.later hb).mappedC o.at_ hat).mono fun e w' ⟨he, hn⟩ => ⟨by rw [← hsm.mapped]; exact he, by rw [hn]; exact Below.refl _ _⟩
        have HQ26 : Hid (∀ u, Below wc.heap.size wc u → Calls Try.prog 26 #[.pointer (some ⟨s'.mb, 0, none⟩), .int .u32 (o.at_ : Int)] u fun e w' => e = .returned (.int .i64 (s'.perm o.at_)) ∧ Below u.heap.size u w') := fun u hb => (permOf_any u s' o.at_ (hd4.duo.own.mem.later hb) hat).mono fun e w' ⟨he, n, hn⟩ => ⟨he, by rw [hn]; exact below_drewN (Below.refl _ _) _⟩
        have HQ27 : Hid (∀ u, Below wc.heap.size wc u → Calls Try.prog 27 #[.pointer (some ⟨t'.m, 0, none⟩), .int .u32 (o.at_ : Int)] u fun e w' => e = .returned (.int .i64 (s'.perm o.at_)) ∧ Below u.heap.size u w') := fun u hb => ((hd4.duo.mem5.later hb).permC o.at_ hat).mono fun e w' ⟨he, hn⟩ => ⟨by rw [← hsm.perm]; exact he, by rw [hn]; exact Below.refl _ _⟩
        have HQ28 : Hid (∀ u, Below wc.heap.size wc u → Calls Try.prog 28 #[.pointer (some ⟨s'.mb, 0, none⟩), .int .u32 (o.at_ : Int)] u fun e w' => e = .returned (.int .u8 ((s'.get o.at_).toNat : Int)) ∧ Below u.heap.size u w') := fun u hb => (peek_any u s' o.at_ (hd4.duo.own.mem.later hb) hat).mono fun e w' ⟨he, n, hn⟩ => ⟨he, by rw [hn]; exact below_drewN (Below.refl _ _) _⟩
        have HQ29 : Hid (∀ u, Below wc.heap.size wc u → Calls Try.prog 29 #[.pointer (some ⟨t'.m, 0, none⟩), .int .u32 (o.at_ : Int)] u fun e w' => e = .returned (.int .u8 ((s'.get o.at_).toNat : Int)) ∧ Below u.heap.size u w') := fun u hb => ((hd4.duo.mem5.later hb).peekC o.at_ hat).mono fun e w' ⟨he, hn⟩ => ⟨by rw [← hsm.peek]; exact he, by rw [hn]; exact Below.refl _ _⟩
        have HQ30 : Hid (∀ u, Below wc.heap.size wc u → Calls Try.prog 30 #[.pointer (some ⟨s'.mb, 0, none⟩), .int .u32 (o.at_ : Int)] u fun e w' => e = .returned (.int .u32 (preW s' o.at_ 4 : Int)) ∧ Below u.heap.size u w') := fun u hb => (word_any u s' o.at_ (hd4.duo.own.mem.later hb) hat).mono fun e w' ⟨he, n, hn⟩ => ⟨he, by rw [hn]; exact below_drewN (Below.refl _ _) _⟩
        have HQ31 : Hid (∀ u, Below wc.heap.size wc u → Calls Try.prog 31 #[.pointer (some ⟨t'.m, 0, none⟩), .int .u32 (o.at_ : Int)] u fun e w' => e = .returned (.int .u32 (preW s' o.at_ 4 : Int)) ∧ Below u.heap.size u w') := fun u hb => ((hd4.duo.mem5.later hb).wordC o.at_ hat).mono fun e w' ⟨he, hn⟩ => ⟨by rw [← hsm.word o.at_ hat]; exact he, by rw [hn]; exact Below.refl _ _⟩
        have HQ32 : Hid (∀ u, Below wc.heap.size wc u → Calls Try.prog 32 #[.pointer (some ⟨s'.mb, 0, none⟩), .int .u32 (o.at_ : Int)] u fun e w' => e = .returned (.bool (s'.watched o.at_)) ∧ Below u.heap.size u w') := fun u hb => (watched_any u s' o.at_ (hd4.duo.own.mem.later hb) hat).mono fun e w' ⟨he, n, hn⟩ => ⟨he, by rw [hn]; exact below_drewN (Below.refl _ _) _⟩
        have HQ33 : Hid (∀ u, Below wc.heap.size wc u → Calls Try.prog 33 #[.pointer (some ⟨t'.m, 0, none⟩), .int .u32 (o.at_ : Int)] u fun e w' => e = .returned (.bool (s'.watched o.at_)) ∧ Below u.heap.size u w') := fun u hb => ((hd4.duo.mem5.later hb).watchedC o.at_ hat).mono fun e w' ⟨he, hn⟩ => ⟨by rw [← hsm.watched]; exact he, by rw [hn]; exact Below.refl _ _⟩
        generalize decide (pageOf o.at_ ∈ s'.ks) = md at HQ24 HQ25
        generalize s'.perm o.at_ = pmv at HQ26 HQ27
        generalize ((s'.get o.at_).toNat : Int) = pkv at HQ28 HQ29
        generalize (preW s' o.at_ 4 : Int) = wdv at HQ30 HQ31
        generalize s'.watched o.at_ = wav at HQ32 HQ33
        clear hd4 hpi4 hsm htl htt hcc HPERM HDB o0 o1 o2 o3 olt
        go_wp2
        refine region26 wc s' t' ob o md wav pmv pkv wdv HBK HQ24 HQ25 HQ26 HQ27 HQ28 HQ29 HQ30 HQ31 HQ32 HQ33 ?_
        intro xs w3 hxs hR hall
        obtain ⟨x0, x1, x2, x3, x4, x5, x6, x7, x8, x9, x10, x11, x12, x13, x14, x15, x16, x17, x18, x19, x20, x21, x22, x23, x24, x25, x26, x27, x28, x29, x30, x31, x32, x33, x34, x35, x36, x37, x38, x39, x40, x41, x42, x43, x44, x45, x46, x47, x48, x49, x50, x51, x52, x53, x54, x55, x56, rfl⟩ := listE57 xs hxs
        have e56 : x56 = .bool false := hall 56 (by omega)
        subst e56
        have HD5 := hidden ((Hid.out HD4).later hR)
        clear hall hR hxs
        simp only [slotsOn, putAll, List.set_cons_succ, List.set_cons_zero]
        go_wp2
        obtain ⟨wd, hwd⟩ : ∃ wd, wd = w3 := ⟨_, rfl⟩
        rw [← hwd] at HD5 ⊢
        clear hwd HQ24 HQ25 HQ26 HQ27 HQ28 HQ29 HQ30 HQ31 HQ32 HQ33
        have HB1 : Hid (∀ u, Below wd.heap.size wd u → Calls Try.prog 34 #[.pointer (some ⟨s'.mb, 0, none⟩), .int .u32 (o.at_ : Int), .int .i64 (N : Int)] u fun e w' => ∃ a c, e = .returned (.slice a (s'.span o.at_ N).length c) ∧ Row w' a (s'.span o.at_ N) c ∧ Below u.heap.size u w') := fun u hb => by
          have := mbytes_any u s' o.at_ (N : Int) ((Hid.out HD5).duo.own.mem.later hb) hat
          rw [cut_nat N hN2] at this
          exact this.mono fun e w' ⟨ao, he, hr, hb'⟩ => ⟨ao, N, he, hr, hb'⟩
        have HB2 : Hid (∀ u, Below wd.heap.size wd u → Calls Try.prog 35 #[.pointer (some ⟨t'.m, 0, none⟩), .int .u32 (o.at_ : Int), .int .i64 (N : Int)] u fun e w' => ∃ a c, e = .returned (.slice a (s'.span o.at_ N).length c) ∧ Row w' a (s'.span o.at_ N) c ∧ Below u.heap.size u w') := fun u hb => (((Hid.out HD5).duo.mem5.later hb).bytesC o.at_ N hat (by omega)).mono fun e w' ⟨v, he, ho, hb'⟩ => by
          rw [(Hid.out HPI).sim.bytes] at ho
          obtain ⟨a, c, rfl, hr⟩ := row_of_own rfl ho
          exact ⟨a, c, he, hr, hb'⟩
        generalize s'.span o.at_ N = d at HB1 HB2
        refine region28 w wd s' t' ob N o n d hN HD5 HB1 HB2 ?_
        intro xs w3 hxs hR hall
        obtain ⟨x0, x1, x2, x3, x4, x5, x6, x7, x8, x9, x10, x11, x12, x13, x14, rfl⟩ := listF15 xs hxs
        have e14 : x14 = .bool false := hall 14 (by omega)
        subst e14
        have HD6 := hidden ((Hid.out HD5).later hR)
        clear hall hR hxs
        simp only [slotsOn, putAll, List.set_cons_succ, List.set_cons_zero]
        go_wp2
        go_roundw
        case rel => exact inv3 (k + 1) s' t' (by omega) (by omega) (by simp) (Hid.out HD6).duo (Hid.out HPI)
        case measure => simp [intOf]; omega
    · have HB9 := hidden hbw
      have hts := hpi.few (w := w) hduo.own.mem
      have HSM := hidden (sameMem_any wr s t hduo.own.mem hduo.mem5 hpi.sim)
      have htt : t.ts.length < 1000000 := by omega
      clear hduo hpi hbw hts
      by_cases hkl : k < L.length
      · have i1 : (k : Int) < (L.length : Int) := by omega
        have i2 : ¬ (k : Int) < 60 := by omega
        go_wp2_with (first | (go_at_call 36; with_reducible refine (Hid.out HSM).mono ?_; rintro e w1 ⟨rfl, hb1⟩; have HD1 := hidden (Duo.later (Hid.out HDU) hb1); clear hb1) | (go_at_call 17; with_reducible refine (told_any _ s (Hid.out HD1).own.mem).mono ?_; rintro e w2 ⟨rfl, hst, hrow, hnf⟩; have HD2 := hidden (Duo.code (Hid.out HD1) hst); have HOW := hidden hrow; clear hst hrow hnf) | (go_at_call 18; with_reducible refine (M5.takeC (Hid.out HD2).mem5).mono ?_; rintro e w3 ⟨rfl, hst, hrow⟩; have HD3 := hidden (Duo.model (Hid.out HD2) hst); have HC16 := hidden (take_same (Hid.out HPI) (Hid.out HDU).apart (Hid.out HOW) hst hrow htt); clear hst hrow) | (go_at_call 16; with_reducible refine (Hid.out HC16).mono ?_; rintro e w4 ⟨rfl, n4, hn4⟩; have HB4 := hidden (drew_below (Own.below (Duo.own (Hid.out HD3))) hn4); clear hn4) | (go_at_call 37; with_reducible refine (Hid.out HAW w4).mono ?_; rintro e w5 ⟨rfl, hb5⟩; have HB5 := hidden (bthen (Hid.out HB4) hb5); clear hb5))
        go_ret
        exact ⟨rfl, Hid.out HB5⟩
      · have i1 : ¬ (k : Int) < (L.length : Int) := by omega
        go_wp2_with (first | (go_at_call 36; with_reducible refine (Hid.out HSM).mono ?_; rintro e w1 ⟨rfl, hb1⟩; have HD1 := hidden (Duo.later (Hid.out HDU) hb1); clear hb1) | (go_at_call 17; with_reducible refine (told_any _ s (Hid.out HD1).own.mem).mono ?_; rintro e w2 ⟨rfl, hst, hrow, hnf⟩; have HD2 := hidden (Duo.code (Hid.out HD1) hst); have HOW := hidden hrow; clear hst hrow hnf) | (go_at_call 18; with_reducible refine (M5.takeC (Hid.out HD2).mem5).mono ?_; rintro e w3 ⟨rfl, hst, hrow⟩; have HD3 := hidden (Duo.model (Hid.out HD2) hst); have HC16 := hidden (take_same (Hid.out HPI) (Hid.out HDU).apart (Hid.out HOW) hst hrow htt); clear hst hrow) | (go_at_call 16; with_reducible refine (Hid.out HC16).mono ?_; rintro e w4 ⟨rfl, n4, hn4⟩; have HB4 := hidden (drew_below (Own.below (Duo.own (Hid.out HD3))) hn4); clear hn4) | (go_at_call 37; with_reducible refine (Hid.out HAW w4).mono ?_; rintro e w5 ⟨rfl, hb5⟩; have HB5 := hidden (bthen (Hid.out HB4) hb5); clear hb5))
        go_ret
        exact ⟨rfl, Hid.out HB5⟩
end Go.Proofs.Ytfbmkgdpejgjpaa

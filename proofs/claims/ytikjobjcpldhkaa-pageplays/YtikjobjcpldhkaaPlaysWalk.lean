/- PagePlays, walked. -/
import Derived.Test.YtikjobjcpldhkaaPlays
import Derived.Outline
namespace Go.Proofs.Ytikjobjcpldhkaa
open Go.ChangeShapes Go.WideShapes Go.ChangeAt Go.RowKit
set_option linter.unusedVariables false
/-- What the slots of the region hold, whatever the order. -/
def phiLook (pb pr po : Nat) (pm : List UInt8) (pq pc : Int) (px : Op4) : Nat → Value → World → Prop
  | 0, x, _ => x = .pointer (some ⟨pb, 0, none⟩)
  | 1, x, _ => x = .pointer (some ⟨po, 1, none⟩)
  | 2, x, _ => x = .int .i64 px.at_
  | 3, x, _ => x = .int .u8 ((getB pm px.at_).toNat : Int)
  | 4, x, _ => x = .pointer (some ⟨pr, 0, none⟩)
  | 5, x, _ => x = .pointer (some ⟨po, 1, none⟩)
  | 6, x, _ => x = .int .i64 px.at_
  | 7, x, _ => x = .int .u8 ((getB pm px.at_).toNat : Int)
  | 8, x, _ => x = .bool false
  | 9, x, _ => x = .bool false
  | 10, x, _ => x = .pointer (some ⟨pb, 0, none⟩)
  | 11, x, _ => x = .int .i64 pq
  | 12, x, _ => x = .pointer (some ⟨pr, 0, none⟩)
  | 13, x, _ => x = .pointer (some ⟨pr, 0, none⟩)
  | 14, x, _ => x = .pointer (some ⟨pr, 256, none⟩)
  | 15, x, _ => x = .int .i64 pq
  | 16, x, _ => x = .bool false
  | 17, x, _ => x = .bool false
  | 18, x, _ => x = .bool false
  | 19, x, _ => x = .pointer (some ⟨pb, 0, none⟩)
  | 20, x, _ => x = .int .i64 pc
  | 21, x, _ => x = .pointer (some ⟨pr, 0, none⟩)
  | 22, x, _ => x = .pointer (some ⟨pr, 0, none⟩)
  | 23, x, _ => x = .pointer (some ⟨pr, 257, none⟩)
  | 24, x, _ => x = .int .i64 pc
  | 25, x, _ => x = .bool false
  | 26, x, _ => x = .bool false
  | 27, x, _ => x = .bool false
  | 28, x, _ => x = .pointer (some ⟨pb, 0, none⟩)
  | 29, x, _ => x = .pointer (some ⟨po, 1, none⟩)
  | 30, x, _ => x = .int .i64 px.at_
  | 31, x, _ => x = .pointer (some ⟨po, 2, none⟩)
  | 32, x, _ => x = .int .i64 px.n
  | 33, x, w => ∃ a cap, x = .slice a (partB pm px.at_ px.n).length cap ∧ Row w a (partB pm px.at_ px.n) cap
  | 34, x, _ => x = .string ⟨(partB pm px.at_ px.n).toArray⟩
  | 35, x, _ => x = .pointer (some ⟨pr, 0, none⟩)
  | 36, x, _ => x = .pointer (some ⟨po, 1, none⟩)
  | 37, x, _ => x = .int .i64 px.at_
  | 38, x, _ => x = .pointer (some ⟨po, 2, none⟩)
  | 39, x, _ => x = .int .i64 px.n
  | 40, x, w => ∃ a cap, x = .slice a (partB pm px.at_ px.n).length cap ∧ Row w a (partB pm px.at_ px.n) cap
  | 41, x, _ => x = .string ⟨(partB pm px.at_ px.n).toArray⟩
  | 42, x, _ => x = .bool false
  | 43, x, _ => x = .bool false
  | _ + 44, _, _ => True
theorem phiLook_mono (pb pr po : Nat) (pm : List UInt8) (pq pc : Int) (px : Op4) : ∀ i x w w', phiLook pb pr po pm pq pc px i x w → Below w.heap.size w w' → phiLook pb pr po pm pq pc px i x w'
  | 0, _, _, _, h, _ => h
  | 1, _, _, _, h, _ => h
  | 2, _, _, _, h, _ => h
  | 3, _, _, _, h, _ => h
  | 4, _, _, _, h, _ => h
  | 5, _, _, _, h, _ => h
  | 6, _, _, _, h, _ => h
  | 7, _, _, _, h, _ => h
  | 8, _, _, _, h, _ => h
  | 9, _, _, _, h, _ => h
  | 10, _, _, _, h, _ => h
  | 11, _, _, _, h, _ => h
  | 12, _, _, _, h, _ => h
  | 13, _, _, _, h, _ => h
  | 14, _, _, _, h, _ => h
  | 15, _, _, _, h, _ => h
  | 16, _, _, _, h, _ => h
  | 17, _, _, _, h, _ => h
  | 18, _, _, _, h, _ => h
  | 19, _, _, _, h, _ => h
  | 20, _, _, _, h, _ => h
  | 21, _, _, _, h, _ => h
  | 22, _, _, _, h, _ => h
  | 23, _, _, _, h, _ => h
  | 24, _, _, _, h, _ => h
  | 25, _, _, _, h, _ => h
  | 26, _, _, _, h, _ => h
  | 27, _, _, _, h, _ => h
  | 28, _, _, _, h, _ => h
  | 29, _, _, _, h, _ => h
  | 30, _, _, _, h, _ => h
  | 31, _, _, _, h, _ => h
  | 32, _, _, _, h, _ => h
  | 33, x, w, w', h, hb => by obtain ⟨a, cap, e, hr⟩ := h; exact ⟨a, cap, e, hr.later hb⟩
  | 34, _, _, _, h, _ => h
  | 35, _, _, _, h, _ => h
  | 36, _, _, _, h, _ => h
  | 37, _, _, _, h, _ => h
  | 38, _, _, _, h, _ => h
  | 39, _, _, _, h, _ => h
  | 40, x, w, w', h, hb => by obtain ⟨a, cap, e, hr⟩ := h; exact ⟨a, cap, e, hr.later hb⟩
  | 41, _, _, _, h, _ => h
  | 42, _, _, _, h, _ => h
  | 43, _, _, _, h, _ => h
  | _ + 44, _, _, _, _, _ => trivial
/-- What the slots of the region hold, whatever the order. -/
def phiEnd (pb pr : Nat) (pm : List UInt8) : Nat → Value → World → Prop
  | 0, x, _ => x = .pointer (some ⟨pb, 0, none⟩)
  | 1, x, w => ∃ a cap, x = .slice a (partB pm 0 256).length cap ∧ Row w a (partB pm 0 256) cap
  | 2, x, _ => x = .string ⟨(partB pm 0 256).toArray⟩
  | 3, x, _ => x = .pointer (some ⟨pr, 0, none⟩)
  | 4, x, w => ∃ a cap, x = .slice a (partB pm 0 256).length cap ∧ Row w a (partB pm 0 256) cap
  | 5, x, _ => x = .string ⟨(partB pm 0 256).toArray⟩
  | 6, x, _ => x = .bool true
  | 7, x, _ => x = .bool true
  | 8, x, _ => x = .bool true
  | 9, x, _ => x = .bool true
  | 10, x, _ => x = .bool true
  | _ + 11, _, _ => True
theorem phiEnd_mono (pb pr : Nat) (pm : List UInt8) : ∀ i x w w', phiEnd pb pr pm i x w → Below w.heap.size w w' → phiEnd pb pr pm i x w'
  | 0, _, _, _, h, _ => h
  | 1, x, w, w', h, hb => by obtain ⟨a, cap, e, hr⟩ := h; exact ⟨a, cap, e, hr.later hb⟩
  | 2, _, _, _, h, _ => h
  | 3, _, _, _, h, _ => h
  | 4, x, w, w', h, hb => by obtain ⟨a, cap, e, hr⟩ := h; exact ⟨a, cap, e, hr.later hb⟩
  | 5, _, _, _, h, _ => h
  | 6, _, _, _, h, _ => h
  | 7, _, _, _, h, _ => h
  | 8, _, _, _, h, _ => h
  | 9, _, _, _, h, _ => h
  | 10, _, _, _, h, _ => h
  | _ + 11, _, _, _, _, _ => trivial
theorem list44 (xs : List Value) (h : xs.length = 44) : ∃ x0 x1 x2 x3 x4 x5 x6 x7 x8 x9 x10 x11 x12 x13 x14 x15 x16 x17 x18 x19 x20 x21 x22 x23 x24 x25 x26 x27 x28 x29 x30 x31 x32 x33 x34 x35 x36 x37 x38 x39 x40 x41 x42 x43, xs = [x0, x1, x2, x3, x4, x5, x6, x7, x8, x9, x10, x11, x12, x13, x14, x15, x16, x17, x18, x19, x20, x21, x22, x23, x24, x25, x26, x27, x28, x29, x30, x31, x32, x33, x34, x35, x36, x37, x38, x39, x40, x41, x42, x43] := by
  obtain ⟨x0, xs1, rfl, h1⟩ := cons_of_len (n := 43) xs h
  obtain ⟨x1, xs2, rfl, h2⟩ := cons_of_len (n := 42) xs1 h1
  obtain ⟨x2, xs3, rfl, h3⟩ := cons_of_len (n := 41) xs2 h2
  obtain ⟨x3, xs4, rfl, h4⟩ := cons_of_len (n := 40) xs3 h3
  obtain ⟨x4, xs5, rfl, h5⟩ := cons_of_len (n := 39) xs4 h4
  obtain ⟨x5, xs6, rfl, h6⟩ := cons_of_len (n := 38) xs5 h5
  obtain ⟨x6, xs7, rfl, h7⟩ := cons_of_len (n := 37) xs6 h6
  obtain ⟨x7, xs8, rfl, h8⟩ := cons_of_len (n := 36) xs7 h7
  obtain ⟨x8, xs9, rfl, h9⟩ := cons_of_len (n := 35) xs8 h8
  obtain ⟨x9, xs10, rfl, h10⟩ := cons_of_len (n := 34) xs9 h9
  obtain ⟨x10, xs11, rfl, h11⟩ := cons_of_len (n := 33) xs10 h10
  obtain ⟨x11, xs12, rfl, h12⟩ := cons_of_len (n := 32) xs11 h11
  obtain ⟨x12, xs13, rfl, h13⟩ := cons_of_len (n := 31) xs12 h12
  obtain ⟨x13, xs14, rfl, h14⟩ := cons_of_len (n := 30) xs13 h13
  obtain ⟨x14, xs15, rfl, h15⟩ := cons_of_len (n := 29) xs14 h14
  obtain ⟨x15, xs16, rfl, h16⟩ := cons_of_len (n := 28) xs15 h15
  obtain ⟨x16, xs17, rfl, h17⟩ := cons_of_len (n := 27) xs16 h16
  obtain ⟨x17, xs18, rfl, h18⟩ := cons_of_len (n := 26) xs17 h17
  obtain ⟨x18, xs19, rfl, h19⟩ := cons_of_len (n := 25) xs18 h18
  obtain ⟨x19, xs20, rfl, h20⟩ := cons_of_len (n := 24) xs19 h19
  obtain ⟨x20, xs21, rfl, h21⟩ := cons_of_len (n := 23) xs20 h20
  obtain ⟨x21, xs22, rfl, h22⟩ := cons_of_len (n := 22) xs21 h21
  obtain ⟨x22, xs23, rfl, h23⟩ := cons_of_len (n := 21) xs22 h22
  obtain ⟨x23, xs24, rfl, h24⟩ := cons_of_len (n := 20) xs23 h23
  obtain ⟨x24, xs25, rfl, h25⟩ := cons_of_len (n := 19) xs24 h24
  obtain ⟨x25, xs26, rfl, h26⟩ := cons_of_len (n := 18) xs25 h25
  obtain ⟨x26, xs27, rfl, h27⟩ := cons_of_len (n := 17) xs26 h26
  obtain ⟨x27, xs28, rfl, h28⟩ := cons_of_len (n := 16) xs27 h27
  obtain ⟨x28, xs29, rfl, h29⟩ := cons_of_len (n := 15) xs28 h28
  obtain ⟨x29, xs30, rfl, h30⟩ := cons_of_len (n := 14) xs29 h29
  obtain ⟨x30, xs31, rfl, h31⟩ := cons_of_len (n := 13) xs30 h30
  obtain ⟨x31, xs32, rfl, h32⟩ := cons_of_len (n := 12) xs31 h31
  obtain ⟨x32, xs33, rfl, h33⟩ := cons_of_len (n := 11) xs32 h32
  obtain ⟨x33, xs34, rfl, h34⟩ := cons_of_len (n := 10) xs33 h33
  obtain ⟨x34, xs35, rfl, h35⟩ := cons_of_len (n := 9) xs34 h34
  obtain ⟨x35, xs36, rfl, h36⟩ := cons_of_len (n := 8) xs35 h35
  obtain ⟨x36, xs37, rfl, h37⟩ := cons_of_len (n := 7) xs36 h36
  obtain ⟨x37, xs38, rfl, h38⟩ := cons_of_len (n := 6) xs37 h37
  obtain ⟨x38, xs39, rfl, h39⟩ := cons_of_len (n := 5) xs38 h38
  obtain ⟨x39, xs40, rfl, h40⟩ := cons_of_len (n := 4) xs39 h39
  obtain ⟨x40, xs41, rfl, h41⟩ := cons_of_len (n := 3) xs40 h40
  obtain ⟨x41, xs42, rfl, h42⟩ := cons_of_len (n := 2) xs41 h41
  obtain ⟨x42, xs43, rfl, h43⟩ := cons_of_len (n := 1) xs42 h42
  obtain ⟨x43, xs44, rfl, h44⟩ := cons_of_len (n := 0) xs43 h43
  obtain rfl := List.eq_nil_of_length_eq_zero h44
  exact ⟨_, _, _, _, _, _, _, _, _, _, _, _, _, _, _, _, _, _, _, _, _, _, _, _, _, _, _, _, _, _, _, _, _, _, _, _, _, _, _, _, _, _, _, _, rfl⟩
set_option maxRecDepth 20000 in
set_option maxHeartbeats 16000000 in
theorem plays_walk (perm : Int) (ao : Option Addr) (len cap : Nat) (os : Nat → Op4) (w : World) (hz : Ops w ao os len) (hlc : len ≤ cap) (hcap : cap ≤ 9223372036854775807) :
    Calls Try.prog 3 #[.int .i64 perm, .slice ao len cap] w fun e w' => e = .returned (.bool true) ∧ Below w.heap.size w w' := by
  have HZ := hidden hz
  clear hz
  go_enter Try.func3, Try.ntmps3
  go_wp2_with (first | (go_at_call 6; refine (new_pg perm w).mono ?_; rintro e w1 ⟨rfl, hp1, hb1⟩; have HP1 := hidden hp1; have HB1 := hidden hb1; clear hp1 hb1) | (go_at_call 7; refine (refNew_pg perm w1).mono ?_; rintro e w2 ⟨rfl, hr2, hb2⟩; have HR2 := hidden hr2; have HP2 := hidden (Pg.later (Hid.out HP1) hb2); have HB2 := hidden (Below.trans (Hid.out HB1) (Below.mono hb2 (Hid.out HB1).size)); clear hr2 hb2))
  obtain ⟨r, hr, hrP⟩ : ∃ r, w1.heap.size = r ∧ Hid (w.heap.size < r) := ⟨_, rfl, (Hid.out HP1).lt⟩
  rw [hr] at HR2 ⊢
  clear hr
  go_loopw [5, 7] (fun p i wr => ∃ (k b : Nat) (m : List UInt8) (q c : Int), k ≤ len ∧ k ≤ 60 ∧ i = .int .i64 (k : Int) ∧ p = .pointer (some ⟨b, 0, none⟩) ∧ 0 ≤ c ∧ c ≤ (k : Int) ∧ Pg 51 wr b m q c ∧ Pg 33 wr r m q c ∧ b ≠ r ∧ w.heap.size ≤ b ∧ Below w.heap.size w wr) (fun _ i _ => len - (intOf i).toNat)
  case atStart => exact ⟨0, w.heap.size, zeros, perm % 8, 0, by omega, by omega, rfl, rfl, by omega, by omega, Hid.out HP2, Hid.out HR2, Nat.ne_of_lt (Hid.out hrP), Nat.le_refl _, Hid.out HB2⟩
  case round =>
    obtain ⟨k, b, m, q, c, hk, hk60, rfl, rfl, hc0, hck, hpg, hrg, hbr, hwb, hbel⟩ := hrel
    have HP := hidden hpg
    have HR := hidden hrg
    have HB := hidden hbel
    have HBR := hidden hbr
    have HWB := hidden hwb
    clear hpg hrg hbel hbr hwb HP1 HB1 HP2 HR2 HB2
    by_cases hkl : k < len
    · by_cases hks : k < 60
      · obtain ⟨sb, so, rfl, hs0, hs1, hs2, hs3⟩ : ∃ b off, ao = some ⟨b, off, none⟩ ∧ wr.cell? ⟨b, off + k * 4, none⟩ = some (.int .i64 (os k).kd) ∧ wr.cell? ⟨b, off + k * 4 + 1, none⟩ = some (.int .i64 (os k).at_) ∧ wr.cell? ⟨b, off + k * 4 + 2, none⟩ = some (.int .i64 (os k).n) ∧ wr.cell? ⟨b, off + k * 4 + 3, none⟩ = some (.int .u8 ((os k).v.toNat : Int)) := by
          rcases Hid.out HZ with h | ⟨b, off, e, hlt, h⟩
          · omega
          · have hj := h k hkl
            have hl : ∀ o, wr.cell? ⟨b, o, none⟩ = w.cell? ⟨b, o, none⟩ := fun o => (Hid.out HB).cell (p := ⟨b, o, none⟩) hlt
            exact ⟨b, off, e, (hl _).trans hj.1, (hl _).trans hj.2.1, (hl _).trans hj.2.2.1, (hl _).trans hj.2.2.2⟩
        generalize os k = o4 at hs0 hs1 hs2 hs3
        have H8 := fun W => hidden (place_any o4.kd 5 (by omega) (by omega) W)
        have hK0 := Int.emod_nonneg o4.kd (show (5 : Int) ≠ 0 by omega)
        have hK1 := Int.emod_lt_of_pos o4.kd (show (0 : Int) < 5 by omega)
        generalize o4.kd % 5 = K at H8 hK0 hK1
        have HP1 := hidden ((Hid.out HP).later ((Below.refl _ _).alloc (Nat.le_refl _) (.cells #[.int .i64 o4.kd, .int .i64 o4.at_, .int .i64 o4.n, .int .u8 (o4.v.toNat : Int)] 28)))
        have HR1 := hidden ((Hid.out HR).later ((Below.refl _ _).alloc (Nat.le_refl _) (.cells #[.int .i64 o4.kd, .int .i64 o4.at_, .int .i64 o4.n, .int .u8 (o4.v.toNat : Int)] 28)))
        have HB1 := hidden ((Hid.out HB).alloc (Hid.out HB).size (.cells #[.int .i64 o4.kd, .int .i64 o4.at_, .int .i64 o4.n, .int .u8 (o4.v.toNat : Int)] 28))
        have HO1 : Hid (Ob (wr.alloc (.cells #[.int .i64 o4.kd, .int .i64 o4.at_, .int .i64 o4.n, .int .u8 (o4.v.toNat : Int)] 28)) wr.heap.size o4) := ⟨heap_alloc_new wr _⟩
        have HBlt := hidden ((Hid.out HP).lt)
        have HRlt := hidden ((Hid.out HR).lt)
        have HOB := hidden (Nat.ne_of_gt (Hid.out HBlt))
        have HOR := hidden (Nat.ne_of_gt (Hid.out HRlt))
        have hcs : Hid (c < 9223372036854775807) := by show c < 9223372036854775807; omega
        rcases (show K = 3 ∨ K = 4 ∨ (¬ K = 3 ∧ ¬ K = 4) by omega) with rfl | rfl | ⟨hK3, hK4⟩
        · have ha := and7
          go_wp2_with (first | (go_at_call 8; refine (Hid.out (H8 _)).mono ?_; rintro e w0 ⟨rfl, hww⟩; rw [hww]; clear hww w0) | (go_at_call 9; refine (setPerm_pg _ b m q c o4.at_ (Hid.out HP1)).mono ?_; rintro e w2 ⟨rfl, hp2, ho2⟩; have HP2 := hidden hp2; have HR2 := hidden (Pg.only (Hid.out HR1) ho2 (Ne.symm (Hid.out HBR))); have HO2 := hidden (Ob.only (Hid.out HO1) ho2 (Hid.out HOB)); have HB2 := hidden (Below.trans (Hid.out HB1) (Only.below ho2 (Hid.out HWB))); have hcx := Ob.at1 (Hid.out HO2); have hcr := Pg.perm (Hid.out HR2); have hzr := Pg.thaw (Hid.out HR2) 256; clear hp2 ho2))
          generalize hw5 : w2.setCell ⟨r, 256, none⟩ _ = w5
          have hon : Only r w2 w5 := by rw [← hw5]; exact (Only.refl _ _).setCell _ _
          have HP5 := hidden ((Hid.out HP2).only hon (Hid.out HBR))
          have HR5 : Hid (Pg 33 w5 r m (o4.at_ % 8) c) := by rw [← hw5]; exact (Hid.out HR2).setPerm _
          have HO5 := hidden ((Hid.out HO2).only hon (Hid.out HOR))
          have HB5 := hidden ((Hid.out HB2).trans (hon.below (Nat.le_of_lt (Hid.out hrP))))
          have HBR5 := HBR
          have HWB5 := HWB
          clear hw5 hon hcx hcr hzr ha
          refine wp_region_on later_below [64, 65, 66, 67, 68, 69, 70, 71, 72, 73, 74, 75, 76, 77, 78, 79, 80, 81, 82, 83, 84, 85, 86, 87, 88, 89, 90, 91, 92, 93, 94, 95, 96, 97, 98, 99, 100, 101, 102, 103, 104, 105, 106, 107] 44 (phiLook b r wr.heap.size m (o4.at_ % 8) c o4) (by kernel_rfl) (by kernel_rfl) rfl rfl (phiLook_mono b r wr.heap.size m (o4.at_ % 8) c o4) ?_ ?_
          · intro j hj xs w3 hxs hR hpre
            obtain ⟨x0, x1, x2, x3, x4, x5, x6, x7, x8, x9, x10, x11, x12, x13, x14, x15, x16, x17, x18, x19, x20, x21, x22, x23, x24, x25, x26, x27, x28, x29, x30, x31, x32, x33, x34, x35, x36, x37, x38, x39, x40, x41, x42, x43, rfl⟩ := list44 xs hxs
            have hP : Pg 51 w3 b m (o4.at_ % 8) c := (Hid.out HP5).later hR
            have hQ : Pg 33 w3 r m (o4.at_ % 8) c := (Hid.out HR5).later hR
            have hO : Ob w3 wr.heap.size o4 := (Hid.out HO5).later hR
            rcases (show j = 0 ∨ j = 1 ∨ j = 2 ∨ j = 3 ∨ j = 4 ∨ j = 5 ∨ j = 6 ∨ j = 7 ∨ j = 8 ∨ j = 9 ∨ j = 10 ∨ j = 11 ∨ j = 12 ∨ j = 13 ∨ j = 14 ∨ j = 15 ∨ j = 16 ∨ j = 17 ∨ j = 18 ∨ j = 19 ∨ j = 20 ∨ j = 21 ∨ j = 22 ∨ j = 23 ∨ j = 24 ∨ j = 25 ∨ j = 26 ∨ j = 27 ∨ j = 28 ∨ j = 29 ∨ j = 30 ∨ j = 31 ∨ j = 32 ∨ j = 33 ∨ j = 34 ∨ j = 35 ∨ j = 36 ∨ j = 37 ∨ j = 38 ∨ j = 39 ∨ j = 40 ∨ j = 41 ∨ j = 42 ∨ j = 43 by omega) with rfl | rfl | rfl | rfl | rfl | rfl | rfl | rfl | rfl | rfl | rfl | rfl | rfl | rfl | rfl | rfl | rfl | rfl | rfl | rfl | rfl | rfl | rfl | rfl | rfl | rfl | rfl | rfl | rfl | rfl | rfl | rfl | rfl | rfl | rfl | rfl | rfl | rfl | rfl | rfl | rfl | rfl | rfl | rfl
            · exact wpOp_run (.pointer (some ⟨b, 0, none⟩)) rfl (by kernel_rfl) (exec_move rfl (by kernel_rfl) w3) ⟨_, by kernel_rfl, rfl, Below.refl _ _⟩
            · exact wpOp_run (.pointer (some ⟨wr.heap.size, 1, none⟩)) rfl (by kernel_rfl) (by kernel_rfl) ⟨_, by kernel_rfl, rfl, Below.refl _ _⟩
            · have e1 : x1 = .pointer (some ⟨wr.heap.size, 1, none⟩) := hpre 1 (by kernel_rfl)
              subst e1
              exact wpOp_run (.int .i64 o4.at_) rfl (by kernel_rfl) (exec_load 3 rfl (by kernel_rfl) w3 (load3 hO.at1)) ⟨_, by kernel_rfl, rfl, Below.refl _ _⟩
            · have e0 : x0 = .pointer (some ⟨b, 0, none⟩) := hpre 0 (by kernel_rfl)
              subst e0
              have e2 : x2 = .int .i64 o4.at_ := hpre 2 (by kernel_rfl)
              subst e2
              refine wpOp_callR (R := fun u w4 => u = .int .u8 ((getB m o4.at_).toNat : Int) ∧ w4 = w3) 13 #[.pointer (some ⟨b, 0, none⟩), .int .i64 o4.at_] rfl (by kernel_rfl) (by kernel_rfl) ((byte_any w3 b m (o4.at_ % 8) c o4.at_ hP).mono fun e w4 ⟨he, hw⟩ => ⟨_, he, rfl, hw⟩) ?_
              rintro _ w4 ⟨rfl, hw⟩
              subst hw
              exact ⟨_, by kernel_rfl, rfl, Below.refl _ _⟩
            · exact wpOp_run (.pointer (some ⟨r, 0, none⟩)) rfl (by kernel_rfl) (exec_move rfl (by kernel_rfl) w3) ⟨_, by kernel_rfl, rfl, Below.refl _ _⟩
            · exact wpOp_run (.pointer (some ⟨wr.heap.size, 1, none⟩)) rfl (by kernel_rfl) (by kernel_rfl) ⟨_, by kernel_rfl, rfl, Below.refl _ _⟩
            · have e5 : x5 = .pointer (some ⟨wr.heap.size, 1, none⟩) := hpre 5 (by kernel_rfl)
              subst e5
              exact wpOp_run (.int .i64 o4.at_) rfl (by kernel_rfl) (exec_load 3 rfl (by kernel_rfl) w3 (load3 hO.at1)) ⟨_, by kernel_rfl, rfl, Below.refl _ _⟩
            · have e4 : x4 = .pointer (some ⟨r, 0, none⟩) := hpre 4 (by kernel_rfl)
              subst e4
              have e6 : x6 = .int .i64 o4.at_ := hpre 6 (by kernel_rfl)
              subst e6
              refine wpOp_callR (R := fun u w4 => u = .int .u8 ((getB m o4.at_).toNat : Int) ∧ w4 = w3) 14 #[.pointer (some ⟨r, 0, none⟩), .int .i64 o4.at_] rfl (by kernel_rfl) (by kernel_rfl) ((refByte_any w3 r m (o4.at_ % 8) c o4.at_ hQ).mono fun e w4 ⟨he, hw⟩ => ⟨_, he, rfl, hw⟩) ?_
              rintro _ w4 ⟨rfl, hw⟩
              subst hw
              exact ⟨_, by kernel_rfl, rfl, Below.refl _ _⟩
            · have e3 : x3 = .int .u8 ((getB m o4.at_).toNat : Int) := hpre 3 (by kernel_rfl)
              subst e3
              have e7 : x7 = .int .u8 ((getB m o4.at_).toNat : Int) := hpre 7 (by kernel_rfl)
              subst e7
              exact wpOp_run (.bool false) rfl (by kernel_rfl) (exec_neq (n := ((getB m o4.at_).toNat : Int)) 5 rfl Try.underlying5 (by kernel_rfl) (by kernel_rfl) w3) ⟨_, by kernel_rfl, rfl, Below.refl _ _⟩
            · have e8 : x8 = .bool false := hpre 8 (by kernel_rfl)
              subst e8
              exact wpOp_run (.bool false) rfl (by kernel_rfl) (exec_move rfl (by kernel_rfl) w3) ⟨_, by kernel_rfl, rfl, Below.refl _ _⟩
            · have e9 : x9 = .bool false := hpre 9 (by kernel_rfl)
              subst e9
              exact wpOp_run (.pointer (some ⟨b, 0, none⟩)) rfl (by kernel_rfl) (exec_move rfl (by kernel_rfl) w3) ⟨_, by kernel_rfl, rfl, Below.refl _ _⟩
            · have e9 : x9 = .bool false := hpre 9 (by kernel_rfl)
              subst e9
              have e10 : x10 = .pointer (some ⟨b, 0, none⟩) := hpre 10 (by kernel_rfl)
              subst e10
              refine wpOp_callR (R := fun u w4 => u = .int .i64 (o4.at_ % 8) ∧ w4 = w3) 15 #[.pointer (some ⟨b, 0, none⟩)] rfl (by kernel_rfl) (by kernel_rfl) ((perm_any w3 b m (o4.at_ % 8) c hP).mono fun e w4 ⟨he, hw⟩ => ⟨_, he, rfl, hw⟩) ?_
              rintro _ w4 ⟨rfl, hw⟩
              subst hw
              exact ⟨_, by kernel_rfl, rfl, Below.refl _ _⟩
            · have e9 : x9 = .bool false := hpre 9 (by kernel_rfl)
              subst e9
              exact wpOp_run (.pointer (some ⟨r, 0, none⟩)) rfl (by kernel_rfl) (exec_move rfl (by kernel_rfl) w3) ⟨_, by kernel_rfl, rfl, Below.refl _ _⟩
            · have e9 : x9 = .bool false := hpre 9 (by kernel_rfl)
              subst e9
              have e12 : x12 = .pointer (some ⟨r, 0, none⟩) := hpre 12 (by kernel_rfl)
              subst e12
              exact wpOp_run (.pointer (some ⟨r, 0, none⟩)) rfl (by kernel_rfl) (by kernel_rfl) ⟨_, by kernel_rfl, rfl, Below.refl _ _⟩
            · have e9 : x9 = .bool false := hpre 9 (by kernel_rfl)
              subst e9
              have e13 : x13 = .pointer (some ⟨r, 0, none⟩) := hpre 13 (by kernel_rfl)
              subst e13
              exact wpOp_run (.pointer (some ⟨r, 256, none⟩)) rfl (by kernel_rfl) (by kernel_rfl) ⟨_, by kernel_rfl, rfl, Below.refl _ _⟩
            · have e9 : x9 = .bool false := hpre 9 (by kernel_rfl)
              subst e9
              have e14 : x14 = .pointer (some ⟨r, 256, none⟩) := hpre 14 (by kernel_rfl)
              subst e14
              exact wpOp_run (.int .i64 (o4.at_ % 8)) rfl (by kernel_rfl) (exec_load 3 rfl (by kernel_rfl) w3 (load3 hQ.perm)) ⟨_, by kernel_rfl, rfl, Below.refl _ _⟩
            · have e9 : x9 = .bool false := hpre 9 (by kernel_rfl)
              subst e9
              have e11 : x11 = .int .i64 (o4.at_ % 8) := hpre 11 (by kernel_rfl)
              subst e11
              have e15 : x15 = .int .i64 (o4.at_ % 8) := hpre 15 (by kernel_rfl)
              subst e15
              exact wpOp_run (.bool false) rfl (by kernel_rfl) (exec_neq (n := (o4.at_ % 8)) 3 rfl Try.underlying3 (by kernel_rfl) (by kernel_rfl) w3) ⟨_, by kernel_rfl, rfl, Below.refl _ _⟩
            · have e9 : x9 = .bool false := hpre 9 (by kernel_rfl)
              subst e9
              have e16 : x16 = .bool false := hpre 16 (by kernel_rfl)
              subst e16
              exact wpOp_run (.bool false) rfl (by kernel_rfl) (by kernel_rfl) ⟨_, by kernel_rfl, rfl, Below.refl _ _⟩
            · have e17 : x17 = .bool false := hpre 17 (by kernel_rfl)
              subst e17
              exact wpOp_run (.bool false) rfl (by kernel_rfl) (exec_move rfl (by kernel_rfl) w3) ⟨_, by kernel_rfl, rfl, Below.refl _ _⟩
            · have e18 : x18 = .bool false := hpre 18 (by kernel_rfl)
              subst e18
              exact wpOp_run (.pointer (some ⟨b, 0, none⟩)) rfl (by kernel_rfl) (exec_move rfl (by kernel_rfl) w3) ⟨_, by kernel_rfl, rfl, Below.refl _ _⟩
            · have e18 : x18 = .bool false := hpre 18 (by kernel_rfl)
              subst e18
              have e19 : x19 = .pointer (some ⟨b, 0, none⟩) := hpre 19 (by kernel_rfl)
              subst e19
              refine wpOp_callR (R := fun u w4 => u = .int .i64 c ∧ w4 = w3) 16 #[.pointer (some ⟨b, 0, none⟩)] rfl (by kernel_rfl) (by kernel_rfl) ((writes_any w3 b m (o4.at_ % 8) c hP).mono fun e w4 ⟨he, hw⟩ => ⟨_, he, rfl, hw⟩) ?_
              rintro _ w4 ⟨rfl, hw⟩
              subst hw
              exact ⟨_, by kernel_rfl, rfl, Below.refl _ _⟩
            · have e18 : x18 = .bool false := hpre 18 (by kernel_rfl)
              subst e18
              exact wpOp_run (.pointer (some ⟨r, 0, none⟩)) rfl (by kernel_rfl) (exec_move rfl (by kernel_rfl) w3) ⟨_, by kernel_rfl, rfl, Below.refl _ _⟩
            · have e18 : x18 = .bool false := hpre 18 (by kernel_rfl)
              subst e18
              have e21 : x21 = .pointer (some ⟨r, 0, none⟩) := hpre 21 (by kernel_rfl)
              subst e21
              exact wpOp_run (.pointer (some ⟨r, 0, none⟩)) rfl (by kernel_rfl) (by kernel_rfl) ⟨_, by kernel_rfl, rfl, Below.refl _ _⟩
            · have e18 : x18 = .bool false := hpre 18 (by kernel_rfl)
              subst e18
              have e22 : x22 = .pointer (some ⟨r, 0, none⟩) := hpre 22 (by kernel_rfl)
              subst e22
              exact wpOp_run (.pointer (some ⟨r, 257, none⟩)) rfl (by kernel_rfl) (by kernel_rfl) ⟨_, by kernel_rfl, rfl, Below.refl _ _⟩
            · have e18 : x18 = .bool false := hpre 18 (by kernel_rfl)
              subst e18
              have e23 : x23 = .pointer (some ⟨r, 257, none⟩) := hpre 23 (by kernel_rfl)
              subst e23
              exact wpOp_run (.int .i64 c) rfl (by kernel_rfl) (exec_load 3 rfl (by kernel_rfl) w3 (load3 hQ.count)) ⟨_, by kernel_rfl, rfl, Below.refl _ _⟩
            · have e18 : x18 = .bool false := hpre 18 (by kernel_rfl)
              subst e18
              have e20 : x20 = .int .i64 c := hpre 20 (by kernel_rfl)
              subst e20
              have e24 : x24 = .int .i64 c := hpre 24 (by kernel_rfl)
              subst e24
              exact wpOp_run (.bool false) rfl (by kernel_rfl) (exec_neq (n := c) 3 rfl Try.underlying3 (by kernel_rfl) (by kernel_rfl) w3) ⟨_, by kernel_rfl, rfl, Below.refl _ _⟩
            · have e18 : x18 = .bool false := hpre 18 (by kernel_rfl)
              subst e18
              have e25 : x25 = .bool false := hpre 25 (by kernel_rfl)
              subst e25
              exact wpOp_run (.bool false) rfl (by kernel_rfl) (by kernel_rfl) ⟨_, by kernel_rfl, rfl, Below.refl _ _⟩
            · have e26 : x26 = .bool false := hpre 26 (by kernel_rfl)
              subst e26
              exact wpOp_run (.bool false) rfl (by kernel_rfl) (exec_move rfl (by kernel_rfl) w3) ⟨_, by kernel_rfl, rfl, Below.refl _ _⟩
            · have e27 : x27 = .bool false := hpre 27 (by kernel_rfl)
              subst e27
              exact wpOp_run (.pointer (some ⟨b, 0, none⟩)) rfl (by kernel_rfl) (exec_move rfl (by kernel_rfl) w3) ⟨_, by kernel_rfl, rfl, Below.refl _ _⟩
            · have e27 : x27 = .bool false := hpre 27 (by kernel_rfl)
              subst e27
              exact wpOp_run (.pointer (some ⟨wr.heap.size, 1, none⟩)) rfl (by kernel_rfl) (by kernel_rfl) ⟨_, by kernel_rfl, rfl, Below.refl _ _⟩
            · have e27 : x27 = .bool false := hpre 27 (by kernel_rfl)
              subst e27
              have e29 : x29 = .pointer (some ⟨wr.heap.size, 1, none⟩) := hpre 29 (by kernel_rfl)
              subst e29
              exact wpOp_run (.int .i64 o4.at_) rfl (by kernel_rfl) (exec_load 3 rfl (by kernel_rfl) w3 (load3 hO.at1)) ⟨_, by kernel_rfl, rfl, Below.refl _ _⟩
            · have e27 : x27 = .bool false := hpre 27 (by kernel_rfl)
              subst e27
              exact wpOp_run (.pointer (some ⟨wr.heap.size, 2, none⟩)) rfl (by kernel_rfl) (by kernel_rfl) ⟨_, by kernel_rfl, rfl, Below.refl _ _⟩
            · have e27 : x27 = .bool false := hpre 27 (by kernel_rfl)
              subst e27
              have e31 : x31 = .pointer (some ⟨wr.heap.size, 2, none⟩) := hpre 31 (by kernel_rfl)
              subst e31
              exact wpOp_run (.int .i64 o4.n) rfl (by kernel_rfl) (exec_load 3 rfl (by kernel_rfl) w3 (load3 hO.at2)) ⟨_, by kernel_rfl, rfl, Below.refl _ _⟩
            · have e27 : x27 = .bool false := hpre 27 (by kernel_rfl)
              subst e27
              have e28 : x28 = .pointer (some ⟨b, 0, none⟩) := hpre 28 (by kernel_rfl)
              subst e28
              have e30 : x30 = .int .i64 o4.at_ := hpre 30 (by kernel_rfl)
              subst e30
              have e32 : x32 = .int .i64 o4.n := hpre 32 (by kernel_rfl)
              subst e32
              refine wpOp_callR (R := fun u w4 => (∃ a cap, u = .slice a (partB m o4.at_ o4.n).length cap ∧ Row w4 a (partB m o4.at_ o4.n) cap) ∧ Below w3.heap.size w3 w4) 17 #[.pointer (some ⟨b, 0, none⟩), .int .i64 o4.at_, .int .i64 o4.n] rfl (by kernel_rfl) (by kernel_rfl) ((bytes_any w3 b m (o4.at_ % 8) c o4.at_ o4.n hP).mono fun e w4 ⟨a, cap, he, hr, hb⟩ => ⟨_, he, ⟨a, cap, rfl, hr⟩, hb⟩) ?_
              rintro _ w4 ⟨⟨a, cap, rfl, hr⟩, hb⟩
              exact ⟨_, by kernel_rfl, ⟨a, cap, rfl, hr⟩, hb⟩
            · have e27 : x27 = .bool false := hpre 27 (by kernel_rfl)
              subst e27
              have f33 : ∃ a cap, x33 = .slice a (partB m o4.at_ o4.n).length cap ∧ Row w3 a (partB m o4.at_ o4.n) cap := hpre 33 (by kernel_rfl)
              obtain ⟨a33, cap33, e33, hr33⟩ := f33
              subst e33
              exact wpOp_run (.string ⟨(partB m o4.at_ o4.n).toArray⟩) rfl (by kernel_rfl) (exec_str (a := a33) (c := cap33) (partB m o4.at_ o4.n) rfl (by kernel_rfl) w3 hr33.lies) ⟨_, by kernel_rfl, rfl, Below.refl _ _⟩
            · have e27 : x27 = .bool false := hpre 27 (by kernel_rfl)
              subst e27
              exact wpOp_run (.pointer (some ⟨r, 0, none⟩)) rfl (by kernel_rfl) (exec_move rfl (by kernel_rfl) w3) ⟨_, by kernel_rfl, rfl, Below.refl _ _⟩
            · have e27 : x27 = .bool false := hpre 27 (by kernel_rfl)
              subst e27
              exact wpOp_run (.pointer (some ⟨wr.heap.size, 1, none⟩)) rfl (by kernel_rfl) (by kernel_rfl) ⟨_, by kernel_rfl, rfl, Below.refl _ _⟩
            · have e27 : x27 = .bool false := hpre 27 (by kernel_rfl)
              subst e27
              have e36 : x36 = .pointer (some ⟨wr.heap.size, 1, none⟩) := hpre 36 (by kernel_rfl)
              subst e36
              exact wpOp_run (.int .i64 o4.at_) rfl (by kernel_rfl) (exec_load 3 rfl (by kernel_rfl) w3 (load3 hO.at1)) ⟨_, by kernel_rfl, rfl, Below.refl _ _⟩
            · have e27 : x27 = .bool false := hpre 27 (by kernel_rfl)
              subst e27
              exact wpOp_run (.pointer (some ⟨wr.heap.size, 2, none⟩)) rfl (by kernel_rfl) (by kernel_rfl) ⟨_, by kernel_rfl, rfl, Below.refl _ _⟩
            · have e27 : x27 = .bool false := hpre 27 (by kernel_rfl)
              subst e27
              have e38 : x38 = .pointer (some ⟨wr.heap.size, 2, none⟩) := hpre 38 (by kernel_rfl)
              subst e38
              exact wpOp_run (.int .i64 o4.n) rfl (by kernel_rfl) (exec_load 3 rfl (by kernel_rfl) w3 (load3 hO.at2)) ⟨_, by kernel_rfl, rfl, Below.refl _ _⟩
            · have e27 : x27 = .bool false := hpre 27 (by kernel_rfl)
              subst e27
              have e35 : x35 = .pointer (some ⟨r, 0, none⟩) := hpre 35 (by kernel_rfl)
              subst e35
              have e37 : x37 = .int .i64 o4.at_ := hpre 37 (by kernel_rfl)
              subst e37
              have e39 : x39 = .int .i64 o4.n := hpre 39 (by kernel_rfl)
              subst e39
              refine wpOp_callR (R := fun u w4 => (∃ a cap, u = .slice a (partB m o4.at_ o4.n).length cap ∧ Row w4 a (partB m o4.at_ o4.n) cap) ∧ Below w3.heap.size w3 w4) 18 #[.pointer (some ⟨r, 0, none⟩), .int .i64 o4.at_, .int .i64 o4.n] rfl (by kernel_rfl) (by kernel_rfl) ((refBytes_any w3 r m (o4.at_ % 8) c o4.at_ o4.n hQ).mono fun e w4 ⟨a, cap, he, hr, hb⟩ => ⟨_, he, ⟨a, cap, rfl, hr⟩, hb⟩) ?_
              rintro _ w4 ⟨⟨a, cap, rfl, hr⟩, hb⟩
              exact ⟨_, by kernel_rfl, ⟨a, cap, rfl, hr⟩, hb⟩
            · have e27 : x27 = .bool false := hpre 27 (by kernel_rfl)
              subst e27
              have f40 : ∃ a cap, x40 = .slice a (partB m o4.at_ o4.n).length cap ∧ Row w3 a (partB m o4.at_ o4.n) cap := hpre 40 (by kernel_rfl)
              obtain ⟨a40, cap40, e40, hr40⟩ := f40
              subst e40
              exact wpOp_run (.string ⟨(partB m o4.at_ o4.n).toArray⟩) rfl (by kernel_rfl) (exec_str (a := a40) (c := cap40) (partB m o4.at_ o4.n) rfl (by kernel_rfl) w3 hr40.lies) ⟨_, by kernel_rfl, rfl, Below.refl _ _⟩
            · have e27 : x27 = .bool false := hpre 27 (by kernel_rfl)
              subst e27
              have e34 : x34 = .string ⟨(partB m o4.at_ o4.n).toArray⟩ := hpre 34 (by kernel_rfl)
              subst e34
              have e41 : x41 = .string ⟨(partB m o4.at_ o4.n).toArray⟩ := hpre 41 (by kernel_rfl)
              subst e41
              exact wpOp_run (.bool false) rfl (by kernel_rfl) (exec_neqS ⟨(partB m o4.at_ o4.n).toArray⟩ rfl (by kernel_rfl) (by kernel_rfl) w3) ⟨_, by kernel_rfl, rfl, Below.refl _ _⟩
            · have e27 : x27 = .bool false := hpre 27 (by kernel_rfl)
              subst e27
              have e42 : x42 = .bool false := hpre 42 (by kernel_rfl)
              subst e42
              exact wpOp_run (.bool false) rfl (by kernel_rfl) (by kernel_rfl) ⟨_, by kernel_rfl, rfl, Below.refl _ _⟩
          · intro xs w3 hxs hR hall
            obtain ⟨x0, x1, x2, x3, x4, x5, x6, x7, x8, x9, x10, x11, x12, x13, x14, x15, x16, x17, x18, x19, x20, x21, x22, x23, x24, x25, x26, x27, x28, x29, x30, x31, x32, x33, x34, x35, x36, x37, x38, x39, x40, x41, x42, x43, rfl⟩ := list44 xs hxs
            have e43 : x43 = .bool false := hall 43 (by omega)
            subst e43
            have HP6 := hidden ((Hid.out HP5).later hR)
            have HR6 := hidden ((Hid.out HR5).later hR)
            have HB6 := hidden ((Hid.out HB5).trans (hR.mono (Hid.out HB5).size))
            clear hall hR hxs
            simp only [slotsOn, putAll, List.set_cons_succ, List.set_cons_zero]
            go_wp2
            go_roundw
            case rel => first | exact ⟨k + 1, b, m, (o4.at_ % 8), c, by omega, by omega, by go_num, rfl, by omega, by omega, Hid.out HP6, Hid.out HR6, Hid.out HBR5, Hid.out HWB5, Hid.out HB6⟩ | ((repeat apply Exists.intro); exact ⟨⟨k + 1, b, m, (o4.at_ % 8), c, by omega, by omega, by go_num, rfl, by omega, by omega, Hid.out HP6, Hid.out HR6, Hid.out HBR5, Hid.out HWB5, Hid.out HB6⟩, rfl⟩)
            case measure => simp [intOf]; omega
        · go_wp2_with (first | (go_at_call 8; refine (Hid.out (H8 _)).mono ?_; rintro e w0 ⟨rfl, hww⟩; rw [hww]; clear hww w0) | (go_at_call 10; refine (copy_any _ b m q c (Hid.out HP1)).mono ?_; rintro e w2 ⟨c2, rfl, hc2, hp2, hb2⟩; have HC2 := hidden hp2; have HP2 := hidden (Pg.later (Hid.out HP1) hb2); have HR2 := hidden (Pg.later (Hid.out HR1) hb2); have HO2 := hidden (Ob.later (Hid.out HO1) hb2); have HB2 := hidden (Below.trans (Hid.out HB1) (Below.mono hb2 (Hid.out HB1).size)); have hgt := hidden (Nat.lt_of_lt_of_le (Ob.lt (Hid.out HO1)) hc2); clear hc2 hp2 hb2) | (go_at_call 11; refine (setByte_any _ b m q c 0 77 hc0 (Hid.out hcs) (Hid.out HP2)).mono ?_; rintro e w5 ⟨rfl, hp5, ho5⟩; have HO := hidden ho5; clear hp5 ho5))
          have HP5 := hidden ((Hid.out HC2).only (Hid.out HO) (Nat.ne_of_gt (Nat.lt_trans (Hid.out HBlt) (Hid.out hgt))))
          have HR5 := hidden ((Hid.out HR2).only (Hid.out HO) (Ne.symm (Hid.out HBR)))
          have HO5 := hidden ((Hid.out HO2).only (Hid.out HO) (Hid.out HOB))
          have HB5 := hidden ((Hid.out HB2).trans ((Hid.out HO).below (Hid.out HWB)))
          have HBR5 := hidden (Nat.ne_of_gt (Nat.lt_trans (Hid.out HRlt) (Hid.out hgt)))
          have HWB5 := hidden (Nat.le_trans (Hid.out HWB) (Nat.le_of_lt (Nat.lt_trans (Hid.out HBlt) (Hid.out hgt))))
          refine wp_region_on later_below [64, 65, 66, 67, 68, 69, 70, 71, 72, 73, 74, 75, 76, 77, 78, 79, 80, 81, 82, 83, 84, 85, 86, 87, 88, 89, 90, 91, 92, 93, 94, 95, 96, 97, 98, 99, 100, 101, 102, 103, 104, 105, 106, 107] 44 (phiLook c2 r wr.heap.size m q c o4) (by kernel_rfl) (by kernel_rfl) rfl rfl (phiLook_mono c2 r wr.heap.size m q c o4) ?_ ?_
          · intro j hj xs w3 hxs hR hpre
            obtain ⟨x0, x1, x2, x3, x4, x5, x6, x7, x8, x9, x10, x11, x12, x13, x14, x15, x16, x17, x18, x19, x20, x21, x22, x23, x24, x25, x26, x27, x28, x29, x30, x31, x32, x33, x34, x35, x36, x37, x38, x39, x40, x41, x42, x43, rfl⟩ := list44 xs hxs
            have hP : Pg 51 w3 c2 m q c := (Hid.out HP5).later hR
            have hQ : Pg 33 w3 r m q c := (Hid.out HR5).later hR
            have hO : Ob w3 wr.heap.size o4 := (Hid.out HO5).later hR
            rcases (show j = 0 ∨ j = 1 ∨ j = 2 ∨ j = 3 ∨ j = 4 ∨ j = 5 ∨ j = 6 ∨ j = 7 ∨ j = 8 ∨ j = 9 ∨ j = 10 ∨ j = 11 ∨ j = 12 ∨ j = 13 ∨ j = 14 ∨ j = 15 ∨ j = 16 ∨ j = 17 ∨ j = 18 ∨ j = 19 ∨ j = 20 ∨ j = 21 ∨ j = 22 ∨ j = 23 ∨ j = 24 ∨ j = 25 ∨ j = 26 ∨ j = 27 ∨ j = 28 ∨ j = 29 ∨ j = 30 ∨ j = 31 ∨ j = 32 ∨ j = 33 ∨ j = 34 ∨ j = 35 ∨ j = 36 ∨ j = 37 ∨ j = 38 ∨ j = 39 ∨ j = 40 ∨ j = 41 ∨ j = 42 ∨ j = 43 by omega) with rfl | rfl | rfl | rfl | rfl | rfl | rfl | rfl | rfl | rfl | rfl | rfl | rfl | rfl | rfl | rfl | rfl | rfl | rfl | rfl | rfl | rfl | rfl | rfl | rfl | rfl | rfl | rfl | rfl | rfl | rfl | rfl | rfl | rfl | rfl | rfl | rfl | rfl | rfl | rfl | rfl | rfl | rfl | rfl
            · exact wpOp_run (.pointer (some ⟨c2, 0, none⟩)) rfl (by kernel_rfl) (exec_move rfl (by kernel_rfl) w3) ⟨_, by kernel_rfl, rfl, Below.refl _ _⟩
            · exact wpOp_run (.pointer (some ⟨wr.heap.size, 1, none⟩)) rfl (by kernel_rfl) (by kernel_rfl) ⟨_, by kernel_rfl, rfl, Below.refl _ _⟩
            · have e1 : x1 = .pointer (some ⟨wr.heap.size, 1, none⟩) := hpre 1 (by kernel_rfl)
              subst e1
              exact wpOp_run (.int .i64 o4.at_) rfl (by kernel_rfl) (exec_load 3 rfl (by kernel_rfl) w3 (load3 hO.at1)) ⟨_, by kernel_rfl, rfl, Below.refl _ _⟩
            · have e0 : x0 = .pointer (some ⟨c2, 0, none⟩) := hpre 0 (by kernel_rfl)
              subst e0
              have e2 : x2 = .int .i64 o4.at_ := hpre 2 (by kernel_rfl)
              subst e2
              refine wpOp_callR (R := fun u w4 => u = .int .u8 ((getB m o4.at_).toNat : Int) ∧ w4 = w3) 13 #[.pointer (some ⟨c2, 0, none⟩), .int .i64 o4.at_] rfl (by kernel_rfl) (by kernel_rfl) ((byte_any w3 c2 m q c o4.at_ hP).mono fun e w4 ⟨he, hw⟩ => ⟨_, he, rfl, hw⟩) ?_
              rintro _ w4 ⟨rfl, hw⟩
              subst hw
              exact ⟨_, by kernel_rfl, rfl, Below.refl _ _⟩
            · exact wpOp_run (.pointer (some ⟨r, 0, none⟩)) rfl (by kernel_rfl) (exec_move rfl (by kernel_rfl) w3) ⟨_, by kernel_rfl, rfl, Below.refl _ _⟩
            · exact wpOp_run (.pointer (some ⟨wr.heap.size, 1, none⟩)) rfl (by kernel_rfl) (by kernel_rfl) ⟨_, by kernel_rfl, rfl, Below.refl _ _⟩
            · have e5 : x5 = .pointer (some ⟨wr.heap.size, 1, none⟩) := hpre 5 (by kernel_rfl)
              subst e5
              exact wpOp_run (.int .i64 o4.at_) rfl (by kernel_rfl) (exec_load 3 rfl (by kernel_rfl) w3 (load3 hO.at1)) ⟨_, by kernel_rfl, rfl, Below.refl _ _⟩
            · have e4 : x4 = .pointer (some ⟨r, 0, none⟩) := hpre 4 (by kernel_rfl)
              subst e4
              have e6 : x6 = .int .i64 o4.at_ := hpre 6 (by kernel_rfl)
              subst e6
              refine wpOp_callR (R := fun u w4 => u = .int .u8 ((getB m o4.at_).toNat : Int) ∧ w4 = w3) 14 #[.pointer (some ⟨r, 0, none⟩), .int .i64 o4.at_] rfl (by kernel_rfl) (by kernel_rfl) ((refByte_any w3 r m q c o4.at_ hQ).mono fun e w4 ⟨he, hw⟩ => ⟨_, he, rfl, hw⟩) ?_
              rintro _ w4 ⟨rfl, hw⟩
              subst hw
              exact ⟨_, by kernel_rfl, rfl, Below.refl _ _⟩
            · have e3 : x3 = .int .u8 ((getB m o4.at_).toNat : Int) := hpre 3 (by kernel_rfl)
              subst e3
              have e7 : x7 = .int .u8 ((getB m o4.at_).toNat : Int) := hpre 7 (by kernel_rfl)
              subst e7
              exact wpOp_run (.bool false) rfl (by kernel_rfl) (exec_neq (n := ((getB m o4.at_).toNat : Int)) 5 rfl Try.underlying5 (by kernel_rfl) (by kernel_rfl) w3) ⟨_, by kernel_rfl, rfl, Below.refl _ _⟩
            · have e8 : x8 = .bool false := hpre 8 (by kernel_rfl)
              subst e8
              exact wpOp_run (.bool false) rfl (by kernel_rfl) (exec_move rfl (by kernel_rfl) w3) ⟨_, by kernel_rfl, rfl, Below.refl _ _⟩
            · have e9 : x9 = .bool false := hpre 9 (by kernel_rfl)
              subst e9
              exact wpOp_run (.pointer (some ⟨c2, 0, none⟩)) rfl (by kernel_rfl) (exec_move rfl (by kernel_rfl) w3) ⟨_, by kernel_rfl, rfl, Below.refl _ _⟩
            · have e9 : x9 = .bool false := hpre 9 (by kernel_rfl)
              subst e9
              have e10 : x10 = .pointer (some ⟨c2, 0, none⟩) := hpre 10 (by kernel_rfl)
              subst e10
              refine wpOp_callR (R := fun u w4 => u = .int .i64 q ∧ w4 = w3) 15 #[.pointer (some ⟨c2, 0, none⟩)] rfl (by kernel_rfl) (by kernel_rfl) ((perm_any w3 c2 m q c hP).mono fun e w4 ⟨he, hw⟩ => ⟨_, he, rfl, hw⟩) ?_
              rintro _ w4 ⟨rfl, hw⟩
              subst hw
              exact ⟨_, by kernel_rfl, rfl, Below.refl _ _⟩
            · have e9 : x9 = .bool false := hpre 9 (by kernel_rfl)
              subst e9
              exact wpOp_run (.pointer (some ⟨r, 0, none⟩)) rfl (by kernel_rfl) (exec_move rfl (by kernel_rfl) w3) ⟨_, by kernel_rfl, rfl, Below.refl _ _⟩
            · have e9 : x9 = .bool false := hpre 9 (by kernel_rfl)
              subst e9
              have e12 : x12 = .pointer (some ⟨r, 0, none⟩) := hpre 12 (by kernel_rfl)
              subst e12
              exact wpOp_run (.pointer (some ⟨r, 0, none⟩)) rfl (by kernel_rfl) (by kernel_rfl) ⟨_, by kernel_rfl, rfl, Below.refl _ _⟩
            · have e9 : x9 = .bool false := hpre 9 (by kernel_rfl)
              subst e9
              have e13 : x13 = .pointer (some ⟨r, 0, none⟩) := hpre 13 (by kernel_rfl)
              subst e13
              exact wpOp_run (.pointer (some ⟨r, 256, none⟩)) rfl (by kernel_rfl) (by kernel_rfl) ⟨_, by kernel_rfl, rfl, Below.refl _ _⟩
            · have e9 : x9 = .bool false := hpre 9 (by kernel_rfl)
              subst e9
              have e14 : x14 = .pointer (some ⟨r, 256, none⟩) := hpre 14 (by kernel_rfl)
              subst e14
              exact wpOp_run (.int .i64 q) rfl (by kernel_rfl) (exec_load 3 rfl (by kernel_rfl) w3 (load3 hQ.perm)) ⟨_, by kernel_rfl, rfl, Below.refl _ _⟩
            · have e9 : x9 = .bool false := hpre 9 (by kernel_rfl)
              subst e9
              have e11 : x11 = .int .i64 q := hpre 11 (by kernel_rfl)
              subst e11
              have e15 : x15 = .int .i64 q := hpre 15 (by kernel_rfl)
              subst e15
              exact wpOp_run (.bool false) rfl (by kernel_rfl) (exec_neq (n := q) 3 rfl Try.underlying3 (by kernel_rfl) (by kernel_rfl) w3) ⟨_, by kernel_rfl, rfl, Below.refl _ _⟩
            · have e9 : x9 = .bool false := hpre 9 (by kernel_rfl)
              subst e9
              have e16 : x16 = .bool false := hpre 16 (by kernel_rfl)
              subst e16
              exact wpOp_run (.bool false) rfl (by kernel_rfl) (by kernel_rfl) ⟨_, by kernel_rfl, rfl, Below.refl _ _⟩
            · have e17 : x17 = .bool false := hpre 17 (by kernel_rfl)
              subst e17
              exact wpOp_run (.bool false) rfl (by kernel_rfl) (exec_move rfl (by kernel_rfl) w3) ⟨_, by kernel_rfl, rfl, Below.refl _ _⟩
            · have e18 : x18 = .bool false := hpre 18 (by kernel_rfl)
              subst e18
              exact wpOp_run (.pointer (some ⟨c2, 0, none⟩)) rfl (by kernel_rfl) (exec_move rfl (by kernel_rfl) w3) ⟨_, by kernel_rfl, rfl, Below.refl _ _⟩
            · have e18 : x18 = .bool false := hpre 18 (by kernel_rfl)
              subst e18
              have e19 : x19 = .pointer (some ⟨c2, 0, none⟩) := hpre 19 (by kernel_rfl)
              subst e19
              refine wpOp_callR (R := fun u w4 => u = .int .i64 c ∧ w4 = w3) 16 #[.pointer (some ⟨c2, 0, none⟩)] rfl (by kernel_rfl) (by kernel_rfl) ((writes_any w3 c2 m q c hP).mono fun e w4 ⟨he, hw⟩ => ⟨_, he, rfl, hw⟩) ?_
              rintro _ w4 ⟨rfl, hw⟩
              subst hw
              exact ⟨_, by kernel_rfl, rfl, Below.refl _ _⟩
            · have e18 : x18 = .bool false := hpre 18 (by kernel_rfl)
              subst e18
              exact wpOp_run (.pointer (some ⟨r, 0, none⟩)) rfl (by kernel_rfl) (exec_move rfl (by kernel_rfl) w3) ⟨_, by kernel_rfl, rfl, Below.refl _ _⟩
            · have e18 : x18 = .bool false := hpre 18 (by kernel_rfl)
              subst e18
              have e21 : x21 = .pointer (some ⟨r, 0, none⟩) := hpre 21 (by kernel_rfl)
              subst e21
              exact wpOp_run (.pointer (some ⟨r, 0, none⟩)) rfl (by kernel_rfl) (by kernel_rfl) ⟨_, by kernel_rfl, rfl, Below.refl _ _⟩
            · have e18 : x18 = .bool false := hpre 18 (by kernel_rfl)
              subst e18
              have e22 : x22 = .pointer (some ⟨r, 0, none⟩) := hpre 22 (by kernel_rfl)
              subst e22
              exact wpOp_run (.pointer (some ⟨r, 257, none⟩)) rfl (by kernel_rfl) (by kernel_rfl) ⟨_, by kernel_rfl, rfl, Below.refl _ _⟩
            · have e18 : x18 = .bool false := hpre 18 (by kernel_rfl)
              subst e18
              have e23 : x23 = .pointer (some ⟨r, 257, none⟩) := hpre 23 (by kernel_rfl)
              subst e23
              exact wpOp_run (.int .i64 c) rfl (by kernel_rfl) (exec_load 3 rfl (by kernel_rfl) w3 (load3 hQ.count)) ⟨_, by kernel_rfl, rfl, Below.refl _ _⟩
            · have e18 : x18 = .bool false := hpre 18 (by kernel_rfl)
              subst e18
              have e20 : x20 = .int .i64 c := hpre 20 (by kernel_rfl)
              subst e20
              have e24 : x24 = .int .i64 c := hpre 24 (by kernel_rfl)
              subst e24
              exact wpOp_run (.bool false) rfl (by kernel_rfl) (exec_neq (n := c) 3 rfl Try.underlying3 (by kernel_rfl) (by kernel_rfl) w3) ⟨_, by kernel_rfl, rfl, Below.refl _ _⟩
            · have e18 : x18 = .bool false := hpre 18 (by kernel_rfl)
              subst e18
              have e25 : x25 = .bool false := hpre 25 (by kernel_rfl)
              subst e25
              exact wpOp_run (.bool false) rfl (by kernel_rfl) (by kernel_rfl) ⟨_, by kernel_rfl, rfl, Below.refl _ _⟩
            · have e26 : x26 = .bool false := hpre 26 (by kernel_rfl)
              subst e26
              exact wpOp_run (.bool false) rfl (by kernel_rfl) (exec_move rfl (by kernel_rfl) w3) ⟨_, by kernel_rfl, rfl, Below.refl _ _⟩
            · have e27 : x27 = .bool false := hpre 27 (by kernel_rfl)
              subst e27
              exact wpOp_run (.pointer (some ⟨c2, 0, none⟩)) rfl (by kernel_rfl) (exec_move rfl (by kernel_rfl) w3) ⟨_, by kernel_rfl, rfl, Below.refl _ _⟩
            · have e27 : x27 = .bool false := hpre 27 (by kernel_rfl)
              subst e27
              exact wpOp_run (.pointer (some ⟨wr.heap.size, 1, none⟩)) rfl (by kernel_rfl) (by kernel_rfl) ⟨_, by kernel_rfl, rfl, Below.refl _ _⟩
            · have e27 : x27 = .bool false := hpre 27 (by kernel_rfl)
              subst e27
              have e29 : x29 = .pointer (some ⟨wr.heap.size, 1, none⟩) := hpre 29 (by kernel_rfl)
              subst e29
              exact wpOp_run (.int .i64 o4.at_) rfl (by kernel_rfl) (exec_load 3 rfl (by kernel_rfl) w3 (load3 hO.at1)) ⟨_, by kernel_rfl, rfl, Below.refl _ _⟩
            · have e27 : x27 = .bool false := hpre 27 (by kernel_rfl)
              subst e27
              exact wpOp_run (.pointer (some ⟨wr.heap.size, 2, none⟩)) rfl (by kernel_rfl) (by kernel_rfl) ⟨_, by kernel_rfl, rfl, Below.refl _ _⟩
            · have e27 : x27 = .bool false := hpre 27 (by kernel_rfl)
              subst e27
              have e31 : x31 = .pointer (some ⟨wr.heap.size, 2, none⟩) := hpre 31 (by kernel_rfl)
              subst e31
              exact wpOp_run (.int .i64 o4.n) rfl (by kernel_rfl) (exec_load 3 rfl (by kernel_rfl) w3 (load3 hO.at2)) ⟨_, by kernel_rfl, rfl, Below.refl _ _⟩
            · have e27 : x27 = .bool false := hpre 27 (by kernel_rfl)
              subst e27
              have e28 : x28 = .pointer (some ⟨c2, 0, none⟩) := hpre 28 (by kernel_rfl)
              subst e28
              have e30 : x30 = .int .i64 o4.at_ := hpre 30 (by kernel_rfl)
              subst e30
              have e32 : x32 = .int .i64 o4.n := hpre 32 (by kernel_rfl)
              subst e32
              refine wpOp_callR (R := fun u w4 => (∃ a cap, u = .slice a (partB m o4.at_ o4.n).length cap ∧ Row w4 a (partB m o4.at_ o4.n) cap) ∧ Below w3.heap.size w3 w4) 17 #[.pointer (some ⟨c2, 0, none⟩), .int .i64 o4.at_, .int .i64 o4.n] rfl (by kernel_rfl) (by kernel_rfl) ((bytes_any w3 c2 m q c o4.at_ o4.n hP).mono fun e w4 ⟨a, cap, he, hr, hb⟩ => ⟨_, he, ⟨a, cap, rfl, hr⟩, hb⟩) ?_
              rintro _ w4 ⟨⟨a, cap, rfl, hr⟩, hb⟩
              exact ⟨_, by kernel_rfl, ⟨a, cap, rfl, hr⟩, hb⟩
            · have e27 : x27 = .bool false := hpre 27 (by kernel_rfl)
              subst e27
              have f33 : ∃ a cap, x33 = .slice a (partB m o4.at_ o4.n).length cap ∧ Row w3 a (partB m o4.at_ o4.n) cap := hpre 33 (by kernel_rfl)
              obtain ⟨a33, cap33, e33, hr33⟩ := f33
              subst e33
              exact wpOp_run (.string ⟨(partB m o4.at_ o4.n).toArray⟩) rfl (by kernel_rfl) (exec_str (a := a33) (c := cap33) (partB m o4.at_ o4.n) rfl (by kernel_rfl) w3 hr33.lies) ⟨_, by kernel_rfl, rfl, Below.refl _ _⟩
            · have e27 : x27 = .bool false := hpre 27 (by kernel_rfl)
              subst e27
              exact wpOp_run (.pointer (some ⟨r, 0, none⟩)) rfl (by kernel_rfl) (exec_move rfl (by kernel_rfl) w3) ⟨_, by kernel_rfl, rfl, Below.refl _ _⟩
            · have e27 : x27 = .bool false := hpre 27 (by kernel_rfl)
              subst e27
              exact wpOp_run (.pointer (some ⟨wr.heap.size, 1, none⟩)) rfl (by kernel_rfl) (by kernel_rfl) ⟨_, by kernel_rfl, rfl, Below.refl _ _⟩
            · have e27 : x27 = .bool false := hpre 27 (by kernel_rfl)
              subst e27
              have e36 : x36 = .pointer (some ⟨wr.heap.size, 1, none⟩) := hpre 36 (by kernel_rfl)
              subst e36
              exact wpOp_run (.int .i64 o4.at_) rfl (by kernel_rfl) (exec_load 3 rfl (by kernel_rfl) w3 (load3 hO.at1)) ⟨_, by kernel_rfl, rfl, Below.refl _ _⟩
            · have e27 : x27 = .bool false := hpre 27 (by kernel_rfl)
              subst e27
              exact wpOp_run (.pointer (some ⟨wr.heap.size, 2, none⟩)) rfl (by kernel_rfl) (by kernel_rfl) ⟨_, by kernel_rfl, rfl, Below.refl _ _⟩
            · have e27 : x27 = .bool false := hpre 27 (by kernel_rfl)
              subst e27
              have e38 : x38 = .pointer (some ⟨wr.heap.size, 2, none⟩) := hpre 38 (by kernel_rfl)
              subst e38
              exact wpOp_run (.int .i64 o4.n) rfl (by kernel_rfl) (exec_load 3 rfl (by kernel_rfl) w3 (load3 hO.at2)) ⟨_, by kernel_rfl, rfl, Below.refl _ _⟩
            · have e27 : x27 = .bool false := hpre 27 (by kernel_rfl)
              subst e27
              have e35 : x35 = .pointer (some ⟨r, 0, none⟩) := hpre 35 (by kernel_rfl)
              subst e35
              have e37 : x37 = .int .i64 o4.at_ := hpre 37 (by kernel_rfl)
              subst e37
              have e39 : x39 = .int .i64 o4.n := hpre 39 (by kernel_rfl)
              subst e39
              refine wpOp_callR (R := fun u w4 => (∃ a cap, u = .slice a (partB m o4.at_ o4.n).length cap ∧ Row w4 a (partB m o4.at_ o4.n) cap) ∧ Below w3.heap.size w3 w4) 18 #[.pointer (some ⟨r, 0, none⟩), .int .i64 o4.at_, .int .i64 o4.n] rfl (by kernel_rfl) (by kernel_rfl) ((refBytes_any w3 r m q c o4.at_ o4.n hQ).mono fun e w4 ⟨a, cap, he, hr, hb⟩ => ⟨_, he, ⟨a, cap, rfl, hr⟩, hb⟩) ?_
              rintro _ w4 ⟨⟨a, cap, rfl, hr⟩, hb⟩
              exact ⟨_, by kernel_rfl, ⟨a, cap, rfl, hr⟩, hb⟩
            · have e27 : x27 = .bool false := hpre 27 (by kernel_rfl)
              subst e27
              have f40 : ∃ a cap, x40 = .slice a (partB m o4.at_ o4.n).length cap ∧ Row w3 a (partB m o4.at_ o4.n) cap := hpre 40 (by kernel_rfl)
              obtain ⟨a40, cap40, e40, hr40⟩ := f40
              subst e40
              exact wpOp_run (.string ⟨(partB m o4.at_ o4.n).toArray⟩) rfl (by kernel_rfl) (exec_str (a := a40) (c := cap40) (partB m o4.at_ o4.n) rfl (by kernel_rfl) w3 hr40.lies) ⟨_, by kernel_rfl, rfl, Below.refl _ _⟩
            · have e27 : x27 = .bool false := hpre 27 (by kernel_rfl)
              subst e27
              have e34 : x34 = .string ⟨(partB m o4.at_ o4.n).toArray⟩ := hpre 34 (by kernel_rfl)
              subst e34
              have e41 : x41 = .string ⟨(partB m o4.at_ o4.n).toArray⟩ := hpre 41 (by kernel_rfl)
              subst e41
              exact wpOp_run (.bool false) rfl (by kernel_rfl) (exec_neqS ⟨(partB m o4.at_ o4.n).toArray⟩ rfl (by kernel_rfl) (by kernel_rfl) w3) ⟨_, by kernel_rfl, rfl, Below.refl _ _⟩
            · have e27 : x27 = .bool false := hpre 27 (by kernel_rfl)
              subst e27
              have e42 : x42 = .bool false := hpre 42 (by kernel_rfl)
              subst e42
              exact wpOp_run (.bool false) rfl (by kernel_rfl) (by kernel_rfl) ⟨_, by kernel_rfl, rfl, Below.refl _ _⟩
          · intro xs w3 hxs hR hall
            obtain ⟨x0, x1, x2, x3, x4, x5, x6, x7, x8, x9, x10, x11, x12, x13, x14, x15, x16, x17, x18, x19, x20, x21, x22, x23, x24, x25, x26, x27, x28, x29, x30, x31, x32, x33, x34, x35, x36, x37, x38, x39, x40, x41, x42, x43, rfl⟩ := list44 xs hxs
            have e43 : x43 = .bool false := hall 43 (by omega)
            subst e43
            have HP6 := hidden ((Hid.out HP5).later hR)
            have HR6 := hidden ((Hid.out HR5).later hR)
            have HB6 := hidden ((Hid.out HB5).trans (hR.mono (Hid.out HB5).size))
            clear hall hR hxs
            simp only [slotsOn, putAll, List.set_cons_succ, List.set_cons_zero]
            go_wp2
            go_roundw
            case rel => first | exact ⟨k + 1, c2, m, q, c, by omega, by omega, by go_num, rfl, by omega, by omega, Hid.out HP6, Hid.out HR6, Hid.out HBR5, Hid.out HWB5, Hid.out HB6⟩ | ((repeat apply Exists.intro); exact ⟨⟨k + 1, c2, m, q, c, by omega, by omega, by go_num, rfl, by omega, by omega, Hid.out HP6, Hid.out HR6, Hid.out HBR5, Hid.out HWB5, Hid.out HB6⟩, rfl⟩)
            case measure => simp [intOf]; omega
        · have hK3' : (K == 3) = false := by simpa using hK3
          have hK4' : (K == 4) = false := by simpa using hK4
          have H11 := fun W h => hidden (setByte_any W b m q c o4.at_ o4.v hc0 (Hid.out hcs) h)
          have H12 := fun W h => hidden (refSetByte_any W r m q c o4.at_ o4.v hc0 (Hid.out hcs) h)
          have hcn := cntB_bd c o4.at_
          generalize setB m o4.at_ o4.v = m5 at H11 H12
          generalize cntB c o4.at_ = c5 at H11 H12 hcn
          go_wp2_with (first | (go_at_call 8; refine (Hid.out (H8 _)).mono ?_; rintro e w0 ⟨rfl, hww⟩; rw [hww]; clear hww w0) | (go_at_call 11; refine (Hid.out (H11 _ (Hid.out HP1))).mono ?_; rintro e w2 ⟨rfl, hp2, ho2⟩; have HP2 := hidden hp2; have HR2 := hidden (Pg.only (Hid.out HR1) ho2 (Ne.symm (Hid.out HBR))); have HO2 := hidden (Ob.only (Hid.out HO1) ho2 (Hid.out HOB)); have HB2 := hidden (Below.trans (Hid.out HB1) (Only.below ho2 (Hid.out HWB))); have hcx := Ob.at1 (Hid.out HO2); have hcv := Ob.at3 (Hid.out HO2); clear hp2 ho2) | (go_at_call 12; refine (Hid.out (H12 _ (Hid.out HR2))).mono ?_; rintro e w5 ⟨rfl, hr5, ho5⟩; have HR5 := hidden hr5; have HO := hidden ho5; clear hr5 ho5))
          have HP5 := hidden ((Hid.out HP2).only (Hid.out HO) (Hid.out HBR))
          have HO5 := hidden ((Hid.out HO2).only (Hid.out HO) (Hid.out HOR))
          have HB5 := hidden ((Hid.out HB2).trans ((Hid.out HO).below (Nat.le_of_lt (Hid.out hrP))))
          have HBR5 := HBR
          have HWB5 := HWB
          clear hcx hcv H11 H12
          refine wp_region_on later_below [64, 65, 66, 67, 68, 69, 70, 71, 72, 73, 74, 75, 76, 77, 78, 79, 80, 81, 82, 83, 84, 85, 86, 87, 88, 89, 90, 91, 92, 93, 94, 95, 96, 97, 98, 99, 100, 101, 102, 103, 104, 105, 106, 107] 44 (phiLook b r wr.heap.size m5 q c5 o4) (by kernel_rfl) (by kernel_rfl) rfl rfl (phiLook_mono b r wr.heap.size m5 q c5 o4) ?_ ?_
          · intro j hj xs w3 hxs hR hpre
            obtain ⟨x0, x1, x2, x3, x4, x5, x6, x7, x8, x9, x10, x11, x12, x13, x14, x15, x16, x17, x18, x19, x20, x21, x22, x23, x24, x25, x26, x27, x28, x29, x30, x31, x32, x33, x34, x35, x36, x37, x38, x39, x40, x41, x42, x43, rfl⟩ := list44 xs hxs
            have hP : Pg 51 w3 b m5 q c5 := (Hid.out HP5).later hR
            have hQ : Pg 33 w3 r m5 q c5 := (Hid.out HR5).later hR
            have hO : Ob w3 wr.heap.size o4 := (Hid.out HO5).later hR
            rcases (show j = 0 ∨ j = 1 ∨ j = 2 ∨ j = 3 ∨ j = 4 ∨ j = 5 ∨ j = 6 ∨ j = 7 ∨ j = 8 ∨ j = 9 ∨ j = 10 ∨ j = 11 ∨ j = 12 ∨ j = 13 ∨ j = 14 ∨ j = 15 ∨ j = 16 ∨ j = 17 ∨ j = 18 ∨ j = 19 ∨ j = 20 ∨ j = 21 ∨ j = 22 ∨ j = 23 ∨ j = 24 ∨ j = 25 ∨ j = 26 ∨ j = 27 ∨ j = 28 ∨ j = 29 ∨ j = 30 ∨ j = 31 ∨ j = 32 ∨ j = 33 ∨ j = 34 ∨ j = 35 ∨ j = 36 ∨ j = 37 ∨ j = 38 ∨ j = 39 ∨ j = 40 ∨ j = 41 ∨ j = 42 ∨ j = 43 by omega) with rfl | rfl | rfl | rfl | rfl | rfl | rfl | rfl | rfl | rfl | rfl | rfl | rfl | rfl | rfl | rfl | rfl | rfl | rfl | rfl | rfl | rfl | rfl | rfl | rfl | rfl | rfl | rfl | rfl | rfl | rfl | rfl | rfl | rfl | rfl | rfl | rfl | rfl | rfl | rfl | rfl | rfl | rfl | rfl
            · exact wpOp_run (.pointer (some ⟨b, 0, none⟩)) rfl (by kernel_rfl) (exec_move rfl (by kernel_rfl) w3) ⟨_, by kernel_rfl, rfl, Below.refl _ _⟩
            · exact wpOp_run (.pointer (some ⟨wr.heap.size, 1, none⟩)) rfl (by kernel_rfl) (by kernel_rfl) ⟨_, by kernel_rfl, rfl, Below.refl _ _⟩
            · have e1 : x1 = .pointer (some ⟨wr.heap.size, 1, none⟩) := hpre 1 (by kernel_rfl)
              subst e1
              exact wpOp_run (.int .i64 o4.at_) rfl (by kernel_rfl) (exec_load 3 rfl (by kernel_rfl) w3 (load3 hO.at1)) ⟨_, by kernel_rfl, rfl, Below.refl _ _⟩
            · have e0 : x0 = .pointer (some ⟨b, 0, none⟩) := hpre 0 (by kernel_rfl)
              subst e0
              have e2 : x2 = .int .i64 o4.at_ := hpre 2 (by kernel_rfl)
              subst e2
              refine wpOp_callR (R := fun u w4 => u = .int .u8 ((getB m5 o4.at_).toNat : Int) ∧ w4 = w3) 13 #[.pointer (some ⟨b, 0, none⟩), .int .i64 o4.at_] rfl (by kernel_rfl) (by kernel_rfl) ((byte_any w3 b m5 q c5 o4.at_ hP).mono fun e w4 ⟨he, hw⟩ => ⟨_, he, rfl, hw⟩) ?_
              rintro _ w4 ⟨rfl, hw⟩
              subst hw
              exact ⟨_, by kernel_rfl, rfl, Below.refl _ _⟩
            · exact wpOp_run (.pointer (some ⟨r, 0, none⟩)) rfl (by kernel_rfl) (exec_move rfl (by kernel_rfl) w3) ⟨_, by kernel_rfl, rfl, Below.refl _ _⟩
            · exact wpOp_run (.pointer (some ⟨wr.heap.size, 1, none⟩)) rfl (by kernel_rfl) (by kernel_rfl) ⟨_, by kernel_rfl, rfl, Below.refl _ _⟩
            · have e5 : x5 = .pointer (some ⟨wr.heap.size, 1, none⟩) := hpre 5 (by kernel_rfl)
              subst e5
              exact wpOp_run (.int .i64 o4.at_) rfl (by kernel_rfl) (exec_load 3 rfl (by kernel_rfl) w3 (load3 hO.at1)) ⟨_, by kernel_rfl, rfl, Below.refl _ _⟩
            · have e4 : x4 = .pointer (some ⟨r, 0, none⟩) := hpre 4 (by kernel_rfl)
              subst e4
              have e6 : x6 = .int .i64 o4.at_ := hpre 6 (by kernel_rfl)
              subst e6
              refine wpOp_callR (R := fun u w4 => u = .int .u8 ((getB m5 o4.at_).toNat : Int) ∧ w4 = w3) 14 #[.pointer (some ⟨r, 0, none⟩), .int .i64 o4.at_] rfl (by kernel_rfl) (by kernel_rfl) ((refByte_any w3 r m5 q c5 o4.at_ hQ).mono fun e w4 ⟨he, hw⟩ => ⟨_, he, rfl, hw⟩) ?_
              rintro _ w4 ⟨rfl, hw⟩
              subst hw
              exact ⟨_, by kernel_rfl, rfl, Below.refl _ _⟩
            · have e3 : x3 = .int .u8 ((getB m5 o4.at_).toNat : Int) := hpre 3 (by kernel_rfl)
              subst e3
              have e7 : x7 = .int .u8 ((getB m5 o4.at_).toNat : Int) := hpre 7 (by kernel_rfl)
              subst e7
              exact wpOp_run (.bool false) rfl (by kernel_rfl) (exec_neq (n := ((getB m5 o4.at_).toNat : Int)) 5 rfl Try.underlying5 (by kernel_rfl) (by kernel_rfl) w3) ⟨_, by kernel_rfl, rfl, Below.refl _ _⟩
            · have e8 : x8 = .bool false := hpre 8 (by kernel_rfl)
              subst e8
              exact wpOp_run (.bool false) rfl (by kernel_rfl) (exec_move rfl (by kernel_rfl) w3) ⟨_, by kernel_rfl, rfl, Below.refl _ _⟩
            · have e9 : x9 = .bool false := hpre 9 (by kernel_rfl)
              subst e9
              exact wpOp_run (.pointer (some ⟨b, 0, none⟩)) rfl (by kernel_rfl) (exec_move rfl (by kernel_rfl) w3) ⟨_, by kernel_rfl, rfl, Below.refl _ _⟩
            · have e9 : x9 = .bool false := hpre 9 (by kernel_rfl)
              subst e9
              have e10 : x10 = .pointer (some ⟨b, 0, none⟩) := hpre 10 (by kernel_rfl)
              subst e10
              refine wpOp_callR (R := fun u w4 => u = .int .i64 q ∧ w4 = w3) 15 #[.pointer (some ⟨b, 0, none⟩)] rfl (by kernel_rfl) (by kernel_rfl) ((perm_any w3 b m5 q c5 hP).mono fun e w4 ⟨he, hw⟩ => ⟨_, he, rfl, hw⟩) ?_
              rintro _ w4 ⟨rfl, hw⟩
              subst hw
              exact ⟨_, by kernel_rfl, rfl, Below.refl _ _⟩
            · have e9 : x9 = .bool false := hpre 9 (by kernel_rfl)
              subst e9
              exact wpOp_run (.pointer (some ⟨r, 0, none⟩)) rfl (by kernel_rfl) (exec_move rfl (by kernel_rfl) w3) ⟨_, by kernel_rfl, rfl, Below.refl _ _⟩
            · have e9 : x9 = .bool false := hpre 9 (by kernel_rfl)
              subst e9
              have e12 : x12 = .pointer (some ⟨r, 0, none⟩) := hpre 12 (by kernel_rfl)
              subst e12
              exact wpOp_run (.pointer (some ⟨r, 0, none⟩)) rfl (by kernel_rfl) (by kernel_rfl) ⟨_, by kernel_rfl, rfl, Below.refl _ _⟩
            · have e9 : x9 = .bool false := hpre 9 (by kernel_rfl)
              subst e9
              have e13 : x13 = .pointer (some ⟨r, 0, none⟩) := hpre 13 (by kernel_rfl)
              subst e13
              exact wpOp_run (.pointer (some ⟨r, 256, none⟩)) rfl (by kernel_rfl) (by kernel_rfl) ⟨_, by kernel_rfl, rfl, Below.refl _ _⟩
            · have e9 : x9 = .bool false := hpre 9 (by kernel_rfl)
              subst e9
              have e14 : x14 = .pointer (some ⟨r, 256, none⟩) := hpre 14 (by kernel_rfl)
              subst e14
              exact wpOp_run (.int .i64 q) rfl (by kernel_rfl) (exec_load 3 rfl (by kernel_rfl) w3 (load3 hQ.perm)) ⟨_, by kernel_rfl, rfl, Below.refl _ _⟩
            · have e9 : x9 = .bool false := hpre 9 (by kernel_rfl)
              subst e9
              have e11 : x11 = .int .i64 q := hpre 11 (by kernel_rfl)
              subst e11
              have e15 : x15 = .int .i64 q := hpre 15 (by kernel_rfl)
              subst e15
              exact wpOp_run (.bool false) rfl (by kernel_rfl) (exec_neq (n := q) 3 rfl Try.underlying3 (by kernel_rfl) (by kernel_rfl) w3) ⟨_, by kernel_rfl, rfl, Below.refl _ _⟩
            · have e9 : x9 = .bool false := hpre 9 (by kernel_rfl)
              subst e9
              have e16 : x16 = .bool false := hpre 16 (by kernel_rfl)
              subst e16
              exact wpOp_run (.bool false) rfl (by kernel_rfl) (by kernel_rfl) ⟨_, by kernel_rfl, rfl, Below.refl _ _⟩
            · have e17 : x17 = .bool false := hpre 17 (by kernel_rfl)
              subst e17
              exact wpOp_run (.bool false) rfl (by kernel_rfl) (exec_move rfl (by kernel_rfl) w3) ⟨_, by kernel_rfl, rfl, Below.refl _ _⟩
            · have e18 : x18 = .bool false := hpre 18 (by kernel_rfl)
              subst e18
              exact wpOp_run (.pointer (some ⟨b, 0, none⟩)) rfl (by kernel_rfl) (exec_move rfl (by kernel_rfl) w3) ⟨_, by kernel_rfl, rfl, Below.refl _ _⟩
            · have e18 : x18 = .bool false := hpre 18 (by kernel_rfl)
              subst e18
              have e19 : x19 = .pointer (some ⟨b, 0, none⟩) := hpre 19 (by kernel_rfl)
              subst e19
              refine wpOp_callR (R := fun u w4 => u = .int .i64 c5 ∧ w4 = w3) 16 #[.pointer (some ⟨b, 0, none⟩)] rfl (by kernel_rfl) (by kernel_rfl) ((writes_any w3 b m5 q c5 hP).mono fun e w4 ⟨he, hw⟩ => ⟨_, he, rfl, hw⟩) ?_
              rintro _ w4 ⟨rfl, hw⟩
              subst hw
              exact ⟨_, by kernel_rfl, rfl, Below.refl _ _⟩
            · have e18 : x18 = .bool false := hpre 18 (by kernel_rfl)
              subst e18
              exact wpOp_run (.pointer (some ⟨r, 0, none⟩)) rfl (by kernel_rfl) (exec_move rfl (by kernel_rfl) w3) ⟨_, by kernel_rfl, rfl, Below.refl _ _⟩
            · have e18 : x18 = .bool false := hpre 18 (by kernel_rfl)
              subst e18
              have e21 : x21 = .pointer (some ⟨r, 0, none⟩) := hpre 21 (by kernel_rfl)
              subst e21
              exact wpOp_run (.pointer (some ⟨r, 0, none⟩)) rfl (by kernel_rfl) (by kernel_rfl) ⟨_, by kernel_rfl, rfl, Below.refl _ _⟩
            · have e18 : x18 = .bool false := hpre 18 (by kernel_rfl)
              subst e18
              have e22 : x22 = .pointer (some ⟨r, 0, none⟩) := hpre 22 (by kernel_rfl)
              subst e22
              exact wpOp_run (.pointer (some ⟨r, 257, none⟩)) rfl (by kernel_rfl) (by kernel_rfl) ⟨_, by kernel_rfl, rfl, Below.refl _ _⟩
            · have e18 : x18 = .bool false := hpre 18 (by kernel_rfl)
              subst e18
              have e23 : x23 = .pointer (some ⟨r, 257, none⟩) := hpre 23 (by kernel_rfl)
              subst e23
              exact wpOp_run (.int .i64 c5) rfl (by kernel_rfl) (exec_load 3 rfl (by kernel_rfl) w3 (load3 hQ.count)) ⟨_, by kernel_rfl, rfl, Below.refl _ _⟩
            · have e18 : x18 = .bool false := hpre 18 (by kernel_rfl)
              subst e18
              have e20 : x20 = .int .i64 c5 := hpre 20 (by kernel_rfl)
              subst e20
              have e24 : x24 = .int .i64 c5 := hpre 24 (by kernel_rfl)
              subst e24
              exact wpOp_run (.bool false) rfl (by kernel_rfl) (exec_neq (n := c5) 3 rfl Try.underlying3 (by kernel_rfl) (by kernel_rfl) w3) ⟨_, by kernel_rfl, rfl, Below.refl _ _⟩
            · have e18 : x18 = .bool false := hpre 18 (by kernel_rfl)
              subst e18
              have e25 : x25 = .bool false := hpre 25 (by kernel_rfl)
              subst e25
              exact wpOp_run (.bool false) rfl (by kernel_rfl) (by kernel_rfl) ⟨_, by kernel_rfl, rfl, Below.refl _ _⟩
            · have e26 : x26 = .bool false := hpre 26 (by kernel_rfl)
              subst e26
              exact wpOp_run (.bool false) rfl (by kernel_rfl) (exec_move rfl (by kernel_rfl) w3) ⟨_, by kernel_rfl, rfl, Below.refl _ _⟩
            · have e27 : x27 = .bool false := hpre 27 (by kernel_rfl)
              subst e27
              exact wpOp_run (.pointer (some ⟨b, 0, none⟩)) rfl (by kernel_rfl) (exec_move rfl (by kernel_rfl) w3) ⟨_, by kernel_rfl, rfl, Below.refl _ _⟩
            · have e27 : x27 = .bool false := hpre 27 (by kernel_rfl)
              subst e27
              exact wpOp_run (.pointer (some ⟨wr.heap.size, 1, none⟩)) rfl (by kernel_rfl) (by kernel_rfl) ⟨_, by kernel_rfl, rfl, Below.refl _ _⟩
            · have e27 : x27 = .bool false := hpre 27 (by kernel_rfl)
              subst e27
              have e29 : x29 = .pointer (some ⟨wr.heap.size, 1, none⟩) := hpre 29 (by kernel_rfl)
              subst e29
              exact wpOp_run (.int .i64 o4.at_) rfl (by kernel_rfl) (exec_load 3 rfl (by kernel_rfl) w3 (load3 hO.at1)) ⟨_, by kernel_rfl, rfl, Below.refl _ _⟩
            · have e27 : x27 = .bool false := hpre 27 (by kernel_rfl)
              subst e27
              exact wpOp_run (.pointer (some ⟨wr.heap.size, 2, none⟩)) rfl (by kernel_rfl) (by kernel_rfl) ⟨_, by kernel_rfl, rfl, Below.refl _ _⟩
            · have e27 : x27 = .bool false := hpre 27 (by kernel_rfl)
              subst e27
              have e31 : x31 = .pointer (some ⟨wr.heap.size, 2, none⟩) := hpre 31 (by kernel_rfl)
              subst e31
              exact wpOp_run (.int .i64 o4.n) rfl (by kernel_rfl) (exec_load 3 rfl (by kernel_rfl) w3 (load3 hO.at2)) ⟨_, by kernel_rfl, rfl, Below.refl _ _⟩
            · have e27 : x27 = .bool false := hpre 27 (by kernel_rfl)
              subst e27
              have e28 : x28 = .pointer (some ⟨b, 0, none⟩) := hpre 28 (by kernel_rfl)
              subst e28
              have e30 : x30 = .int .i64 o4.at_ := hpre 30 (by kernel_rfl)
              subst e30
              have e32 : x32 = .int .i64 o4.n := hpre 32 (by kernel_rfl)
              subst e32
              refine wpOp_callR (R := fun u w4 => (∃ a cap, u = .slice a (partB m5 o4.at_ o4.n).length cap ∧ Row w4 a (partB m5 o4.at_ o4.n) cap) ∧ Below w3.heap.size w3 w4) 17 #[.pointer (some ⟨b, 0, none⟩), .int .i64 o4.at_, .int .i64 o4.n] rfl (by kernel_rfl) (by kernel_rfl) ((bytes_any w3 b m5 q c5 o4.at_ o4.n hP).mono fun e w4 ⟨a, cap, he, hr, hb⟩ => ⟨_, he, ⟨a, cap, rfl, hr⟩, hb⟩) ?_
              rintro _ w4 ⟨⟨a, cap, rfl, hr⟩, hb⟩
              exact ⟨_, by kernel_rfl, ⟨a, cap, rfl, hr⟩, hb⟩
            · have e27 : x27 = .bool false := hpre 27 (by kernel_rfl)
              subst e27
              have f33 : ∃ a cap, x33 = .slice a (partB m5 o4.at_ o4.n).length cap ∧ Row w3 a (partB m5 o4.at_ o4.n) cap := hpre 33 (by kernel_rfl)
              obtain ⟨a33, cap33, e33, hr33⟩ := f33
              subst e33
              exact wpOp_run (.string ⟨(partB m5 o4.at_ o4.n).toArray⟩) rfl (by kernel_rfl) (exec_str (a := a33) (c := cap33) (partB m5 o4.at_ o4.n) rfl (by kernel_rfl) w3 hr33.lies) ⟨_, by kernel_rfl, rfl, Below.refl _ _⟩
            · have e27 : x27 = .bool false := hpre 27 (by kernel_rfl)
              subst e27
              exact wpOp_run (.pointer (some ⟨r, 0, none⟩)) rfl (by kernel_rfl) (exec_move rfl (by kernel_rfl) w3) ⟨_, by kernel_rfl, rfl, Below.refl _ _⟩
            · have e27 : x27 = .bool false := hpre 27 (by kernel_rfl)
              subst e27
              exact wpOp_run (.pointer (some ⟨wr.heap.size, 1, none⟩)) rfl (by kernel_rfl) (by kernel_rfl) ⟨_, by kernel_rfl, rfl, Below.refl _ _⟩
            · have e27 : x27 = .bool false := hpre 27 (by kernel_rfl)
              subst e27
              have e36 : x36 = .pointer (some ⟨wr.heap.size, 1, none⟩) := hpre 36 (by kernel_rfl)
              subst e36
              exact wpOp_run (.int .i64 o4.at_) rfl (by kernel_rfl) (exec_load 3 rfl (by kernel_rfl) w3 (load3 hO.at1)) ⟨_, by kernel_rfl, rfl, Below.refl _ _⟩
            · have e27 : x27 = .bool false := hpre 27 (by kernel_rfl)
              subst e27
              exact wpOp_run (.pointer (some ⟨wr.heap.size, 2, none⟩)) rfl (by kernel_rfl) (by kernel_rfl) ⟨_, by kernel_rfl, rfl, Below.refl _ _⟩
            · have e27 : x27 = .bool false := hpre 27 (by kernel_rfl)
              subst e27
              have e38 : x38 = .pointer (some ⟨wr.heap.size, 2, none⟩) := hpre 38 (by kernel_rfl)
              subst e38
              exact wpOp_run (.int .i64 o4.n) rfl (by kernel_rfl) (exec_load 3 rfl (by kernel_rfl) w3 (load3 hO.at2)) ⟨_, by kernel_rfl, rfl, Below.refl _ _⟩
            · have e27 : x27 = .bool false := hpre 27 (by kernel_rfl)
              subst e27
              have e35 : x35 = .pointer (some ⟨r, 0, none⟩) := hpre 35 (by kernel_rfl)
              subst e35
              have e37 : x37 = .int .i64 o4.at_ := hpre 37 (by kernel_rfl)
              subst e37
              have e39 : x39 = .int .i64 o4.n := hpre 39 (by kernel_rfl)
              subst e39
              refine wpOp_callR (R := fun u w4 => (∃ a cap, u = .slice a (partB m5 o4.at_ o4.n).length cap ∧ Row w4 a (partB m5 o4.at_ o4.n) cap) ∧ Below w3.heap.size w3 w4) 18 #[.pointer (some ⟨r, 0, none⟩), .int .i64 o4.at_, .int .i64 o4.n] rfl (by kernel_rfl) (by kernel_rfl) ((refBytes_any w3 r m5 q c5 o4.at_ o4.n hQ).mono fun e w4 ⟨a, cap, he, hr, hb⟩ => ⟨_, he, ⟨a, cap, rfl, hr⟩, hb⟩) ?_
              rintro _ w4 ⟨⟨a, cap, rfl, hr⟩, hb⟩
              exact ⟨_, by kernel_rfl, ⟨a, cap, rfl, hr⟩, hb⟩
            · have e27 : x27 = .bool false := hpre 27 (by kernel_rfl)
              subst e27
              have f40 : ∃ a cap, x40 = .slice a (partB m5 o4.at_ o4.n).length cap ∧ Row w3 a (partB m5 o4.at_ o4.n) cap := hpre 40 (by kernel_rfl)
              obtain ⟨a40, cap40, e40, hr40⟩ := f40
              subst e40
              exact wpOp_run (.string ⟨(partB m5 o4.at_ o4.n).toArray⟩) rfl (by kernel_rfl) (exec_str (a := a40) (c := cap40) (partB m5 o4.at_ o4.n) rfl (by kernel_rfl) w3 hr40.lies) ⟨_, by kernel_rfl, rfl, Below.refl _ _⟩
            · have e27 : x27 = .bool false := hpre 27 (by kernel_rfl)
              subst e27
              have e34 : x34 = .string ⟨(partB m5 o4.at_ o4.n).toArray⟩ := hpre 34 (by kernel_rfl)
              subst e34
              have e41 : x41 = .string ⟨(partB m5 o4.at_ o4.n).toArray⟩ := hpre 41 (by kernel_rfl)
              subst e41
              exact wpOp_run (.bool false) rfl (by kernel_rfl) (exec_neqS ⟨(partB m5 o4.at_ o4.n).toArray⟩ rfl (by kernel_rfl) (by kernel_rfl) w3) ⟨_, by kernel_rfl, rfl, Below.refl _ _⟩
            · have e27 : x27 = .bool false := hpre 27 (by kernel_rfl)
              subst e27
              have e42 : x42 = .bool false := hpre 42 (by kernel_rfl)
              subst e42
              exact wpOp_run (.bool false) rfl (by kernel_rfl) (by kernel_rfl) ⟨_, by kernel_rfl, rfl, Below.refl _ _⟩
          · intro xs w3 hxs hR hall
            obtain ⟨x0, x1, x2, x3, x4, x5, x6, x7, x8, x9, x10, x11, x12, x13, x14, x15, x16, x17, x18, x19, x20, x21, x22, x23, x24, x25, x26, x27, x28, x29, x30, x31, x32, x33, x34, x35, x36, x37, x38, x39, x40, x41, x42, x43, rfl⟩ := list44 xs hxs
            have e43 : x43 = .bool false := hall 43 (by omega)
            subst e43
            have HP6 := hidden ((Hid.out HP5).later hR)
            have HR6 := hidden ((Hid.out HR5).later hR)
            have HB6 := hidden ((Hid.out HB5).trans (hR.mono (Hid.out HB5).size))
            clear hall hR hxs
            simp only [slotsOn, putAll, List.set_cons_succ, List.set_cons_zero]
            go_wp2
            go_roundw
            case rel => first | exact ⟨k + 1, b, m5, q, c5, by omega, by omega, by go_num, rfl, by omega, by omega, Hid.out HP6, Hid.out HR6, Hid.out HBR5, Hid.out HWB5, Hid.out HB6⟩ | ((repeat apply Exists.intro); exact ⟨⟨k + 1, b, m5, q, c5, by omega, by omega, by go_num, rfl, by omega, by omega, Hid.out HP6, Hid.out HR6, Hid.out HBR5, Hid.out HWB5, Hid.out HB6⟩, rfl⟩)
            case measure => simp [intOf]; omega
      · go_wp2
        refine wp_region_on later_below [108, 109, 110, 111, 112, 113, 114, 115, 116, 117, 4] 11 (phiEnd b r m) (by kernel_rfl) (by kernel_rfl) rfl rfl (phiEnd_mono b r m) ?_ ?_
        · intro j hj xs w3 hxs hR hpre
          obtain ⟨x0, x1, x2, x3, x4, x5, x6, x7, x8, x9, x10, rfl⟩ := list11 xs hxs
          have hP : Pg 51 w3 b m q c := (Hid.out HP).later hR
          have hQ : Pg 33 w3 r m q c := (Hid.out HR).later hR
          rcases (show j = 0 ∨ j = 1 ∨ j = 2 ∨ j = 3 ∨ j = 4 ∨ j = 5 ∨ j = 6 ∨ j = 7 ∨ j = 8 ∨ j = 9 ∨ j = 10 by omega) with rfl | rfl | rfl | rfl | rfl | rfl | rfl | rfl | rfl | rfl | rfl
          · exact wpOp_run (.pointer (some ⟨b, 0, none⟩)) rfl (by kernel_rfl) (exec_move rfl (by kernel_rfl) w3) ⟨_, by kernel_rfl, rfl, Below.refl _ _⟩
          · have e0 : x0 = .pointer (some ⟨b, 0, none⟩) := hpre 0 (by kernel_rfl)
            subst e0
            refine wpOp_callR (R := fun u w4 => (∃ a cap, u = .slice a (partB m 0 256).length cap ∧ Row w4 a (partB m 0 256) cap) ∧ Below w3.heap.size w3 w4) 17 #[.pointer (some ⟨b, 0, none⟩), .int .i64 0, .int .i64 256] rfl (by kernel_rfl) (by kernel_rfl) ((bytes_any w3 b m q c 0 256 hP).mono fun e w4 ⟨a, cap, he, hr, hb⟩ => ⟨_, he, ⟨a, cap, rfl, hr⟩, hb⟩) ?_
            rintro _ w4 ⟨⟨a, cap, rfl, hr⟩, hb⟩
            exact ⟨_, by kernel_rfl, ⟨a, cap, rfl, hr⟩, hb⟩
          · have f1 : ∃ a cap, x1 = .slice a (partB m 0 256).length cap ∧ Row w3 a (partB m 0 256) cap := hpre 1 (by kernel_rfl)
            obtain ⟨a1, cap1, e1, hr1⟩ := f1
            subst e1
            exact wpOp_run (.string ⟨(partB m 0 256).toArray⟩) rfl (by kernel_rfl) (exec_str (a := a1) (c := cap1) (partB m 0 256) rfl (by kernel_rfl) w3 hr1.lies) ⟨_, by kernel_rfl, rfl, Below.refl _ _⟩
          · exact wpOp_run (.pointer (some ⟨r, 0, none⟩)) rfl (by kernel_rfl) (exec_move rfl (by kernel_rfl) w3) ⟨_, by kernel_rfl, rfl, Below.refl _ _⟩
          · have e3 : x3 = .pointer (some ⟨r, 0, none⟩) := hpre 3 (by kernel_rfl)
            subst e3
            refine wpOp_callR (R := fun u w4 => (∃ a cap, u = .slice a (partB m 0 256).length cap ∧ Row w4 a (partB m 0 256) cap) ∧ Below w3.heap.size w3 w4) 18 #[.pointer (some ⟨r, 0, none⟩), .int .i64 0, .int .i64 256] rfl (by kernel_rfl) (by kernel_rfl) ((refBytes_any w3 r m q c 0 256 hQ).mono fun e w4 ⟨a, cap, he, hr, hb⟩ => ⟨_, he, ⟨a, cap, rfl, hr⟩, hb⟩) ?_
            rintro _ w4 ⟨⟨a, cap, rfl, hr⟩, hb⟩
            exact ⟨_, by kernel_rfl, ⟨a, cap, rfl, hr⟩, hb⟩
          · have f4 : ∃ a cap, x4 = .slice a (partB m 0 256).length cap ∧ Row w3 a (partB m 0 256) cap := hpre 4 (by kernel_rfl)
            obtain ⟨a4, cap4, e4, hr4⟩ := f4
            subst e4
            exact wpOp_run (.string ⟨(partB m 0 256).toArray⟩) rfl (by kernel_rfl) (exec_str (a := a4) (c := cap4) (partB m 0 256) rfl (by kernel_rfl) w3 hr4.lies) ⟨_, by kernel_rfl, rfl, Below.refl _ _⟩
          · have e2 : x2 = .string ⟨(partB m 0 256).toArray⟩ := hpre 2 (by kernel_rfl)
            subst e2
            have e5 : x5 = .string ⟨(partB m 0 256).toArray⟩ := hpre 5 (by kernel_rfl)
            subst e5
            exact wpOp_run (.bool true) rfl (by kernel_rfl) (exec_eqlS ⟨(partB m 0 256).toArray⟩ rfl (by kernel_rfl) (by kernel_rfl) w3) ⟨_, by kernel_rfl, rfl, Below.refl _ _⟩
          · have e6 : x6 = .bool true := hpre 6 (by kernel_rfl)
            subst e6
            exact wpOp_run (.bool true) rfl (by kernel_rfl) (exec_move rfl (by kernel_rfl) w3) ⟨_, by kernel_rfl, rfl, Below.refl _ _⟩
          · have e7 : x7 = .bool true := hpre 7 (by kernel_rfl)
            subst e7
            refine wpOp_callR (R := fun u w4 => u = .bool true ∧ Below w3.heap.size w3 w4) 19 #[] rfl (by kernel_rfl) (by kernel_rfl) ((awake_any w3).mono fun e w4 ⟨he, hb⟩ => ⟨_, he, rfl, hb⟩) ?_
            rintro _ w4 ⟨rfl, hb⟩
            exact ⟨_, by kernel_rfl, rfl, hb⟩
          · have e7 : x7 = .bool true := hpre 7 (by kernel_rfl)
            subst e7
            have e8 : x8 = .bool true := hpre 8 (by kernel_rfl)
            subst e8
            exact wpOp_run (.bool true) rfl (by kernel_rfl) (by kernel_rfl) ⟨_, by kernel_rfl, rfl, Below.refl _ _⟩
          · have e9 : x9 = .bool true := hpre 9 (by kernel_rfl)
            subst e9
            exact wpOp_run (.bool true) rfl (by kernel_rfl) (by kernel_rfl) ⟨_, by kernel_rfl, rfl, Below.refl _ _⟩
        · intro xs w3 hxs hR hall
          obtain ⟨x0, x1, x2, x3, x4, x5, x6, x7, x8, x9, x10, rfl⟩ := list11 xs hxs
          have e10 : x10 = .bool true := hall 10 (by omega)
          subst e10
          have HB6 := hidden ((Hid.out HB).trans (hR.mono (Hid.out HB).size))
          clear hall hR hxs
          simp only [slotsOn, putAll, List.set_cons_succ, List.set_cons_zero]
          go_wp2
          go_ret
          exact ⟨rfl, Hid.out HB6⟩
    · have hd : decide ((k : Int) < (len : Int)) = false := by simp; omega
      go_wp2
      refine wp_region_on later_below [108, 109, 110, 111, 112, 113, 114, 115, 116, 117, 4] 11 (phiEnd b r m) (by kernel_rfl) (by kernel_rfl) rfl rfl (phiEnd_mono b r m) ?_ ?_
      · intro j hj xs w3 hxs hR hpre
        obtain ⟨x0, x1, x2, x3, x4, x5, x6, x7, x8, x9, x10, rfl⟩ := list11 xs hxs
        have hP : Pg 51 w3 b m q c := (Hid.out HP).later hR
        have hQ : Pg 33 w3 r m q c := (Hid.out HR).later hR
        rcases (show j = 0 ∨ j = 1 ∨ j = 2 ∨ j = 3 ∨ j = 4 ∨ j = 5 ∨ j = 6 ∨ j = 7 ∨ j = 8 ∨ j = 9 ∨ j = 10 by omega) with rfl | rfl | rfl | rfl | rfl | rfl | rfl | rfl | rfl | rfl | rfl
        · exact wpOp_run (.pointer (some ⟨b, 0, none⟩)) rfl (by kernel_rfl) (exec_move rfl (by kernel_rfl) w3) ⟨_, by kernel_rfl, rfl, Below.refl _ _⟩
        · have e0 : x0 = .pointer (some ⟨b, 0, none⟩) := hpre 0 (by kernel_rfl)
          subst e0
          refine wpOp_callR (R := fun u w4 => (∃ a cap, u = .slice a (partB m 0 256).length cap ∧ Row w4 a (partB m 0 256) cap) ∧ Below w3.heap.size w3 w4) 17 #[.pointer (some ⟨b, 0, none⟩), .int .i64 0, .int .i64 256] rfl (by kernel_rfl) (by kernel_rfl) ((bytes_any w3 b m q c 0 256 hP).mono fun e w4 ⟨a, cap, he, hr, hb⟩ => ⟨_, he, ⟨a, cap, rfl, hr⟩, hb⟩) ?_
          rintro _ w4 ⟨⟨a, cap, rfl, hr⟩, hb⟩
          exact ⟨_, by kernel_rfl, ⟨a, cap, rfl, hr⟩, hb⟩
        · have f1 : ∃ a cap, x1 = .slice a (partB m 0 256).length cap ∧ Row w3 a (partB m 0 256) cap := hpre 1 (by kernel_rfl)
          obtain ⟨a1, cap1, e1, hr1⟩ := f1
          subst e1
          exact wpOp_run (.string ⟨(partB m 0 256).toArray⟩) rfl (by kernel_rfl) (exec_str (a := a1) (c := cap1) (partB m 0 256) rfl (by kernel_rfl) w3 hr1.lies) ⟨_, by kernel_rfl, rfl, Below.refl _ _⟩
        · exact wpOp_run (.pointer (some ⟨r, 0, none⟩)) rfl (by kernel_rfl) (exec_move rfl (by kernel_rfl) w3) ⟨_, by kernel_rfl, rfl, Below.refl _ _⟩
        · have e3 : x3 = .pointer (some ⟨r, 0, none⟩) := hpre 3 (by kernel_rfl)
          subst e3
          refine wpOp_callR (R := fun u w4 => (∃ a cap, u = .slice a (partB m 0 256).length cap ∧ Row w4 a (partB m 0 256) cap) ∧ Below w3.heap.size w3 w4) 18 #[.pointer (some ⟨r, 0, none⟩), .int .i64 0, .int .i64 256] rfl (by kernel_rfl) (by kernel_rfl) ((refBytes_any w3 r m q c 0 256 hQ).mono fun e w4 ⟨a, cap, he, hr, hb⟩ => ⟨_, he, ⟨a, cap, rfl, hr⟩, hb⟩) ?_
          rintro _ w4 ⟨⟨a, cap, rfl, hr⟩, hb⟩
          exact ⟨_, by kernel_rfl, ⟨a, cap, rfl, hr⟩, hb⟩
        · have f4 : ∃ a cap, x4 = .slice a (partB m 0 256).length cap ∧ Row w3 a (partB m 0 256) cap := hpre 4 (by kernel_rfl)
          obtain ⟨a4, cap4, e4, hr4⟩ := f4
          subst e4
          exact wpOp_run (.string ⟨(partB m 0 256).toArray⟩) rfl (by kernel_rfl) (exec_str (a := a4) (c := cap4) (partB m 0 256) rfl (by kernel_rfl) w3 hr4.lies) ⟨_, by kernel_rfl, rfl, Below.refl _ _⟩
        · have e2 : x2 = .string ⟨(partB m 0 256).toArray⟩ := hpre 2 (by kernel_rfl)
          subst e2
          have e5 : x5 = .string ⟨(partB m 0 256).toArray⟩ := hpre 5 (by kernel_rfl)
          subst e5
          exact wpOp_run (.bool true) rfl (by kernel_rfl) (exec_eqlS ⟨(partB m 0 256).toArray⟩ rfl (by kernel_rfl) (by kernel_rfl) w3) ⟨_, by kernel_rfl, rfl, Below.refl _ _⟩
        · have e6 : x6 = .bool true := hpre 6 (by kernel_rfl)
          subst e6
          exact wpOp_run (.bool true) rfl (by kernel_rfl) (exec_move rfl (by kernel_rfl) w3) ⟨_, by kernel_rfl, rfl, Below.refl _ _⟩
        · have e7 : x7 = .bool true := hpre 7 (by kernel_rfl)
          subst e7
          refine wpOp_callR (R := fun u w4 => u = .bool true ∧ Below w3.heap.size w3 w4) 19 #[] rfl (by kernel_rfl) (by kernel_rfl) ((awake_any w3).mono fun e w4 ⟨he, hb⟩ => ⟨_, he, rfl, hb⟩) ?_
          rintro _ w4 ⟨rfl, hb⟩
          exact ⟨_, by kernel_rfl, rfl, hb⟩
        · have e7 : x7 = .bool true := hpre 7 (by kernel_rfl)
          subst e7
          have e8 : x8 = .bool true := hpre 8 (by kernel_rfl)
          subst e8
          exact wpOp_run (.bool true) rfl (by kernel_rfl) (by kernel_rfl) ⟨_, by kernel_rfl, rfl, Below.refl _ _⟩
        · have e9 : x9 = .bool true := hpre 9 (by kernel_rfl)
          subst e9
          exact wpOp_run (.bool true) rfl (by kernel_rfl) (by kernel_rfl) ⟨_, by kernel_rfl, rfl, Below.refl _ _⟩
      · intro xs w3 hxs hR hall
        obtain ⟨x0, x1, x2, x3, x4, x5, x6, x7, x8, x9, x10, rfl⟩ := list11 xs hxs
        have e10 : x10 = .bool true := hall 10 (by omega)
        subst e10
        have HB6 := hidden ((Hid.out HB).trans (hR.mono (Hid.out HB).size))
        clear hall hR hxs
        simp only [slotsOn, putAll, List.set_cons_succ, List.set_cons_zero]
        go_wp2
        go_ret
        exact ⟨rfl, Hid.out HB6⟩
end Go.Proofs.Ytikjobjcpldhkaa

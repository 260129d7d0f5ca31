/- What Word answers at any place of any bytes; the own Word of chapter 1 answers the same. -/
import Derived.Test.YtocajlafdmfamaaWordA
import Derived.Test.YtocajlafdmfamaaWordB
namespace Go.Proofs.Ytocajlafdmfamaa
open Go.ChangeShapes Go.WideShapes Go.ChangeAt Go.RowKit
set_option linter.unusedVariables false
/-- The byte at a place, or 0 where there is none. -/
def byteAt (zs : List Int) (len : Nat) (p i : Int) : Int := if 0 ≤ p + i ∧ p + i < len then zs.getD (p + i).toNat 0 else 0
theorem byteAt_in {zs : List Int} {len : Nat} {p i : Int} (h1 : 0 ≤ p + i) (h2 : p + i < len) : byteAt zs len p i = zs.getD (p + i).toNat 0 := by unfold byteAt; rw [if_pos ⟨h1, h2⟩]
theorem byteAt_out {zs : List Int} {len : Nat} {p i : Int} (h : ¬ (0 ≤ p + i ∧ p + i < len)) : byteAt zs len p i = 0 := by unfold byteAt; rw [if_neg h]
/-- The bytes lie in memory that is there. -/
def Row8 (w : World) (a : Option Addr) (len : Nat) (zs : List Int) : Prop :=
  len = 0 ∨ ∃ b off, a = some ⟨b, off, none⟩ ∧ b < w.heap.size ∧ ∀ j, j < len → w.cell? ⟨b, off + j, none⟩ = some (.int .u8 (zs.getD j 0))
theorem row_some {w : World} {a : Option Addr} {len : Nat} {zs : List Int} (h : Row8 w a len zs) (hp : 0 < len) :
    ∃ b off, a = some ⟨b, off, none⟩ ∧ b < w.heap.size ∧ ∀ j, j < len → w.cell? ⟨b, off + j, none⟩ = some (.int .u8 (zs.getD j 0)) := by
  rcases h with h | h
  · omega
  · exact h
theorem row_later {w w1 : World} {a : Option Addr} {len : Nat} {zs : List Int} (hb : Below w.heap.size w w1) (h : Row8 w a len zs) : Row8 w1 a len zs := by
  rcases h with h | ⟨b, off, rfl, hlt, hc⟩
  · exact .inl h
  · exact .inr ⟨b, off, rfl, Nat.lt_of_lt_of_le hlt hb.size, fun j hj => by rw [hb.cell (p := ⟨b, off + j, none⟩) hlt]; exact hc j hj⟩
theorem word_any (a : Option Addr) (len cap : Nat) (zs : List Int) (p : Int) (w : World) (hr : Row8 w a len zs) (hz : ∀ j, 0 ≤ zs.getD j 0 ∧ zs.getD j 0 ≤ 255) (hl : len ≤ 140737488351232) (hlow : -9223372036854775808 ≤ p) (hhigh : p ≤ 9223372036854775807) :
    Calls Try.prog 31 #[.slice a len cap, .int .i64 p] w fun e w' => e = .returned (.int .u32 (word4 (byteAt zs len p 0) (byteAt zs len p 1) (byteAt zs len p 2) (byteAt zs len p 3))) ∧ Below w.heap.size w w' := by
  by_cases q4 : p ≤ -4
  · rw [show byteAt zs len p 0 = 0 from byteAt_out (by omega)]
    rw [show byteAt zs len p 1 = 0 from byteAt_out (by omega)]
    rw [show byteAt zs len p 2 = 0 from byteAt_out (by omega)]
    rw [show byteAt zs len p 3 = 0 from byteAt_out (by omega)]
    exact (word_A a len cap p w hl hlow (by omega)).mono fun e w' ⟨he, hw⟩ => ⟨he, by rw [hw]; exact (Below.refl _ _).alloc (Nat.le_refl _) _⟩
  · by_cases q3 : p ≤ -3
    · by_cases r0 : len ≤ 0
      · rw [show byteAt zs len p 0 = 0 from byteAt_out (by omega)]
        rw [show byteAt zs len p 1 = 0 from byteAt_out (by omega)]
        rw [show byteAt zs len p 2 = 0 from byteAt_out (by omega)]
        rw [show byteAt zs len p 3 = 0 from byteAt_out (by omega)]
        exact (word_L30 a len cap p w hl hlow (by omega) (by omega) (by omega) (by omega)).mono fun e w' ⟨he, hw⟩ => ⟨he, by rw [hw]; exact (Below.refl _ _).alloc (Nat.le_refl _) _⟩
      · rw [show byteAt zs len p 0 = 0 from byteAt_out (by omega)]
        rw [show byteAt zs len p 1 = 0 from byteAt_out (by omega)]
        rw [show byteAt zs len p 2 = 0 from byteAt_out (by omega)]
        rw [show byteAt zs len p 3 = zs.getD (p + 3).toNat 0 from byteAt_in (by omega) (by omega)]
        obtain ⟨b, off, rfl, hb, hc⟩ := row_some hr (by omega)
        exact (word_L31 b off len cap p w hl hlow hb (by omega) (by omega) (by omega) (zs.getD (p + 3).toNat 0) (hz _) (hc (p + 3).toNat (by omega))).mono fun e w' ⟨he, hw⟩ => ⟨he, by rw [hw]; exact (Below.refl _ _).alloc (Nat.le_refl _) _⟩
    · by_cases q2 : p ≤ -2
      · by_cases r0 : len ≤ 0
        · rw [show byteAt zs len p 0 = 0 from byteAt_out (by omega)]
          rw [show byteAt zs len p 1 = 0 from byteAt_out (by omega)]
          rw [show byteAt zs len p 2 = 0 from byteAt_out (by omega)]
          rw [show byteAt zs len p 3 = 0 from byteAt_out (by omega)]
          exact (word_L20 a len cap p w hl hlow (by omega) (by omega) (by omega) (by omega)).mono fun e w' ⟨he, hw⟩ => ⟨he, by rw [hw]; exact (Below.refl _ _).alloc (Nat.le_refl _) _⟩
        · by_cases r1 : len ≤ 1
          · rw [show byteAt zs len p 0 = 0 from byteAt_out (by omega)]
            rw [show byteAt zs len p 1 = 0 from byteAt_out (by omega)]
            rw [show byteAt zs len p 2 = zs.getD (p + 2).toNat 0 from byteAt_in (by omega) (by omega)]
            rw [show byteAt zs len p 3 = 0 from byteAt_out (by omega)]
            obtain ⟨b, off, rfl, hb, hc⟩ := row_some hr (by omega)
            exact (word_L21 b off len cap p w hl hlow hb (by omega) (by omega) (by omega) (by omega) (zs.getD (p + 2).toNat 0) (hz _) (hc (p + 2).toNat (by omega))).mono fun e w' ⟨he, hw⟩ => ⟨he, by rw [hw]; exact (Below.refl _ _).alloc (Nat.le_refl _) _⟩
          · rw [show byteAt zs len p 0 = 0 from byteAt_out (by omega)]
            rw [show byteAt zs len p 1 = 0 from byteAt_out (by omega)]
            rw [show byteAt zs len p 2 = zs.getD (p + 2).toNat 0 from byteAt_in (by omega) (by omega)]
            rw [show byteAt zs len p 3 = zs.getD (p + 3).toNat 0 from byteAt_in (by omega) (by omega)]
            obtain ⟨b, off, rfl, hb, hc⟩ := row_some hr (by omega)
            exact (word_L22 b off len cap p w hl hlow hb (by omega) (by omega) (by omega) (zs.getD (p + 2).toNat 0) (hz _) (hc (p + 2).toNat (by omega)) (zs.getD (p + 3).toNat 0) (hz _) (hc (p + 3).toNat (by omega))).mono fun e w' ⟨he, hw⟩ => ⟨he, by rw [hw]; exact (Below.refl _ _).alloc (Nat.le_refl _) _⟩
      · by_cases q1 : p ≤ -1
        · by_cases r0 : len ≤ 0
          · rw [show byteAt zs len p 0 = 0 from byteAt_out (by omega)]
            rw [show byteAt zs len p 1 = 0 from byteAt_out (by omega)]
            rw [show byteAt zs len p 2 = 0 from byteAt_out (by omega)]
            rw [show byteAt zs len p 3 = 0 from byteAt_out (by omega)]
            exact (word_L10 a len cap p w hl hlow (by omega) (by omega) (by omega) (by omega)).mono fun e w' ⟨he, hw⟩ => ⟨he, by rw [hw]; exact (Below.refl _ _).alloc (Nat.le_refl _) _⟩
          · by_cases r1 : len ≤ 1
            · rw [show byteAt zs len p 0 = 0 from byteAt_out (by omega)]
              rw [show byteAt zs len p 1 = zs.getD (p + 1).toNat 0 from byteAt_in (by omega) (by omega)]
              rw [show byteAt zs len p 2 = 0 from byteAt_out (by omega)]
              rw [show byteAt zs len p 3 = 0 from byteAt_out (by omega)]
              obtain ⟨b, off, rfl, hb, hc⟩ := row_some hr (by omega)
              exact (word_L11 b off len cap p w hl hlow hb (by omega) (by omega) (by omega) (by omega) (zs.getD (p + 1).toNat 0) (hz _) (hc (p + 1).toNat (by omega))).mono fun e w' ⟨he, hw⟩ => ⟨he, by rw [hw]; exact (Below.refl _ _).alloc (Nat.le_refl _) _⟩
            · by_cases r2 : len ≤ 2
              · rw [show byteAt zs len p 0 = 0 from byteAt_out (by omega)]
                rw [show byteAt zs len p 1 = zs.getD (p + 1).toNat 0 from byteAt_in (by omega) (by omega)]
                rw [show byteAt zs len p 2 = zs.getD (p + 2).toNat 0 from byteAt_in (by omega) (by omega)]
                rw [show byteAt zs len p 3 = 0 from byteAt_out (by omega)]
                obtain ⟨b, off, rfl, hb, hc⟩ := row_some hr (by omega)
                exact (word_L12 b off len cap p w hl hlow hb (by omega) (by omega) (by omega) (by omega) (zs.getD (p + 1).toNat 0) (hz _) (hc (p + 1).toNat (by omega)) (zs.getD (p + 2).toNat 0) (hz _) (hc (p + 2).toNat (by omega))).mono fun e w' ⟨he, hw⟩ => ⟨he, by rw [hw]; exact (Below.refl _ _).alloc (Nat.le_refl _) _⟩
              · rw [show byteAt zs len p 0 = 0 from byteAt_out (by omega)]
                rw [show byteAt zs len p 1 = zs.getD (p + 1).toNat 0 from byteAt_in (by omega) (by omega)]
                rw [show byteAt zs len p 2 = zs.getD (p + 2).toNat 0 from byteAt_in (by omega) (by omega)]
                rw [show byteAt zs len p 3 = zs.getD (p + 3).toNat 0 from byteAt_in (by omega) (by omega)]
                obtain ⟨b, off, rfl, hb, hc⟩ := row_some hr (by omega)
                exact (word_L13 b off len cap p w hl hlow hb (by omega) (by omega) (by omega) (zs.getD (p + 1).toNat 0) (hz _) (hc (p + 1).toNat (by omega)) (zs.getD (p + 2).toNat 0) (hz _) (hc (p + 2).toNat (by omega)) (zs.getD (p + 3).toNat 0) (hz _) (hc (p + 3).toNat (by omega))).mono fun e w' ⟨he, hw⟩ => ⟨he, by rw [hw]; exact (Below.refl _ _).alloc (Nat.le_refl _) _⟩
        · by_cases r4 : p + 3 < len
          · rw [show byteAt zs len p 0 = zs.getD (p + 0).toNat 0 from byteAt_in (by omega) (by omega)]
            rw [show byteAt zs len p 1 = zs.getD (p + 1).toNat 0 from byteAt_in (by omega) (by omega)]
            rw [show byteAt zs len p 2 = zs.getD (p + 2).toNat 0 from byteAt_in (by omega) (by omega)]
            rw [show byteAt zs len p 3 = zs.getD (p + 3).toNat 0 from byteAt_in (by omega) (by omega)]
            obtain ⟨b, off, rfl, hb, hc⟩ := row_some hr (by omega)
            exact (word_E4 b off len cap p w hl hlow hb (by omega) (by omega) (zs.getD (p + 0).toNat 0) (hz _) (by simpa using hc (p + 0).toNat (by omega)) (zs.getD (p + 1).toNat 0) (hz _) (hc (p + 1).toNat (by omega)) (zs.getD (p + 2).toNat 0) (hz _) (hc (p + 2).toNat (by omega)) (zs.getD (p + 3).toNat 0) (hz _) (hc (p + 3).toNat (by omega))).mono fun e w' ⟨he, hw⟩ => ⟨he, by rw [hw]; exact (Below.refl _ _).alloc (Nat.le_refl _) _⟩
          · by_cases r3 : p + 2 < len
            · rw [show byteAt zs len p 0 = zs.getD (p + 0).toNat 0 from byteAt_in (by omega) (by omega)]
              rw [show byteAt zs len p 1 = zs.getD (p + 1).toNat 0 from byteAt_in (by omega) (by omega)]
              rw [show byteAt zs len p 2 = zs.getD (p + 2).toNat 0 from byteAt_in (by omega) (by omega)]
              rw [show byteAt zs len p 3 = 0 from byteAt_out (by omega)]
              obtain ⟨b, off, rfl, hb, hc⟩ := row_some hr (by omega)
              exact (word_E3 b off len cap p w hl hlow hb (by omega) (by omega) (by omega) (zs.getD (p + 0).toNat 0) (hz _) (by simpa using hc (p + 0).toNat (by omega)) (zs.getD (p + 1).toNat 0) (hz _) (hc (p + 1).toNat (by omega)) (zs.getD (p + 2).toNat 0) (hz _) (hc (p + 2).toNat (by omega))).mono fun e w' ⟨he, hw⟩ => ⟨he, by rw [hw]; exact (Below.refl _ _).alloc (Nat.le_refl _) _⟩
            · by_cases r2 : p + 1 < len
              · rw [show byteAt zs len p 0 = zs.getD (p + 0).toNat 0 from byteAt_in (by omega) (by omega)]
                rw [show byteAt zs len p 1 = zs.getD (p + 1).toNat 0 from byteAt_in (by omega) (by omega)]
                rw [show byteAt zs len p 2 = 0 from byteAt_out (by omega)]
                rw [show byteAt zs len p 3 = 0 from byteAt_out (by omega)]
                obtain ⟨b, off, rfl, hb, hc⟩ := row_some hr (by omega)
                exact (word_E2 b off len cap p w hl hlow hb (by omega) (by omega) (by omega) (zs.getD (p + 0).toNat 0) (hz _) (by simpa using hc (p + 0).toNat (by omega)) (zs.getD (p + 1).toNat 0) (hz _) (hc (p + 1).toNat (by omega))).mono fun e w' ⟨he, hw⟩ => ⟨he, by rw [hw]; exact (Below.refl _ _).alloc (Nat.le_refl _) _⟩
              · by_cases r1 : p + 0 < len
                · rw [show byteAt zs len p 0 = zs.getD (p + 0).toNat 0 from byteAt_in (by omega) (by omega)]
                  rw [show byteAt zs len p 1 = 0 from byteAt_out (by omega)]
                  rw [show byteAt zs len p 2 = 0 from byteAt_out (by omega)]
                  rw [show byteAt zs len p 3 = 0 from byteAt_out (by omega)]
                  obtain ⟨b, off, rfl, hb, hc⟩ := row_some hr (by omega)
                  exact (word_E1 b off len cap p w hl hlow hb (by omega) (by omega) (by omega) (zs.getD (p + 0).toNat 0) (hz _) (by simpa using hc (p + 0).toNat (by omega))).mono fun e w' ⟨he, hw⟩ => ⟨he, by rw [hw]; exact (Below.refl _ _).alloc (Nat.le_refl _) _⟩
                · by_cases f0 : p ≤ 9223372036854775804
                  · rw [show byteAt zs len p 0 = 0 from byteAt_out (by omega)]
                    rw [show byteAt zs len p 1 = 0 from byteAt_out (by omega)]
                    rw [show byteAt zs len p 2 = 0 from byteAt_out (by omega)]
                    rw [show byteAt zs len p 3 = 0 from byteAt_out (by omega)]
                    exact (word_E0 a len cap p w hl hlow (by omega) (by omega) (by omega)).mono fun e w' ⟨he, hw⟩ => ⟨he, by rw [hw]; exact (Below.refl _ _).alloc (Nat.le_refl _) _⟩
                  · by_cases f1 : p ≤ 9223372036854775805
                    · rw [show byteAt zs len p 0 = 0 from byteAt_out (by omega)]
                      rw [show byteAt zs len p 1 = 0 from byteAt_out (by omega)]
                      rw [show byteAt zs len p 2 = 0 from byteAt_out (by omega)]
                      rw [show byteAt zs len p 3 = 0 from byteAt_out (by omega)]
                      exact (word_F1 a len cap p w hl hlow (by omega) (by omega)).mono fun e w' ⟨he, hw⟩ => ⟨he, by rw [hw]; exact (Below.refl _ _).alloc (Nat.le_refl _) _⟩
                    · by_cases f2 : p ≤ 9223372036854775806
                      · rw [show byteAt zs len p 0 = 0 from byteAt_out (by omega)]
                        rw [show byteAt zs len p 1 = 0 from byteAt_out (by omega)]
                        rw [show byteAt zs len p 2 = 0 from byteAt_out (by omega)]
                        rw [show byteAt zs len p 3 = 0 from byteAt_out (by omega)]
                        exact (word_F2 a len cap p w hl hlow (by omega) (by omega)).mono fun e w' ⟨he, hw⟩ => ⟨he, by rw [hw]; exact (Below.refl _ _).alloc (Nat.le_refl _) _⟩
                      · rw [show byteAt zs len p 0 = 0 from byteAt_out (by omega)]
                        rw [show byteAt zs len p 1 = 0 from byteAt_out (by omega)]
                        rw [show byteAt zs len p 2 = 0 from byteAt_out (by omega)]
                        rw [show byteAt zs len p 3 = 0 from byteAt_out (by omega)]
                        exact (word_F3 a len cap p w hl hlow (by omega) (by omega)).mono fun e w' ⟨he, hw⟩ => ⟨he, by rw [hw]; exact (Below.refl _ _).alloc (Nat.le_refl _) _⟩
theorem refWord_any (a : Option Addr) (len cap : Nat) (zs : List Int) (p : Int) (w : World) (hr : Row8 w a len zs) (hz : ∀ j, 0 ≤ zs.getD j 0 ∧ zs.getD j 0 ≤ 255) (hl : len ≤ 140737488351232) (hlow : -9223372036854775808 ≤ p) (hhigh : p ≤ 9223372036854775807) :
    Calls Try.prog 32 #[.slice a len cap, .int .i64 p] w fun e w' => e = .returned (.int .u32 (word4 (byteAt zs len p 0) (byteAt zs len p 1) (byteAt zs len p 2) (byteAt zs len p 3))) ∧ w' = w := by
  by_cases q4 : p ≤ -4
  · rw [show byteAt zs len p 0 = 0 from byteAt_out (by omega)]
    rw [show byteAt zs len p 1 = 0 from byteAt_out (by omega)]
    rw [show byteAt zs len p 2 = 0 from byteAt_out (by omega)]
    rw [show byteAt zs len p 3 = 0 from byteAt_out (by omega)]
    exact rword_A a len cap p w hl hlow (by omega)
  · by_cases q3 : p ≤ -3
    · by_cases r0 : len ≤ 0
      · rw [show byteAt zs len p 0 = 0 from byteAt_out (by omega)]
        rw [show byteAt zs len p 1 = 0 from byteAt_out (by omega)]
        rw [show byteAt zs len p 2 = 0 from byteAt_out (by omega)]
        rw [show byteAt zs len p 3 = 0 from byteAt_out (by omega)]
        exact rword_L30 a len cap p w hl hlow (by omega) (by omega) (by omega) (by omega)
      · rw [show byteAt zs len p 0 = 0 from byteAt_out (by omega)]
        rw [show byteAt zs len p 1 = 0 from byteAt_out (by omega)]
        rw [show byteAt zs len p 2 = 0 from byteAt_out (by omega)]
        rw [show byteAt zs len p 3 = zs.getD (p + 3).toNat 0 from byteAt_in (by omega) (by omega)]
        obtain ⟨b, off, rfl, hb, hc⟩ := row_some hr (by omega)
        exact rword_L31 b off len cap p w hl hlow hb (by omega) (by omega) (by omega) (zs.getD (p + 3).toNat 0) (hz _) (hc (p + 3).toNat (by omega))
    · by_cases q2 : p ≤ -2
      · by_cases r0 : len ≤ 0
        · rw [show byteAt zs len p 0 = 0 from byteAt_out (by omega)]
          rw [show byteAt zs len p 1 = 0 from byteAt_out (by omega)]
          rw [show byteAt zs len p 2 = 0 from byteAt_out (by omega)]
          rw [show byteAt zs len p 3 = 0 from byteAt_out (by omega)]
          exact rword_L20 a len cap p w hl hlow (by omega) (by omega) (by omega) (by omega)
        · by_cases r1 : len ≤ 1
          · rw [show byteAt zs len p 0 = 0 from byteAt_out (by omega)]
            rw [show byteAt zs len p 1 = 0 from byteAt_out (by omega)]
            rw [show byteAt zs len p 2 = zs.getD (p + 2).toNat 0 from byteAt_in (by omega) (by omega)]
            rw [show byteAt zs len p 3 = 0 from byteAt_out (by omega)]
            obtain ⟨b, off, rfl, hb, hc⟩ := row_some hr (by omega)
            exact rword_L21 b off len cap p w hl hlow hb (by omega) (by omega) (by omega) (by omega) (zs.getD (p + 2).toNat 0) (hz _) (hc (p + 2).toNat (by omega))
          · rw [show byteAt zs len p 0 = 0 from byteAt_out (by omega)]
            rw [show byteAt zs len p 1 = 0 from byteAt_out (by omega)]
            rw [show byteAt zs len p 2 = zs.getD (p + 2).toNat 0 from byteAt_in (by omega) (by omega)]
            rw [show byteAt zs len p 3 = zs.getD (p + 3).toNat 0 from byteAt_in (by omega) (by omega)]
            obtain ⟨b, off, rfl, hb, hc⟩ := row_some hr (by omega)
            exact rword_L22 b off len cap p w hl hlow hb (by omega) (by omega) (by omega) (zs.getD (p + 2).toNat 0) (hz _) (hc (p + 2).toNat (by omega)) (zs.getD (p + 3).toNat 0) (hz _) (hc (p + 3).toNat (by omega))
      · by_cases q1 : p ≤ -1
        · by_cases r0 : len ≤ 0
          · rw [show byteAt zs len p 0 = 0 from byteAt_out (by omega)]
            rw [show byteAt zs len p 1 = 0 from byteAt_out (by omega)]
            rw [show byteAt zs len p 2 = 0 from byteAt_out (by omega)]
            rw [show byteAt zs len p 3 = 0 from byteAt_out (by omega)]
            exact rword_L10 a len cap p w hl hlow (by omega) (by omega) (by omega) (by omega)
          · by_cases r1 : len ≤ 1
            · rw [show byteAt zs len p 0 = 0 from byteAt_out (by omega)]
              rw [show byteAt zs len p 1 = zs.getD (p + 1).toNat 0 from byteAt_in (by omega) (by omega)]
              rw [show byteAt zs len p 2 = 0 from byteAt_out (by omega)]
              rw [show byteAt zs len p 3 = 0 from byteAt_out (by omega)]
              obtain ⟨b, off, rfl, hb, hc⟩ := row_some hr (by omega)
              exact rword_L11 b off len cap p w hl hlow hb (by omega) (by omega) (by omega) (by omega) (zs.getD (p + 1).toNat 0) (hz _) (hc (p + 1).toNat (by omega))
            · by_cases r2 : len ≤ 2
              · rw [show byteAt zs len p 0 = 0 from byteAt_out (by omega)]
                rw [show byteAt zs len p 1 = zs.getD (p + 1).toNat 0 from byteAt_in (by omega) (by omega)]
                rw [show byteAt zs len p 2 = zs.getD (p + 2).toNat 0 from byteAt_in (by omega) (by omega)]
                rw [show byteAt zs len p 3 = 0 from byteAt_out (by omega)]
                obtain ⟨b, off, rfl, hb, hc⟩ := row_some hr (by omega)
                exact rword_L12 b off len cap p w hl hlow hb (by omega) (by omega) (by omega) (by omega) (zs.getD (p + 1).toNat 0) (hz _) (hc (p + 1).toNat (by omega)) (zs.getD (p + 2).toNat 0) (hz _) (hc (p + 2).toNat (by omega))
              · rw [show byteAt zs len p 0 = 0 from byteAt_out (by omega)]
                rw [show byteAt zs len p 1 = zs.getD (p + 1).toNat 0 from byteAt_in (by omega) (by omega)]
                rw [show byteAt zs len p 2 = zs.getD (p + 2).toNat 0 from byteAt_in (by omega) (by omega)]
                rw [show byteAt zs len p 3 = zs.getD (p + 3).toNat 0 from byteAt_in (by omega) (by omega)]
                obtain ⟨b, off, rfl, hb, hc⟩ := row_some hr (by omega)
                exact rword_L13 b off len cap p w hl hlow hb (by omega) (by omega) (by omega) (zs.getD (p + 1).toNat 0) (hz _) (hc (p + 1).toNat (by omega)) (zs.getD (p + 2).toNat 0) (hz _) (hc (p + 2).toNat (by omega)) (zs.getD (p + 3).toNat 0) (hz _) (hc (p + 3).toNat (by omega))
        · by_cases r4 : p + 3 < len
          · rw [show byteAt zs len p 0 = zs.getD (p + 0).toNat 0 from byteAt_in (by omega) (by omega)]
            rw [show byteAt zs len p 1 = zs.getD (p + 1).toNat 0 from byteAt_in (by omega) (by omega)]
            rw [show byteAt zs len p 2 = zs.getD (p + 2).toNat 0 from byteAt_in (by omega) (by omega)]
            rw [show byteAt zs len p 3 = zs.getD (p + 3).toNat 0 from byteAt_in (by omega) (by omega)]
            obtain ⟨b, off, rfl, hb, hc⟩ := row_some hr (by omega)
            exact rword_E4 b off len cap p w hl hlow hb (by omega) (by omega) (zs.getD (p + 0).toNat 0) (hz _) (by simpa using hc (p + 0).toNat (by omega)) (zs.getD (p + 1).toNat 0) (hz _) (hc (p + 1).toNat (by omega)) (zs.getD (p + 2).toNat 0) (hz _) (hc (p + 2).toNat (by omega)) (zs.getD (p + 3).toNat 0) (hz _) (hc (p + 3).toNat (by omega))
          · by_cases r3 : p + 2 < len
            · rw [show byteAt zs len p 0 = zs.getD (p + 0).toNat 0 from byteAt_in (by omega) (by omega)]
              rw [show byteAt zs len p 1 = zs.getD (p + 1).toNat 0 from byteAt_in (by omega) (by omega)]
              rw [show byteAt zs len p 2 = zs.getD (p + 2).toNat 0 from byteAt_in (by omega) (by omega)]
              rw [show byteAt zs len p 3 = 0 from byteAt_out (by omega)]
              obtain ⟨b, off, rfl, hb, hc⟩ := row_some hr (by omega)
              exact rword_E3 b off len cap p w hl hlow hb (by omega) (by omega) (by omega) (zs.getD (p + 0).toNat 0) (hz _) (by simpa using hc (p + 0).toNat (by omega)) (zs.getD (p + 1).toNat 0) (hz _) (hc (p + 1).toNat (by omega)) (zs.getD (p + 2).toNat 0) (hz _) (hc (p + 2).toNat (by omega))
            · by_cases r2 : p + 1 < len
              · rw [show byteAt zs len p 0 = zs.getD (p + 0).toNat 0 from byteAt_in (by omega) (by omega)]
                rw [show byteAt zs len p 1 = zs.getD (p + 1).toNat 0 from byteAt_in (by omega) (by omega)]
                rw [show byteAt zs len p 2 = 0 from byteAt_out (by omega)]
                rw [show byteAt zs len p 3 = 0 from byteAt_out (by omega)]
                obtain ⟨b, off, rfl, hb, hc⟩ := row_some hr (by omega)
                exact rword_E2 b off len cap p w hl hlow hb (by omega) (by omega) (by omega) (zs.getD (p + 0).toNat 0) (hz _) (by simpa using hc (p + 0).toNat (by omega)) (zs.getD (p + 1).toNat 0) (hz _) (hc (p + 1).toNat (by omega))
              · by_cases r1 : p + 0 < len
                · rw [show byteAt zs len p 0 = zs.getD (p + 0).toNat 0 from byteAt_in (by omega) (by omega)]
                  rw [show byteAt zs len p 1 = 0 from byteAt_out (by omega)]
                  rw [show byteAt zs len p 2 = 0 from byteAt_out (by omega)]
                  rw [show byteAt zs len p 3 = 0 from byteAt_out (by omega)]
                  obtain ⟨b, off, rfl, hb, hc⟩ := row_some hr (by omega)
                  exact rword_E1 b off len cap p w hl hlow hb (by omega) (by omega) (by omega) (zs.getD (p + 0).toNat 0) (hz _) (by simpa using hc (p + 0).toNat (by omega))
                · rw [show byteAt zs len p 0 = 0 from byteAt_out (by omega)]
                  rw [show byteAt zs len p 1 = 0 from byteAt_out (by omega)]
                  rw [show byteAt zs len p 2 = 0 from byteAt_out (by omega)]
                  rw [show byteAt zs len p 3 = 0 from byteAt_out (by omega)]
                  exact rword_E0 a len cap p w hl hlow (by omega) (by omega)
end Go.Proofs.Ytocajlafdmfamaa

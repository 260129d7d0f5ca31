/- What GetText answers, and the own answer of chapter 3 to it, walked over their text. -/
import Derived.Test.YtokicdmbibbkpaaRefGet
import Derived.Test.YtokicdmbibbkpaaTexts
namespace Go.Proofs.Ytokicdmbibbkpaa
open Go.ChangeShapes Go.WideShapes Go.ChangeAt Go.RowKit
set_option linter.unusedVariables false
/-- GetText: of any place, of any length at most. -/
def getT (l : List UInt8) (at_ most : Int) : List UInt8 × Nat × Nat :=
  if (getI l at_).2.2 ≠ 0 then ([], 0, (getI l at_).2.2)
  else if most < 0 ∨ most < ((getI l at_).1 : Int) then ([], 0, 2)
  else if l.length - (getI l at_).2.1 < (getI l at_).1 then ([], 0, 3)
  else ((l.drop (getI l at_).2.1).take (getI l at_).1, (getI l at_).2.1 + (getI l at_).1, 0)
def tupT (r : List UInt8 × Nat × Nat) : Value := .tuple #[.string ⟨r.1.toArray⟩, .int .i64 (r.2.1 : Int), .int .i64 (r.2.2 : Int)]
theorem dec_fits (k : Nat) : ∀ (t : List UInt8) (i acc : Nat), i ≤ 9 → acc < 2 ^ (7 * i) → (dec k i acc t).2.2 = 0 → (dec k i acc t).1 < 18446744073709551616 ∧ (dec k i acc t).2.1 ≤ k + i + t.length := by
  intro t
  induction t with
  | nil => intro i acc _ _ h; simp [dec] at h
  | cons x t ih =>
    intro i acc hi ha h
    unfold dec at h ⊢
    by_cases c1 : i = 9 ∧ 1 < x.toNat
    · rw [if_pos c1] at h; simp at h
    · rw [if_neg c1] at h ⊢
      by_cases c2 : 128 ≤ x.toNat
      · rw [if_pos c2] at h ⊢
        have := ih (i + 1) _ (by omega) (acc_lt (x := x.toNat) ha) h
        simp only [List.length_cons]
        omega
      · rw [if_neg c2] at h ⊢
        by_cases c3 : x.toNat = 0 ∧ 0 < i
        · rw [if_pos c3] at h; simp at h
        · rw [if_neg c3]
          have := sum_lt hi c1 ha
          simp only [List.length_cons]
          omega
theorem getI_fits (l : List UInt8) (at_ : Int) : (getI l at_).2.2 = 0 → (getI l at_).1 < 18446744073709551616 ∧ (getI l at_).2.1 ≤ l.length := by
  intro h
  by_cases c : at_ < 0 ∨ (l.length : Int) < at_
  · rw [getI_out c] at h; simp at h
  · obtain ⟨k, rfl⟩ := Int.eq_ofNat_of_zero_le (show 0 ≤ at_ by omega)
    rw [getI_in (by omega)] at h ⊢
    have := dec_fits k _ 0 0 (by omega) (by simp) h
    rw [List.length_drop] at this
    omega
theorem part_str (w : World) (b off : Nat) (l : List UInt8) (nx v : Nat) (h : nx + v ≤ l.length) (hc : ∀ j, j < l.length → w.cell? ⟨b, off + j, none⟩ = some (.int .u8 ((l.getD j 0).toNat : Int))) (c : Nat) :
    (convert 22 9 (.slice (some ⟨b, off + nx, none⟩) v c)).run Try.prog w = .ok (.string ⟨((l.drop nx).take v).toArray⟩) w := by
  have e : ((l.drop nx).take v).length = v := by simp; omega
  have hs := run_str w (some ⟨b, off + nx, none⟩) ((l.drop nx).take v) c (.inr ⟨b, off + nx, rfl, fun j hj => by
    have hj2 : j < v := by omega
    have := hc (nx + j) (by omega)
    rw [← Nat.add_assoc] at this
    rw [this]
    congr 3
    simp [List.getD_eq_getElem?_getD, hj2]⟩)
  rw [e] at hs
  exact hs
set_option maxRecDepth 20000 in
set_option maxHeartbeats 400000 in
theorem getText_any (ao : Option Addr) (cap : Nat) (l : List UInt8) (at_ most : Int) (hm1 : -9223372036854775808 ≤ most) (hm2 : most ≤ 9223372036854775807) (w : World) (hl : Row w ao l cap) (hlen : l.length ≤ 140737488355328) :
    Calls Try.prog 13 #[.slice ao l.length cap, .int .i64 at_, .int .i64 most] w fun e w' => e = .returned (tupT (getT l at_ most)) ∧ w' = w := by
  have hg := getI_fits l at_
  have H := get_any ao cap l at_ w hl hlen
  unfold getT
  generalize getI l at_ = r at hg H
  obtain ⟨v, nx, er⟩ := r
  simp only [] at hg ⊢
  unfold tup at H
  simp only [] at H
  have hll := hl.len
  have hlm : cap ≤ 9223372036854775807 := hl.max
  have HL := hidden hl
  clear hl
  by_cases c1 : er = 0
  · subst c1
    obtain ⟨hv, hnx⟩ := hg rfl
    rw [if_neg (by omega)]
    by_cases c2 : most < 0 ∨ most < (v : Int)
    · rw [if_pos c2]
      by_cases c0 : most < 0
      · clear c2
        go_enter Try.func13, Try.ntmps13
        go_wp2_with (go_at_call 11; refine H.mono ?_; rintro e w' ⟨rfl, rfl⟩)
        go_ret3
        exact ⟨rfl, rfl⟩
      · have c3 : most < (v : Int) := by omega
        clear c2
        go_enter Try.func13, Try.ntmps13
        go_wp2_with (go_at_call 11; refine H.mono ?_; rintro e w' ⟨rfl, rfl⟩)
        go_ret3
        exact ⟨rfl, rfl⟩
    · rw [if_neg c2]
      have c4 : 0 ≤ most := by omega
      have c5 : (v : Int) ≤ most := by omega
      clear c2
      by_cases c6 : l.length - nx < v
      · rw [if_pos c6]
        have c7 : (l.length : Int) - (nx : Int) < (v : Int) := by omega
        go_enter Try.func13, Try.ntmps13
        go_wp2_with (go_at_call 11; refine H.mono ?_; rintro e w' ⟨rfl, rfl⟩)
        go_ret3
        exact ⟨rfl, rfl⟩
      · rw [if_neg c6]
        have c7 : (v : Int) ≤ (l.length : Int) - (nx : Int) := by omega
        have hvn : v ≤ 140737488355328 := by omega
        by_cases c8 : v = 0
        · subst c8
          have he : ∀ (a : Option Addr) (c : Nat), (convert 22 9 (.slice a 0 c)).run Try.prog w = .ok (.string ⟨#[]⟩) w := fun a c => run_str w a [] c (.inl rfl)
          by_cases c9 : cap = nx
          · subst c9
            go_enter Try.func13, Try.ntmps13
            go_wp2_with (go_at_call 11; refine H.mono ?_; rintro e w' ⟨rfl, rfl⟩)
            go_ret3
            exact ⟨rfl, rfl⟩
          · have c9z := c9
            go_enter Try.func13, Try.ntmps13
            go_wp2_with (go_at_call 11; refine H.mono ?_; rintro e w' ⟨rfl, rfl⟩)
            go_ret3
            exact ⟨rfl, rfl⟩
        · obtain ⟨b, off, rfl, hc⟩ : ∃ b off, ao = some ⟨b, off, none⟩ ∧ ∀ j, j < l.length → w.cell? ⟨b, off + j, none⟩ = some (.int .u8 ((l.getD j 0).toNat : Int)) := by
            rcases (Row.lies (Hid.out HL)) with h | h
            · subst h; simp at c6; omega
            · exact h
          have hcv := part_str w b off l nx v (by omega) hc
          have c9 : ¬ cap = nx := by omega
          clear hc HL
          go_enter Try.func13, Try.ntmps13
          go_wp2_with (go_at_call 11; refine H.mono ?_; rintro e w' ⟨rfl, rfl⟩)
          go_ret3
          exact ⟨rfl, rfl⟩
  · rw [if_pos c1]
    have ce : ((er : Int) == 0) = false := beq_eq_false_iff_ne.2 (by omega)
    go_enter Try.func13, Try.ntmps13
    go_wp2_with (go_at_call 11; refine H.mono ?_; rintro e w' ⟨rfl, rfl⟩)
    go_ret3
    exact ⟨rfl, rfl⟩
set_option maxRecDepth 20000 in
set_option maxHeartbeats 4000000 in
theorem refGetText_any (ao : Option Addr) (cap : Nat) (l : List UInt8) (at_ most : Int) (hm1 : -9223372036854775808 ≤ most) (hm2 : most ≤ 9223372036854775807) (w : World) (hl : Row w ao l cap) (hlen : l.length ≤ 140737488355328) :
    Calls Try.prog 14 #[.slice ao l.length cap, .int .i64 at_, .int .i64 most] w fun e w' => e = .returned (tupT (getT l at_ most)) ∧ w' = w := by
  have hg := getI_fits l at_
  have H := refGet_any ao cap l at_ w hl hlen
  unfold getT
  generalize getI l at_ = r at hg H
  obtain ⟨v, nx, er⟩ := r
  simp only [] at hg ⊢
  unfold tup at H
  simp only [] at H
  have hll := hl.len
  have hlm : cap ≤ 9223372036854775807 := hl.max
  have HL := hidden hl
  clear hl
  by_cases c1 : er = 0
  · subst c1
    obtain ⟨hv, hnx⟩ := hg rfl
    rw [if_neg (by omega)]
    by_cases c2 : most < 0 ∨ most < (v : Int)
    · rw [if_pos c2]
      by_cases c0 : most < 0
      · clear c2
        go_enter Try.func14, Try.ntmps14
        go_wp2_with (go_at_call 12; refine H.mono ?_; rintro e w' ⟨rfl, rfl⟩)
        go_ret3
        exact ⟨rfl, rfl⟩
      · have c3 : most < (v : Int) := by omega
        clear c2
        go_enter Try.func14, Try.ntmps14
        go_wp2_with (go_at_call 12; refine H.mono ?_; rintro e w' ⟨rfl, rfl⟩)
        go_ret3
        exact ⟨rfl, rfl⟩
    · rw [if_neg c2]
      have c4 : 0 ≤ most := by omega
      have c5 : (v : Int) ≤ most := by omega
      clear c2
      by_cases c6 : l.length - nx < v
      · rw [if_pos c6]
        have c7 : (l.length : Int) - (nx : Int) < (v : Int) := by omega
        go_enter Try.func14, Try.ntmps14
        go_wp2_with (go_at_call 12; refine H.mono ?_; rintro e w' ⟨rfl, rfl⟩)
        go_ret3
        exact ⟨rfl, rfl⟩
      · rw [if_neg c6]
        have c7 : (v : Int) ≤ (l.length : Int) - (nx : Int) := by omega
        have hvn : v ≤ 140737488355328 := by omega
        by_cases c8 : v = 0
        · subst c8
          have he : ∀ (a : Option Addr) (c : Nat), (convert 22 9 (.slice a 0 c)).run Try.prog w = .ok (.string ⟨#[]⟩) w := fun a c => run_str w a [] c (.inl rfl)
          by_cases c9 : cap = nx
          · subst c9
            go_enter Try.func14, Try.ntmps14
            go_wp2_with (go_at_call 12; refine H.mono ?_; rintro e w' ⟨rfl, rfl⟩)
            go_ret3
            exact ⟨rfl, rfl⟩
          · have c9z := c9
            go_enter Try.func14, Try.ntmps14
            go_wp2_with (go_at_call 12; refine H.mono ?_; rintro e w' ⟨rfl, rfl⟩)
            go_ret3
            exact ⟨rfl, rfl⟩
        · obtain ⟨b, off, rfl, hc⟩ : ∃ b off, ao = some ⟨b, off, none⟩ ∧ ∀ j, j < l.length → w.cell? ⟨b, off + j, none⟩ = some (.int .u8 ((l.getD j 0).toNat : Int)) := by
            rcases (Row.lies (Hid.out HL)) with h | h
            · subst h; simp at c6; omega
            · exact h
          have hcv := part_str w b off l nx v (by omega) hc
          have c9 : ¬ cap = nx := by omega
          clear hc HL
          go_enter Try.func14, Try.ntmps14
          go_wp2_with (go_at_call 12; refine H.mono ?_; rintro e w' ⟨rfl, rfl⟩)
          go_ret3
          exact ⟨rfl, rfl⟩
  · rw [if_pos c1]
    have ce : ((er : Int) == 0) = false := beq_eq_false_iff_ne.2 (by omega)
    go_enter Try.func14, Try.ntmps14
    go_wp2_with (go_at_call 12; refine H.mono ?_; rintro e w' ⟨rfl, rfl⟩)
    go_ret3
    exact ⟨rfl, rfl⟩
end Go.Proofs.Ytokicdmbibbkpaa

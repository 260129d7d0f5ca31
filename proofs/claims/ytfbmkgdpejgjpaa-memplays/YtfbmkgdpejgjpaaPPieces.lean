/- Parts that came in, and the memory that is made of them. -/
import Derived.Test.YtfbmkgdpejgjpaaPModel
namespace Go.Proofs.Ytfbmkgdpejgjpaa
open Go.ChangeShapes Go.WideShapes Go.ChangeAt Go.RowKit
set_option linter.unusedVariables false
structure PartAt (w : World) (b o : Nat) (p : Part4) : Prop where
  c0 : w.cell? ⟨b, o, none⟩ = some (.int .u32 (p.at_ : Int))
  c1 : w.cell? ⟨b, o + 1, none⟩ = some (.slice p.da p.data.length p.dcap)
  c2 : w.cell? ⟨b, o + 2, none⟩ = some (.int .i64 p.perm)
  c3 : w.cell? ⟨b, o + 3, none⟩ = some (.bool p.on)
  row : Row w p.da p.data p.dcap
  lt : p.at_ < 4294967296
def Pieces (w : World) (ao : Option Addr) (ps : List Part4) : Prop := ps = [] ∨ ∃ b off, ao = some ⟨b, off, none⟩ ∧ b < w.heap.size ∧ ∀ j (h : j < ps.length), PartAt w b (off + j * 4) ps[j]
theorem PartAt.later {w w' : World} {b o : Nat} {p : Part4} (h : PartAt w b o p) (hlt : b < w.heap.size) (hb : Below w.heap.size w w') : PartAt w' b o p :=
  ⟨(hb.cell (p := ⟨b, o, none⟩) hlt).trans h.c0, (hb.cell (p := ⟨b, o + 1, none⟩) hlt).trans h.c1, (hb.cell (p := ⟨b, o + 2, none⟩) hlt).trans h.c2, (hb.cell (p := ⟨b, o + 3, none⟩) hlt).trans h.c3, h.row.later hb, h.lt⟩
theorem Pieces.later {w w' : World} {ao : Option Addr} {ps : List Part4} (h : Pieces w ao ps) (hb : Below w.heap.size w w') : Pieces w' ao ps := by
  rcases h with h | ⟨b, off, e, hlt, h⟩
  · exact .inl h
  · exact .inr ⟨b, off, e, Nat.lt_of_lt_of_le hlt hb.size, fun j hj => (h j hj).later hlt hb⟩
theorem Pieces.at {w : World} {ao : Option Addr} {ps : List Part4} (h : Pieces w ao ps) {k : Nat} (hk : k < ps.length) : ∃ b off, ao = some ⟨b, off, none⟩ ∧ b < w.heap.size ∧ PartAt w b (off + k * 4) ps[k] := by
  rcases h with h | ⟨b, off, e, hlt, h⟩
  · rw [h] at hk; simp at hk
  · exact ⟨b, off, e, hlt, h k hk⟩
def few (ps : List Part4) : Bool := (ps.take 8).all (fun p => decide (p.data.length ≤ 600)) && decide (ps.length ≤ 8)
set_option maxRecDepth 20000 in
theorem few_any (w : World) (ao : Option Addr) (cap : Nat) (ps : List Part4) (h : Pieces w ao ps) (hlen : ps.length ≤ 9223372036854775807) : Calls Try.prog 39 #[.slice ao ps.length cap] w fun e w' => e = .returned (.bool (few ps)) ∧ w' = w := by
  have H := hidden h
  clear h
  go_enter Try.func39, Try.ntmps39
  go_wp2
  go_loopw [3] (fun i wr => ∃ k : Nat, k ≤ ps.length ∧ k ≤ 8 ∧ i = .int .i64 (k : Int) ∧ wr = w ∧ ∀ p ∈ ps.take k, p.data.length ≤ 600) (fun i _ => 8 - (intOf i).toNat)
  case atStart => exact ⟨0, by omega, by omega, rfl, rfl, by simp⟩
  case round =>
    obtain ⟨k, hk1, hk2, rfl, rfl, hall⟩ := hrel
    have HA := hidden hall
    clear hall
    by_cases hkl : k < ps.length
    · by_cases hk8 : k < 8
      · obtain ⟨b, off, rfl, hlt, hp⟩ := (Hid.out H).at hkl
        have hc := hp.c1
        have hrl := hp.row.len
        have hrm := hp.row.max
        simp only [maxLen] at hrm
        have hmem : ps[k] ∈ ps.take 8 := by
          rw [List.mem_iff_getElem?]
          exact ⟨k, by rw [List.getElem?_take_of_lt hk8, List.getElem?_eq_getElem hkl]⟩
        have HN := hidden (take_snoc ps k hkl)
        clear hp
        by_cases h6 : ps[k].data.length ≤ 600
        · have HN2 : Hid (∀ p ∈ ps.take (k + 1), p.data.length ≤ 600) := by
            intro p hp
            rw [Hid.out HN] at hp
            rcases List.mem_append.1 hp with hp | hp
            · exact Hid.out HA p hp
            · simp at hp; subst hp; exact h6
          have h6' : ¬ (600 : Int) < (ps[k].data.length : Int) := by omega
          clear HN hmem
          generalize ps[k].data.length = x at hc h6' hrl
          generalize ps[k].da = da at hc
          generalize ps[k].dcap = dc at hc hrl hrm
          go_wp2
          go_roundw
          case rel => exact ⟨k + 1, by omega, by omega, by simp, by simp, Hid.out HN2⟩
          case measure => simp [intOf]; omega
        · have h6' : (600 : Int) < (ps[k].data.length : Int) := by omega
          have HF : Hid (few ps = false) := by
            show few ps = false
            unfold few
            rw [Bool.and_eq_false_iff]
            left
            rw [← Bool.not_eq_true, List.all_eq_true]
            intro h
            have := h _ hmem
            simp at this
            omega
          clear HN hmem h6
          generalize ps[k].data.length = x at hc h6' hrl
          generalize ps[k].da = da at hc
          generalize ps[k].dcap = dc at hc hrl hrm
          go_wp2
          go_ret
          exact ⟨ret_bool (Hid.out HF).symm, rfl⟩
      · have hk8' : ¬ (k : Int) < 8 := by omega
        obtain rfl : k = 8 := by omega
        have hl8 : ¬ (ps.length : Int) ≤ 8 := by omega
        have HF : Hid (few ps = false) := by
          show few ps = false
          unfold few
          rw [Bool.and_eq_false_iff]
          right
          simp
          omega
        go_wp2
        go_ret
        exact ⟨ret_bool (Hid.out HF).symm, rfl⟩
    · have hkl' : decide ((k : Int) < (ps.length : Int)) = false := by simp; omega
      have hl8 : (ps.length : Int) ≤ 8 := by omega
      have HF : Hid (few ps = true) := by
        show few ps = true
        unfold few
        rw [Bool.and_eq_true]
        refine ⟨List.all_eq_true.2 fun p hp => ?_, by simp; omega⟩
        have := Hid.out HA p (by rw [List.take_of_length_le (by omega)]; exact List.mem_of_mem_take hp)
        simpa using this
      go_wp2
      go_ret
      exact ⟨ret_bool (Hid.out HF).symm, rfl⟩
end Go.Proofs.Ytfbmkgdpejgjpaa

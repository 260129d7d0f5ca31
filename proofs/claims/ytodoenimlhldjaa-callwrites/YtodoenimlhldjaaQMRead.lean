/- Chapter 5's own memory: its pages in a row, and what finds and reads them. -/
import Derived.Test.YtodoenimlhldjaaQMAL
namespace Go.Proofs.Ytodoenimlhldjaa
open Go.ChangeShapes Go.WideShapes Go.ChangeAt Go.RowKit
set_option linter.unusedVariables false
/-- A page. -/
structure P5 where
  at_ : Nat
  perm : Int
  b : List UInt8
  watched : Bool
def nop5 : P5 := ⟨0, 0, [], false⟩
structure P5At (w : World) (b o : Nat) (p : P5) : Prop where
  c0 : w.cell? ⟨b, o, none⟩ = some (.int .u32 (p.at_ : Int))
  c1 : w.cell? ⟨b, o + 1, none⟩ = some (.int .i64 p.perm)
  cb : ∀ i, i < 256 → w.cell? ⟨b, o + 2 + i, none⟩ = some (.int .u8 ((p.b.getD i 0).toNat : Int))
  cw : w.cell? ⟨b, o + 258, none⟩ = some (.bool p.watched)
  la : p.at_ < 4294967296
def Ps5 (w : World) (ao : Option Addr) (l : List P5) : Prop := l = [] ∨ ∃ b off, ao = some ⟨b, off, none⟩ ∧ b < w.heap.size ∧ ∀ j, j < l.length → P5At w b (off + j * 259) (l.getD j nop5)
theorem Ps5.at {w : World} {ao : Option Addr} {l : List P5} (h : Ps5 w ao l) {k : Nat} (hk : k < l.length) : ∃ b off, ao = some ⟨b, off, none⟩ ∧ b < w.heap.size ∧ ∀ j, j < l.length → P5At w b (off + j * 259) (l.getD j nop5) := by
  rcases h with h | h
  · rw [h] at hk; simp at hk
  · exact h
/-- Where a page stands: its length, if nowhere. -/
def find5 (l : List P5) (p : Nat) : Nat := l.findIdx fun x => x.at_ == p
def find5I (l : List P5) (p : Nat) : Int := if find5 l p < l.length then (find5 l p : Int) else -1
theorem find5_here {l : List P5} {p k : Nat} (hk : k < l.length) (hn : ∀ a, a < k → (l.getD a nop5).at_ ≠ p) (he : (l.getD k nop5).at_ = p) : find5 l p = k := by
  unfold find5
  rw [List.findIdx_eq hk]
  refine ⟨?_, fun j hj => ?_⟩
  · simpa [List.getD_eq_getElem?_getD, hk] using he
  · have := hn j hj
    have hj2 : j < l.length := Nat.lt_trans hj hk
    simpa [List.getD_eq_getElem?_getD, hj2] using this
theorem find5_none {l : List P5} {p : Nat} (hn : ∀ a, a < l.length → (l.getD a nop5).at_ ≠ p) : ¬ find5 l p < l.length := by
  unfold find5
  rw [List.findIdx_lt_length]
  rintro ⟨x, hx, he⟩
  obtain ⟨j, hj, rfl⟩ := List.getElem_of_mem hx
  have := hn j hj
  simp [List.getD_eq_getElem?_getD, hj] at this
  simp at he
  exact this he
theorem find5_at {l : List P5} {p : Nat} (h : find5 l p < l.length) : (l.getD (find5 l p) nop5).at_ = p := by
  have h2 := eq_of_beq (List.findIdx_getElem (xs := l) (p := fun x : P5 => x.at_ == p) (w := h))
  rw [List.getD_eq_getElem?_getD, List.getElem?_eq_getElem h]
  exact h2
set_option maxRecDepth 20000 in
theorem page5_any (a : Nat) (ha : a < 4294967296) (w : World) : Calls Try.prog 62 #[.int .u32 (a : Int)] w fun e w' => e = .returned (.int .u32 ((a / 256 * 256 : Nat) : Int)) ∧ w' = w := by
  have e0 : ((a : Int) - (a : Int) % 256) % 4294967296 = ((a / 256 * 256 : Nat) : Int) := by omega
  go_enter Try.func62, Try.ntmps62
  go_wp2
  go_ret
  exact ⟨ret_int (by omega), rfl⟩
set_option maxRecDepth 20000 in
set_option maxHeartbeats 8000000 in
theorem find_any (w : World) (m : Nat) (ao : Option Addr) (cap a : Nat) (l : List P5) (h : Ps5 w ao l) (h1 : w.cell? ⟨m, 1, none⟩ = some (.slice ao l.length cap)) (hmax : l.length ≤ 1000) (ha : a < 4294967296) : Calls Try.prog 61 #[.pointer (some ⟨m, 0, none⟩), .int .u32 (a : Int)] w fun e w' => e = .returned (.int .i64 (find5I l (a / 256 * 256))) ∧ w' = w := by
  have H := hidden h
  obtain ⟨p, hp⟩ : ∃ p, a / 256 * 256 = p := ⟨_, rfl⟩
  have C : Hid (Calls Try.prog 62 #[.int .u32 (a : Int)] w fun e w' => e = .returned (.int .u32 (p : Int)) ∧ w' = w) := by rw [← hp]; exact page5_any a ha w
  rw [hp]
  have hp2 : p < 4294967296 := by omega
  clear h hp
  go_enter Try.func61, Try.ntmps61
  go_wp2_with (first | (go_at_call 62; refine (Hid.out C).mono ?_; rintro e w4 ⟨rfl, hww⟩; rw [hww]; clear hww w4))
  go_loopw [6] (fun x6 wr => ∃ k : Nat, k ≤ l.length ∧ x6 = .int .i64 (k : Int) ∧ wr = w ∧ ∀ j, j < k → (l.getD j nop5).at_ ≠ p) (fun x6 _ => l.length - (intOf x6).toNat)
  case atStart => exact ⟨0, by omega, rfl, rfl, by omega⟩
  case round =>
    obtain ⟨k, hk, rfl, rfl, hno⟩ := hrel
    have HN := hidden hno
    clear hno
    by_cases hkl : k < l.length
    · obtain ⟨b, off, rfl, hlt, hc⟩ := (Hid.out H).at hkl
      obtain ⟨s, hs⟩ : ∃ s, s = l.getD k nop5 := ⟨_, rfl⟩
      have hat := hc k hkl
      rw [← hs] at hat
      have c0 := hat.c0
      have la := hat.la
      have HS := hidden hs
      have hkl2 : (k : Int) < (l.length : Int) := by omega
      clear hc hs hat
      by_cases z : s.at_ = p
      · have y : (s.at_ : Int) = (p : Int) := by omega
        have HR := hidden (find5_here hkl (Hid.out HN) (by rw [← Hid.out HS]; exact z))
        go_wp2
        go_ret
        refine ⟨?_, rfl⟩
        have e1 := Hid.out HR
        unfold find5I
        rw [e1, if_pos hkl]
        rfl
      · have y : ¬ (s.at_ : Int) = (p : Int) := by omega
        go_wp2
        go_roundw
        case rel =>
          refine ⟨k + 1, by omega, by first | rfl | simp, by first | rfl | trivial, fun j hj => ?_⟩
          rcases Nat.lt_succ_iff_lt_or_eq.1 hj with h | h
          · exact Hid.out HN j h
          · subst h; rw [← Hid.out HS]; exact z
        case measure => simp [intOf]; omega
    · have hkl2 : ¬ (k : Int) < (l.length : Int) := by omega
      have hkk : k = l.length := by omega
      have HR := hidden (find5_none (l := l) (p := p) (by rw [← hkk]; exact Hid.out HN))
      clear hkk
      go_wp2
      go_ret
      refine ⟨?_, rfl⟩
      have e1 := Hid.out HR
      unfold find5I
      rw [if_neg e1]
      rfl
theorem find5I_yes {l : List P5} {p : Nat} (h : find5 l p < l.length) : find5I l p = (find5 l p : Int) := if_pos h
theorem find5I_no {l : List P5} {p : Nat} (h : ¬ find5 l p < l.length) : find5I l p = -1 := if_neg h
/-- What the page of a place allows: 0 where there is none. -/
def perm5 (l : List P5) (p : Nat) : Int := if find5 l p < l.length then (l.getD (find5 l p) nop5).perm else 0
set_option maxRecDepth 20000 in
theorem perm5_any (w : World) (m : Nat) (ao : Option Addr) (cap a : Nat) (l : List P5) (h : Ps5 w ao l) (h1 : w.cell? ⟨m, 1, none⟩ = some (.slice ao l.length cap)) (hmax : l.length ≤ 1000) (ha : a < 4294967296) : Calls Try.prog 47 #[.pointer (some ⟨m, 0, none⟩), .int .u32 (a : Int)] w fun e w' => e = .returned (.int .i64 (perm5 l (a / 256 * 256))) ∧ w' = w := by
  have C := hidden (find_any w m ao cap a l h h1 hmax ha)
  obtain ⟨p, hp⟩ : ∃ p, a / 256 * 256 = p := ⟨_, rfl⟩
  rw [hp] at C ⊢
  unfold perm5
  by_cases hf : find5 l p < l.length
  · rw [find5I_yes hf] at C
    rw [if_pos hf]
    obtain ⟨k, hk⟩ : ∃ k, find5 l p = k := ⟨_, rfl⟩
    rw [hk] at C hf ⊢
    obtain ⟨b, off, rfl, hlt, hc⟩ := h.at hf
    have c1 := (hc k hf).c1
    generalize (l.getD k nop5).perm = pm at c1 ⊢
    have hk0 : (0 : Int) ≤ (k : Int) := by omega
    clear hp hk h hc
    go_enter Try.func47, Try.ntmps47
    go_wp2_with (first | (go_at_call 61; refine (Hid.out C).mono ?_; rintro e w4 ⟨rfl, hww⟩; rw [hww]; clear hww w4))
    go_ret
    exact ⟨rfl, rfl⟩
  · rw [find5I_no hf] at C
    rw [if_neg hf]
    clear hp h hf
    go_enter Try.func47, Try.ntmps47
    go_wp2_with (first | (go_at_call 61; refine (Hid.out C).mono ?_; rintro e w4 ⟨rfl, hww⟩; rw [hww]; clear hww w4))
    go_ret
    exact ⟨rfl, rfl⟩
/-- The byte at a place: 0 where there is no page. -/
def peek5 (l : List P5) (a : Nat) : UInt8 := if find5 l (a / 256 * 256) < l.length then (l.getD (find5 l (a / 256 * 256)) nop5).b.getD (a % 256) 0 else 0
set_option maxRecDepth 20000 in
theorem peek5_any (w : World) (m : Nat) (ao : Option Addr) (cap a : Nat) (l : List P5) (h : Ps5 w ao l) (h1 : w.cell? ⟨m, 1, none⟩ = some (.slice ao l.length cap)) (hmax : l.length ≤ 1000) (ha : a < 4294967296) : Calls Try.prog 69 #[.pointer (some ⟨m, 0, none⟩), .int .u32 (a : Int)] w fun e w' => e = .returned (.int .u8 ((peek5 l a).toNat : Int)) ∧ w' = w := by
  have C := hidden (find_any w m ao cap a l h h1 hmax ha)
  unfold peek5
  obtain ⟨p, hp⟩ : ∃ p, a / 256 * 256 = p := ⟨_, rfl⟩
  rw [hp] at C ⊢
  by_cases hf : find5 l p < l.length
  · rw [find5I_yes hf] at C
    rw [if_pos hf]
    obtain ⟨k, hk⟩ : ∃ k, find5 l p = k := ⟨_, rfl⟩
    rw [hk] at C hf ⊢
    obtain ⟨b, off, rfl, hlt, hc⟩ := h.at hf
    have c1 := (hc k hf).cb (a % 256) (by omega)
    generalize (l.getD k nop5).b.getD (a % 256) 0 = pm at c1 ⊢
    have hpm : pm.toNat < 256 := pm.toNat_lt
    have hk0 : (0 : Int) ≤ (k : Int) := by omega
    obtain ⟨q, hq⟩ : ∃ q, a % 256 = q := ⟨_, rfl⟩
    rw [hq] at c1
    have hq2 : (a : Int) % 256 = (q : Int) := by omega
    have hq3 : q < 256 := by omega
    clear hp hk h hc hq
    go_enter Try.func69, Try.ntmps69
    go_wp2_with (first | (go_at_call 61; refine (Hid.out C).mono ?_; rintro e w4 ⟨rfl, hww⟩; rw [hww]; clear hww w4))
    go_ret
    exact ⟨rfl, rfl⟩
  · rw [find5I_no hf] at C
    rw [if_neg hf]
    clear hp h hf
    go_enter Try.func69, Try.ntmps69
    go_wp2_with (first | (go_at_call 61; refine (Hid.out C).mono ?_; rintro e w4 ⟨rfl, hww⟩; rw [hww]; clear hww w4))
    go_ret
    exact ⟨rfl, rfl⟩
end Go.Proofs.Ytodoenimlhldjaa

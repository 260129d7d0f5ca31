/- Words put into order by a heap: what the library's sort falls back to. -/
import Derived.Test.YtpknppicamefgaaPSorts
import Derived.Test.YtpknppicamefgaaPLens
namespace Go.Proofs.Ytpknppicamefgaa
open Go.ChangeShapes Go.WideShapes Go.ChangeAt Go.RowKit
set_option linter.unusedVariables false
theorem getD_ext {d m : List Nat} (hl : m.length = d.length) (h : ∀ p, p < d.length → m.getD p 0 = d.getD p 0) : m = d := by
  refine List.ext_getElem hl fun p h1 h2 => ?_
  have := h p h2
  rw [List.getD_eq_getElem?_getD, List.getD_eq_getElem?_getD, List.getElem?_eq_getElem h1, List.getElem?_eq_getElem h2] at this
  simpa using this
theorem Turned.len {d m : List Nat} {a b : Nat} (h : Turned d m a b) : m.length = d.length := h.perm.length_eq
theorem Turned.inner {d m : List Nat} {a b : Nat} (h : Turned d m a b) (hab : a ≤ b) : ((m.drop a).take (b - a)).Perm ((d.drop a).take (b - a)) := by
  have hl := h.len
  have e1 : m.take a = d.take a := by
    refine getD_ext (by simp [hl]) fun p hp => ?_
    have hp2 : p < a := by simp at hp; omega
    have := h.out p (Or.inl hp2)
    simpa [List.getD_eq_getElem?_getD, List.getElem?_take, hp2] using this
  have e2 : m.drop b = d.drop b := by
    refine getD_ext (by simp [hl]) fun p hp => ?_
    have := h.out (b + p) (Or.inr (by omega))
    simpa [List.getD_eq_getElem?_getD, List.getElem?_drop] using this
  have s : ∀ l : List Nat, l = l.take a ++ ((l.drop a).take (b - a) ++ l.drop b) := fun l => by
    have h2 : (l.drop a).drop (b - a) = l.drop b := by rw [List.drop_drop]; congr 1; omega
    rw [← h2, List.take_append_drop, List.take_append_drop]
  have hp := h.perm
  rw [s m, s d, e1, e2] at hp
  exact (List.perm_append_right_iff _).1 ((List.perm_append_left_iff _).1 hp)
theorem mem_inner {l : List Nat} {a b : Nat} (hb : b ≤ l.length) (x : Nat) : x ∈ (l.drop a).take (b - a) ↔ ∃ p, a ≤ p ∧ p < b ∧ l.getD p 0 = x := by
  constructor
  · intro h
    obtain ⟨k, hk, rfl⟩ := List.getElem_of_mem h
    have hk2 : k < b - a := by simp at hk; omega
    refine ⟨a + k, by omega, by omega, ?_⟩
    rw [List.getElem_take, List.getElem_drop, List.getD_eq_getElem?_getD, List.getElem?_eq_getElem (by omega)]
    rfl
  · rintro ⟨p, h1, h2, rfl⟩
    have h3 : p - a < ((l.drop a).take (b - a)).length := by simp; omega
    have h4 := List.getElem_mem h3
    rw [List.getElem_take, List.getElem_drop] at h4
    have e : a + (p - a) = p := by omega
    rw [List.getD_eq_getElem?_getD, List.getElem?_eq_getElem (by omega)]
    simpa [e] using h4
/-- What holds of all between a and b holds of them when turned. -/
theorem Turned.all {d m : List Nat} {a b : Nat} (h : Turned d m a b) (hab : a ≤ b) (hb : b ≤ d.length) (P : Nat → Prop) (hP : ∀ p, a ≤ p → p < b → P (d.getD p 0)) : ∀ p, a ≤ p → p < b → P (m.getD p 0) := by
  intro p h1 h2
  have h3 : m.getD p 0 ∈ (m.drop a).take (b - a) := (mem_inner (by rw [h.len]; exact hb) _).2 ⟨p, h1, h2, rfl⟩
  obtain ⟨q, h4, h5, h6⟩ := (mem_inner hb _).1 ((h.inner hab).mem_iff.1 h3)
  rw [← h6]
  exact hP q h4 h5
theorem Turned.wide {d m : List Nat} {a b a2 b2 : Nat} (h : Turned d m a b) (ha : a2 ≤ a) (hb : b ≤ b2) : Turned d m a2 b2 := ⟨h.perm, fun p hp => h.out p (by omega)⟩
/-- A heap at f: from lo on, ahead of hi, none is above the one that it hangs at. -/
def Heap (d : List Nat) (f lo hi : Nat) : Prop := ∀ p c, lo ≤ p → c < hi → (c = 2 * p + 1 ∨ c = 2 * p + 2) → d.getD (f + c) 0 ≤ d.getD (f + p) 0
/-- On the way: the one at r goes down. -/
structure Sift (d : List Nat) (f lo hi r : Nat) : Prop where
  le : lo ≤ r
  others : ∀ p c, lo ≤ p → p ≠ r → c < hi → (c = 2 * p + 1 ∨ c = 2 * p + 2) → d.getD (f + c) 0 ≤ d.getD (f + p) 0
  over : ∀ p c, lo ≤ p → (r = 2 * p + 1 ∨ r = 2 * p + 2) → c < hi → (c = 2 * r + 1 ∨ c = 2 * r + 2) → d.getD (f + c) 0 ≤ d.getD (f + p) 0
theorem Sift.start {d : List Nat} {f lo hi : Nat} (h : Heap d f (lo + 1) hi) : Sift d f lo hi lo := ⟨Nat.le_refl _, fun p c h1 h2 h3 h4 => h p c (by omega) h3 h4, fun p c h1 h2 h3 h4 => by omega⟩
theorem Sift.leaf {d : List Nat} {f lo hi r : Nat} (h : Sift d f lo hi r) (hr : hi ≤ 2 * r + 1) : Heap d f lo hi := by
  intro p c h1 h2 h3
  by_cases e : p = r
  · omega
  · exact h.others p c h1 e h2 h3
theorem Sift.stop {d : List Nat} {f lo hi r : Nat} (h : Sift d f lo hi r) (hs : ∀ c, c < hi → (c = 2 * r + 1 ∨ c = 2 * r + 2) → d.getD (f + c) 0 ≤ d.getD (f + r) 0) : Heap d f lo hi := by
  intro p c h1 h2 h3
  by_cases e : p = r
  · subst e; exact hs c h2 h3
  · exact h.others p c h1 e h2 h3
theorem Sift.step {d : List Nat} {f lo hi r x : Nat} (h : Sift d f lo hi r) (hx : x < hi) (hx2 : x = 2 * r + 1 ∨ x = 2 * r + 2) (hl : f + hi ≤ d.length) (hs : d.getD (f + r) 0 < d.getD (f + x) 0)
    (hbig : ∀ c, c < hi → (c = 2 * r + 1 ∨ c = 2 * r + 2) → d.getD (f + c) 0 ≤ d.getD (f + x) 0) : Sift (swp d (f + r) (f + x)) f lo hi x := by
  have hle := h.le
  have hg := fun k => swp_get d (i := f + r) (j := f + x) (by omega) (by omega) k
  refine ⟨by omega, fun p c h1 h2 h3 h4 => ?_, fun p c h1 h2 h3 h4 => ?_⟩
  · rw [hg (f + c), hg (f + p), if_neg (c := f + p = f + x) (by omega)]
    by_cases e : p = r
    · subst e
      rw [if_pos (c := f + p = f + p) rfl]
      by_cases e2 : c = x
      · rw [if_pos (by omega)]; omega
      · rw [if_neg (by omega), if_neg (by omega)]
        exact hbig c h3 h4
    · rw [if_neg (c := f + p = f + r) (by omega), if_neg (c := f + c = f + x) (by omega)]
      by_cases e3 : c = r
      · rw [if_pos (by omega)]
        exact h.over p x h1 (by omega) hx hx2
      · rw [if_neg (by omega)]
        exact h.others p c h1 e h3 h4
  · have e : p = r := by omega
    subst e
    rw [hg (f + c), hg (f + p), if_neg (by omega), if_neg (by omega), if_neg (by omega), if_pos rfl]
    exact h.others x c (by omega) (by omega) h3 h4
theorem Heap.top {d : List Nat} {f hi : Nat} (h : Heap d f 0 hi) : ∀ c, c < hi → d.getD (f + c) 0 ≤ d.getD f 0 := by
  intro c
  induction c using Nat.strongRecOn with
  | _ c ih =>
    intro hc
    by_cases e : c = 0
    · subst e; exact Nat.le_refl _
    · exact Nat.le_trans (h ((c - 1) / 2) c (by omega) hc (by omega)) (ih ((c - 1) / 2) (by omega) (by omega))
/-- The greatest goes behind the rest: what the popping keeps. -/
structure Pop (m : List Nat) (a n i : Nat) : Prop where
  heap : Heap m a 0 i
  sorted : SortedOn m (a + i) (a + n)
  cross : ∀ p q, a ≤ p → p < a + i → a + i ≤ q → q < a + n → m.getD p 0 ≤ m.getD q 0
theorem Pop.sift {m : List Nat} {a n j : Nat} (h : Pop m a n (j + 1)) (hj : j < n) (hl : a + n ≤ m.length) : Heap (swp m a (a + j)) a 1 j := by
  intro p c h1 h2 h3
  have hg := fun k => swp_get m (i := a) (j := a + j) (by omega) (by omega) k
  rw [hg (a + c), hg (a + p), if_neg (by omega), if_neg (by omega), if_neg (by omega), if_neg (by omega)]
  exact h.heap p c (by omega) (by omega) h3
theorem Pop.step {m k : List Nat} {a n j : Nat} (h : Pop m a n (j + 1)) (hj : j < n) (hl : a + n ≤ m.length) (hT : Turned (swp m a (a + j)) k a (a + j)) (hk : Heap k a 0 j) : Pop k a n j := by
  have hg := fun k => swp_get m (i := a) (j := a + j) (by omega) (by omega) k
  have hout := fun q (hq : a + j ≤ q) => (hT.out q (Or.inr hq)).trans (hg q)
  refine ⟨hk, fun p q h1 h2 h3 => ?_, fun p q h1 h2 h3 h4 => ?_⟩
  · rw [hout p h1, hout q (by omega), if_neg (c := q = a + j) (by omega), if_neg (c := q = a) (by omega)]
    by_cases e : p = a + j
    · rw [if_pos e]
      exact h.cross a q (Nat.le_refl _) (by omega) (by omega) h3
    · rw [if_neg e, if_neg (by omega)]
      exact h.sorted p q (by omega) h2 h3
  · rw [hout q h3]
    refine hT.all (by omega) (by rw [swp_len]; omega) (fun x => x ≤ _) (fun p' g1 g2 => ?_) p h1 h2
    show (swp m a (a + j)).getD p' 0 ≤ _
    have htop := h.heap.top
    rw [hg p', if_neg (c := p' = a + j) (by omega)]
    by_cases e : q = a + j
    · rw [if_pos e]
      by_cases e2 : p' = a
      · rw [if_pos e2]; exact htop j (by omega)
      · rw [if_neg e2]
        have := htop (p' - a) (by omega)
        rwa [show a + (p' - a) = p' from by omega] at this
    · rw [if_neg e, if_neg (c := q = a) (by omega)]
      by_cases e2 : p' = a
      · rw [if_pos e2]; exact h.cross (a + j) q (by omega) (by omega) (by omega) h4
      · rw [if_neg e2]; exact h.cross p' q (by omega) (by omega) (by omega) h4
end Go.Proofs.Ytpknppicamefgaa
namespace Go.Proofs.Ytpknppicamefgaa
open Go.ChangeShapes Go.WideShapes Go.ChangeAt Go.RowKit
set_option linter.unusedVariables false
def Rnd (w : World) (sb : Nat) (z : Int) : Prop := w.heap[sb]? = some (.cells #[.int .u64 z] 140 (0, 0))
theorem Rnd.cell {w : World} {sb : Nat} {z : Int} (h : Rnd w sb z) : w.cell? ⟨sb, 0, none⟩ = some (.int .u64 z) := cell_of_row _ _ _ _ _ _ h
theorem Rnd.thaw {w : World} {sb : Nat} {z : Int} (h : Rnd w sb z) : w.frozen? ⟨sb, 0, none⟩ = false := frozen_of_row _ _ _ _ _ h
theorem Rnd.set {w : World} {sb : Nat} {z : Int} (h : Rnd w sb z) (n : Nat) (y : Int) : Rnd ((w.drewN n).setCell ⟨sb, 0, none⟩ (.int .u64 y)) sb y := heap_setCell_same (w.drewN n) sb 0 #[.int .u64 z] 140 (.int .u64 y) h
theorem Rnd.put {w : World} {sb : Nat} {z : Int} (h : Rnd w sb z) (y : Int) : Rnd ((w.setCell ⟨sb, 0, none⟩ (.int .u64 y)).drew) sb y := heap_setCell_same w sb 0 #[.int .u64 z] 140 (.int .u64 y) h
theorem only_put (w : World) (sb : Nat) (v : Value) : Only sb w ((w.setCell ⟨sb, 0, none⟩ v).drew) := (((Only.refl sb w).setCell 0 v).drewN 1)
set_option maxRecDepth 20000 in
set_option maxHeartbeats 1000000 in
theorem next_any (w : World) (sb : Nat) (z : Int) (h : Rnd w sb z) : Calls Try.prog 103 #[.pointer (some ⟨sb, 0, none⟩)] w fun e w' => ∃ r y : Int, e = .returned (.int .u64 r) ∧ Rnd w' sb y ∧ Only sb w w' := by
  have c0 := h.cell
  have f0 := h.thaw
  have H := hidden h
  clear h
  go_enter Try.func103, Try.ntmps103
  go_wp2
  go_region
  obtain ⟨W1, hW1, r1, o1⟩ : ∃ W1, (w.setCell ⟨sb, 0, none⟩ (.int .u64 (bits .xor .u64 z (IntKind.u64.wrap (z * 8192))))).drew = W1 ∧ Rnd W1 sb (bits .xor .u64 z (IntKind.u64.wrap (z * 8192))) ∧ Only sb w W1 := ⟨_, rfl, Rnd.put (Hid.out H) _, only_put w sb _⟩
  rw [hW1]
  generalize bits .xor .u64 z (IntKind.u64.wrap (z * 8192)) = y1 at r1
  have c1 := r1.cell
  have f1 := r1.thaw
  have R1 := hidden r1
  have O1 := hidden o1
  clear hW1 r1 o1
  go_wp2
  go_region
  obtain ⟨W2, hW2, r2, o2⟩ : ∃ W2, (W1.setCell ⟨sb, 0, none⟩ (.int .u64 (bits .xor .u64 y1 (y1 / 128)))).drew = W2 ∧ Rnd W2 sb (bits .xor .u64 y1 (y1 / 128)) ∧ Only sb W1 W2 := ⟨_, rfl, Rnd.put (Hid.out R1) _, only_put W1 sb _⟩
  rw [hW2]
  generalize bits .xor .u64 y1 (y1 / 128) = y2 at r2
  have c2 := r2.cell
  have f2 := r2.thaw
  have R2 := hidden r2
  have O2 := hidden o2
  clear hW2 r2 o2
  go_wp2
  go_region
  obtain ⟨W3, hW3, r3, o3⟩ : ∃ W3, (W2.setCell ⟨sb, 0, none⟩ (.int .u64 (bits .xor .u64 y2 (IntKind.u64.wrap (y2 * 131072))))).drew = W3 ∧ Rnd W3 sb (bits .xor .u64 y2 (IntKind.u64.wrap (y2 * 131072))) ∧ Only sb W2 W3 := ⟨_, rfl, Rnd.put (Hid.out R2) _, only_put W2 sb _⟩
  rw [hW3]
  generalize bits .xor .u64 y2 (IntKind.u64.wrap (y2 * 131072)) = y3 at r3
  have c3 := r3.cell
  have R3 := hidden r3
  have O3 := hidden o3
  clear hW3 r3 o3
  go_wp2
  go_ret
  exact ⟨_, _, rfl, Hid.out R3, ((Hid.out O1).trans (Hid.out O2)).trans (Hid.out O3)⟩
def lenN (x : Nat) : Nat := if x < 16 then 4 else if x < 32 then 5 else if x < 64 then 6 else 7
set_option maxRecDepth 20000 in
theorem len64_at (x : Nat) (h8 : 8 ≤ x) (h64 : x ≤ 64) (w : World) : Calls Try.prog 99 #[.int .u64 (x : Int)] w fun e w' => e = .returned (.int .i64 (lenN x : Int)) ∧ w' = w := by
  have h1 : ¬ (4294967296 : Int) ≤ (x : Int) := by omega
  have h2 : ¬ (65536 : Int) ≤ (x : Int) := by omega
  have h3 : ¬ (256 : Int) ≤ (x : Int) := by omega
  go_enter Try.func99, Try.ntmps99
  go_wp2
  go_ret
  refine ⟨ret_int ?_, rfl⟩

  rcases (show x = 8 ∨ x = 9 ∨ x = 10 ∨ x = 11 ∨ x = 12 ∨ x = 13 ∨ x = 14 ∨ x = 15 ∨ x = 16 ∨ x = 17 ∨ x = 18 ∨ x = 19 ∨ x = 20 ∨ x = 21 ∨ x = 22 ∨ x = 23 ∨ x = 24 ∨ x = 25 ∨ x = 26 ∨ x = 27 ∨ x = 28 ∨ x = 29 ∨ x = 30 ∨ x = 31 ∨ x = 32 ∨ x = 33 ∨ x = 34 ∨ x = 35 ∨ x = 36 ∨ x = 37 ∨ x = 38 ∨ x = 39 ∨ x = 40 ∨ x = 41 ∨ x = 42 ∨ x = 43 ∨ x = 44 ∨ x = 45 ∨ x = 46 ∨ x = 47 ∨ x = 48 ∨ x = 49 ∨ x = 50 ∨ x = 51 ∨ x = 52 ∨ x = 53 ∨ x = 54 ∨ x = 55 ∨ x = 56 ∨ x = 57 ∨ x = 58 ∨ x = 59 ∨ x = 60 ∨ x = 61 ∨ x = 62 ∨ x = 63 ∨ x = 64 by omega) with rfl | rfl | rfl | rfl | rfl | rfl | rfl | rfl | rfl | rfl | rfl | rfl | rfl | rfl | rfl | rfl | rfl | rfl | rfl | rfl | rfl | rfl | rfl | rfl | rfl | rfl | rfl | rfl | rfl | rfl | rfl | rfl | rfl | rfl | rfl | rfl | rfl | rfl | rfl | rfl | rfl | rfl | rfl | rfl | rfl | rfl | rfl | rfl | rfl | rfl | rfl | rfl | rfl | rfl | rfl | rfl | rfl <;> simp [lenN, wrap64, ByteArray.getElem_eq_getElem_data]
theorem len_at (x : Nat) (h8 : 8 ≤ x) (h64 : x ≤ 64) (w : World) : Calls Try.prog 86 #[.int .u64 (x : Int)] w fun e w' => e = .returned (.int .i64 (lenN x : Int)) ∧ w' = w := by
  have H := hidden (len64_at x h8 h64 w)
  generalize lenN x = q at H ⊢
  go_enter Try.func86, Try.ntmps86
  go_wp2_with (go_at_call 99; refine (Hid.out H).mono ?_; rintro e w1 ⟨rfl, hww⟩; rw [hww]; clear hww w1)
  go_ret
  exact ⟨rfl, rfl⟩
theorem lenN_le {x : Nat} (h8 : 8 ≤ x) (h64 : x ≤ 64) : 4 ≤ lenN x ∧ lenN x ≤ 7 ∧ 2 ^ lenN x ≤ 2 * x := by
  unfold lenN
  by_cases a : x < 16
  · rw [if_pos a]; omega
  · rw [if_neg a]
    by_cases b : x < 32
    · rw [if_pos b]; omega
    · rw [if_neg b]
      by_cases c : x < 64
      · rw [if_pos c]; omega
      · rw [if_neg c]; omega
set_option maxRecDepth 20000 in
theorem pow_at (x : Nat) (h8 : 8 ≤ x) (h64 : x ≤ 64) (w : World) : Calls Try.prog 102 #[.int .i64 (x : Int)] w fun e w' => ∃ m : Nat, e = .returned (.int .u64 ((m + 1 : Nat) : Int)) ∧ m < 2 * x ∧ w' = w := by
  obtain ⟨q, hq⟩ : ∃ q, q = lenN x := ⟨_, rfl⟩
  have H := hidden (len_at x h8 h64 w)
  obtain ⟨l1, l2, l3⟩ := lenN_le h8 h64
  rw [← hq] at H l1 l2 l3
  clear hq
  rcases (show q = 4 ∨ q = 5 ∨ q = 6 ∨ q = 7 by omega) with rfl | rfl | rfl | rfl
  all_goals
    go_enter Try.func102, Try.ntmps102
    go_wp2_with (go_at_call 86; refine (Hid.out H).mono ?_; rintro e w1 ⟨rfl, hww⟩; rw [hww]; clear hww w1)
    go_ret
  · exact ⟨15, ret_int (by decide), by omega, rfl⟩
  · exact ⟨31, ret_int (by decide), by omega, rfl⟩
  · exact ⟨63, ret_int (by decide), by omega, rfl⟩
  · exact ⟨127, ret_int (by decide), by omega, rfl⟩
theorem and_u64 (r : Int) (k : Nat) (hk : k < 18446744073709551616) : ∃ n : Nat, bits .and .u64 r (k : Int) = (n : Int) ∧ n ≤ k := by
  refine ⟨(BitVec.ofInt 64 r &&& BitVec.ofInt 64 (k : Int)).toNat, ?_, ?_⟩
  · show IntKind.u64.wrap ((BitVec.ofInt 64 r &&& BitVec.ofInt 64 (k : Int)).toNat : Nat) = _
    rw [IntKind.wrap_u64]
    have := (BitVec.ofInt 64 r &&& BitVec.ofInt 64 (k : Int)).isLt
    omega
  · rw [BitVec.toNat_and]
    have e : (BitVec.ofInt 64 (k : Int)).toNat = k := by rw [BitVec.toNat_ofInt]; omega
    rw [e]
    exact Nat.and_le_right
end Go.Proofs.Ytpknppicamefgaa
namespace Go.Proofs.Ytpknppicamefgaa
open Go.ChangeShapes Go.WideShapes Go.ChangeAt Go.RowKit
set_option linter.unusedVariables false
theorem Srow.lt {w : World} {g : Nat} {d : List Nat} {tl : List Value} (h : Srow w g d tl) : g < w.heap.size := (Array.getElem?_eq_some_iff.1 h).1
theorem Srow.onlyB {w w' : World} {g k : Nat} {d : List Nat} {tl : List Value} (h : Srow w g d tl) (ho : Only k w w') (hne : g ≠ k) : Srow w' g d tl := (ho.block g hne).trans h
theorem Keep.only {g k : Nat} {u w w' : World} (h : Keep (· = g) u w) (ho : Only k w w') (hk : k = g ∨ u.heap.size ≤ k) : Keep (· = g) u w' := h.trans (Keep.of_only ho) fun b hb e => by omega
theorem other_in {n o : Nat} (h : o < 2 * n) : ∃ q : Nat, q < n ∧ ((o < n ∧ q = o) ∨ (n ≤ o ∧ q = o - n)) := by
  by_cases h1 : o < n
  · exact ⟨o, h1, .inl ⟨h1, rfl⟩⟩
  · exact ⟨o - n, by omega, .inr ⟨by omega, rfl⟩⟩
set_option maxRecDepth 20000 in
set_option maxHeartbeats 4000000 in
theorem breaks_any (w : World) (g cap a b : Nat) (d : List Nat) (tl : List Value) (h : Srow w g d tl) (hab : a + 12 < b) (hb : b ≤ d.length) (hlen : d.length ≤ 64) :
    Calls Try.prog 91 #[.slice (some ⟨g, 0, none⟩) d.length cap, .int .i64 (a : Int), .int .i64 (b : Int)] w fun e w' => e = .returned (.tuple #[]) ∧ ∃ m, Srow w' g m tl ∧ Turned d m a b ∧ Keep (· = g) w w' := by
  have hgl := h.lt
  obtain ⟨n, hn⟩ : ∃ n, b = a + n := ⟨b - a, by omega⟩
  have hsub : (b : Int) - (a : Int) = (n : Int) := by omega
  have hn8 : (8 : Int) ≤ (n : Int) := by omega
  have hquo : (n : Int).tdiv 4 = ((n / 4 : Nat) : Int) := by rw [Int.tdiv_eq_ediv_of_nonneg (by omega)]; omega
  obtain ⟨q4, hq4⟩ : ∃ q4, q4 = n / 4 := ⟨_, rfl⟩
  rw [← hq4] at hquo
  have hq5 : 3 ≤ q4 ∧ 4 * q4 ≤ n := by omega
  have hn64 : n ≤ 64 ∧ a + n ≤ 64 := by omega
  obtain ⟨sb, hsb⟩ : ∃ sb, w.heap.size = sb := ⟨_, rfl⟩
  obtain ⟨wa, hwa⟩ : ∃ wa, w.alloc (.cells #[.int .u64 (n : Int)] 140) = wa := ⟨_, rfl⟩
  have hS : Srow wa g d tl := by rw [← hwa]; exact (heap_alloc_old _ _ hgl).trans h
  have hR : Rnd wa sb (n : Int) := by rw [← hwa, ← hsb]; exact heap_alloc_new w _
  have hK : Keep (· = g) w wa := by rw [← hwa]; exact keep_alloc _ w _
  have H102 := hidden (fun u => pow_at n (by omega) (by omega) u)
  have HS := hidden hS
  have HR := hidden hR
  have HK := hidden hK
  have HN := hidden hn
  clear h hS hR hK hq4 hn
  go_enter Try.func91, Try.ntmps91
  go_wp2_with (go_at_call 102; refine (Hid.out H102 _).mono ?_; rintro e w1 ⟨mk, rfl, hmk, hww⟩; rw [hww]; clear hww w1)
  go_loopw [9] (fun x9 wr => ∃ (i p : Nat) (m : List Nat), i ≤ 3 ∧ p + 1 = a + 2 * q4 + i ∧ x9 = .int .i64 (p : Int) ∧ m.length = d.length ∧ Srow wr g m tl ∧ Turned d m a b ∧ (∃ y, Rnd wr sb y) ∧ Keep (· = g) w wr) (fun x9 _ => a + 2 * q4 + 3 - (intOf x9).toNat)
  case atStart => exact ⟨0, a + 2 * q4 - 1, d, by omega, by omega, by simp; omega, rfl, Hid.out HS, Turned.refl _ _ _, ⟨_, Hid.out HR⟩, Hid.out HK⟩
  case round =>
    obtain ⟨i, p, m, hi, hp, rfl, hml, hS, hT, ⟨y, hR⟩, hK⟩ := hrel
    have hbn := Hid.out HN
    by_cases hi3 : i ≤ 2
    · have hle : (p : Int) ≤ (a : Int) + (q4 : Int) * 2 + 1 := by omega
      have hpr : a ≤ p ∧ p < b ∧ p < d.length := by omega
      have H103 : Hid (Calls Try.prog 103 #[.pointer (some ⟨sb, 0, none⟩)] wr fun e w1 => ∃ (r : Int) (o q : Nat), e = .returned (.int .u64 r) ∧ bits .and .u64 r (mk : Int) = (o : Int) ∧ o < 128 ∧ a + q < b ∧ ((o < n ∧ q = o) ∨ (n ≤ o ∧ (o : Int) - (n : Int) = (q : Int))) ∧ (p = a + q ∨ p ≠ a + q) ∧ Srow w1 g m tl ∧ (∃ y, Rnd w1 sb y) ∧ Keep (· = g) w w1) := by
        refine (next_any wr sb y hR).mono ?_
        rintro e w1 ⟨r, y2, he, hR2, ho2⟩
        obtain ⟨o, ho, hol⟩ := and_u64 r mk (by omega)
        have hS2 := hS.onlyB ho2 (by omega)
        have hK2 := hK.only ho2 (.inr (by omega))
        by_cases h1 : o < n
        · exact ⟨r, o, o, he, ho, by omega, by omega, .inl ⟨h1, rfl⟩, by omega, hS2, ⟨y2, hR2⟩, hK2⟩
        · exact ⟨r, o, o - n, he, ho, by omega, by omega, .inr ⟨by omega, by omega⟩, by omega, hS2, ⟨y2, hR2⟩, hK2⟩
      have HT := hidden hT
      have HM : Hid (∀ q, q < m.length → ∀ u n', Srow u g m tl → Srow (((u.drewN n').setCell ⟨g, p, none⟩ (.int .u32 ((m.getD q 0 : Nat) : Int))).setCell ⟨g, q, none⟩ (.int .u32 ((m.getD p 0 : Nat) : Int))) g (swp m p q) tl) := fun q hq u n' h0 => by
        have h1 := (h0.drewN n').set (j := p) (by omega) (m.getD q 0)
        exact h1.set (j := q) (by rw [List.length_set]; omega) (m.getD p 0)
      have HP := hidden hp
      clear hS hT hR hK hp hbn
      go_wp2_with (go_at_call 103; refine (Hid.out H103).mono ?_; rintro e w1 ⟨r, o, q, rfl, hand, ho128, hqb, hcase, hpq, hS1, hR1, hK1⟩; have HCASE := hidden hcase; have HPQ := hidden hpq; have HS1 := hidden hS1; have HR1 := hidden hR1; have HK1 := hidden hK1; clear hcase hpq hS1 hR1 hK1; rcases Hid.out HCASE with ⟨c1, c2⟩ | ⟨c1, c2⟩)
      · subst c2
        have hcp := (Hid.out HS1).cell (j := p) (by omega)
        have hzp := (Hid.out HS1).thaw p
        have hcq := (Hid.out HS1).cell (j := a + q) (by omega)
        have hzq := (Hid.out HS1).thaw (a + q)
        obtain ⟨y1, hR1⟩ := Hid.out HR1
        have HX : Hid (∀ n' v v', Rnd (((w1.drewN n').setCell ⟨g, p, none⟩ v).setCell ⟨g, a + q, none⟩ v') sb y1) := fun n' v v' => (Below.heap_setCell _ _ _ _ (by simp; omega)).trans ((Below.heap_setCell _ _ _ _ (by simp; omega)).trans hR1)
        have HY : Hid (∀ n' v v', Keep (· = g) w (((w1.drewN n').setCell ⟨g, p, none⟩ v).setCell ⟨g, a + q, none⟩ v')) := fun n' v v' => ((Hid.out HK1).drewN n').trans ((keep_setCell _ g p v).trans (keep_setCell _ g (a + q) v') fun b _ e => e) fun b _ e => e
        have HMQ := hidden (Hid.out HM (a + q) (by omega))
        clear HM hR1
        rcases Hid.out HPQ with e | e
        · subst e
          generalize m.getD (a + q) 0 = xq at hcp hcq HMQ
          go_region
          all_goals go_wp2
          go_roundw
          case rel => exact ⟨i + 1, a + q + 1, swp m (a + q) (a + q), by omega, by have := Hid.out HP; omega, by simp, by rw [swp_len]; exact hml, Hid.out HMQ _ _ (Hid.out HS1), (Hid.out HT).swp ⟨by omega, by omega⟩ ⟨by omega, by omega⟩ (by omega), ⟨y1, Hid.out HX _ _ _⟩, Hid.out HY _ _ _⟩
          case measure => simp [intOf]; omega
        · have e2 : ¬ a + q = p := by omega
          generalize m.getD (a + q) 0 = xq at hcq HMQ
          generalize m.getD p 0 = xp at hcp HMQ
          go_region
          all_goals go_wp2
          go_roundw
          case rel => exact ⟨i + 1, p + 1, swp m p (a + q), by omega, by have := Hid.out HP; omega, by simp, by rw [swp_len]; exact hml, Hid.out HMQ _ _ (Hid.out HS1), (Hid.out HT).swp ⟨by omega, by omega⟩ ⟨by omega, by omega⟩ (by omega), ⟨y1, Hid.out HX _ _ _⟩, Hid.out HY _ _ _⟩
          case measure => simp [intOf]; omega
      · have hq0 := hqb
        have hcp := (Hid.out HS1).cell (j := p) (by omega)
        have hzp := (Hid.out HS1).thaw p
        have hcq := (Hid.out HS1).cell (j := a + q) (by omega)
        have hzq := (Hid.out HS1).thaw (a + q)
        obtain ⟨y1, hR1⟩ := Hid.out HR1
        have HX : Hid (∀ n' v v', Rnd (((w1.drewN n').setCell ⟨g, p, none⟩ v).setCell ⟨g, a + q, none⟩ v') sb y1) := fun n' v v' => (Below.heap_setCell _ _ _ _ (by simp; omega)).trans ((Below.heap_setCell _ _ _ _ (by simp; omega)).trans hR1)
        have HY : Hid (∀ n' v v', Keep (· = g) w (((w1.drewN n').setCell ⟨g, p, none⟩ v).setCell ⟨g, a + q, none⟩ v')) := fun n' v v' => ((Hid.out HK1).drewN n').trans ((keep_setCell _ g p v).trans (keep_setCell _ g (a + q) v') fun b _ e => e) fun b _ e => e
        have HMQ := hidden (Hid.out HM (a + q) (by omega))
        clear HM hR1
        rcases Hid.out HPQ with e | e
        · subst e
          generalize m.getD (a + q) 0 = xq at hcp hcq HMQ
          go_region
          all_goals go_wp2
          go_roundw
          case rel => exact ⟨i + 1, a + q + 1, swp m (a + q) (a + q), by omega, by have := Hid.out HP; omega, by simp, by rw [swp_len]; exact hml, Hid.out HMQ _ _ (Hid.out HS1), (Hid.out HT).swp ⟨by omega, by omega⟩ ⟨by omega, by omega⟩ (by omega), ⟨y1, Hid.out HX _ _ _⟩, Hid.out HY _ _ _⟩
          case measure => simp [intOf]; omega
        · have e2 : ¬ a + q = p := by omega
          generalize m.getD (a + q) 0 = xq at hcq HMQ
          generalize m.getD p 0 = xp at hcp HMQ
          go_region
          all_goals go_wp2
          go_roundw
          case rel => exact ⟨i + 1, p + 1, swp m p (a + q), by omega, by have := Hid.out HP; omega, by simp, by rw [swp_len]; exact hml, Hid.out HMQ _ _ (Hid.out HS1), (Hid.out HT).swp ⟨by omega, by omega⟩ ⟨by omega, by omega⟩ (by omega), ⟨y1, Hid.out HX _ _ _⟩, Hid.out HY _ _ _⟩
          case measure => simp [intOf]; omega
    · have hle : ¬ (p : Int) ≤ (a : Int) + (q4 : Int) * 2 + 1 := by omega
      have HS2 := hidden hS
      have HT2 := hidden hT
      have HK2 := hidden hK
      clear hS hT hR hK hbn
      go_wp2
      go_end0
      exact ⟨rfl, m, Hid.out HS2, Hid.out HT2, Hid.out HK2⟩
end Go.Proofs.Ytpknppicamefgaa
namespace Go.Proofs.Ytpknppicamefgaa
open Go.ChangeShapes Go.WideShapes Go.ChangeAt Go.RowKit
set_option linter.unusedVariables false
set_option maxRecDepth 20000 in
set_option maxHeartbeats 4000000 in
theorem sift_any (w : World) (g cap lo hi f : Nat) (d : List Nat) (tl : List Value) (h : Srow w g d tl) (hlo : lo ≤ hi) (hb : f + hi ≤ d.length) (hlen : d.length ≤ 1152921504606846976) (hH : Heap d f (lo + 1) hi) :
    Calls Try.prog 101 #[.slice (some ⟨g, 0, none⟩) d.length cap, .int .i64 (lo : Int), .int .i64 (hi : Int), .int .i64 (f : Int)] w fun e w' => e = .returned (.tuple #[]) ∧ ∃ m, Srow w' g m tl ∧ Turned d m f (f + hi) ∧ Heap m f lo hi ∧ Only g w w' := by
  have H := hidden h
  have HH := hidden hH
  clear h hH
  go_enter Try.func101, Try.ntmps101
  go_wp2
  go_loopw [8] (fun x8 wr => ∃ (r : Nat) (k : List Nat), r ≤ hi ∧ x8 = .int .i64 (r : Int) ∧ k.length = d.length ∧ Srow wr g k tl ∧ Turned d k f (f + hi) ∧ Sift k f lo hi r ∧ Only g w wr) (fun x8 _ => hi + 1 - (intOf x8).toNat)
  case atStart => exact ⟨lo, d, hlo, rfl, rfl, Hid.out H, Turned.refl _ _ _, Sift.start (Hid.out HH), Only.refl _ _⟩
  case round =>
    obtain ⟨r, k, hr, rfl, hkl, hS, hT, hI, hW⟩ := hrel
    have hle := hI.le
    have HS := hidden hS
    have HT := hidden hT
    have HI := hidden hI
    have HW := hidden hW
    by_cases hc : hi ≤ 2 * r + 1
    · have hc2 : (hi : Int) ≤ 2 * (r : Int) + 1 := by omega
      have HEND : Hid (Heap k f lo hi) := hI.leaf hc
      clear hS hT hI hW
      go_wp2
      go_end0
      exact ⟨rfl, k, Hid.out HS, Hid.out HT, Hid.out HEND, Hid.out HW⟩
    · have hc2 : ¬ (hi : Int) ≤ 2 * (r : Int) + 1 := by omega
      have hwr : IntKind.i64.wrap ((f : Int) + (r : Int)) = (f : Int) + (r : Int) := by rw [IntKind.wrap_i64]; omega
      have hcr := hS.cell (j := f + r) (by omega)
      have hzr := hS.thaw (f + r)
      have hc1 := hS.cell (j := f + (2 * r + 1)) (by omega)
      have hz1 := hS.thaw (f + (2 * r + 1))
      by_cases hd : 2 * r + 1 + 1 < hi
      · have hd2 : 2 * (r : Int) + 1 + 1 < (hi : Int) := by omega
        have hcc := hS.cell (j := f + (2 * r + 1) + 1) (by omega)
        have hzc := hS.thaw (f + (2 * r + 1) + 1)
        clear hS hT hI hW
        have HL1 := hidden (fun u => less_any (k.getD (f + (2 * r + 1)) 0) (k.getD (f + (2 * r + 1) + 1) 0) u)
        cases hdec : decide (k.getD (f + (2 * r + 1)) 0 < k.getD (f + (2 * r + 1) + 1) 0) with
        | true =>
          rw [hdec] at HL1
          have HLT1 := hidden (of_decide_eq_true hdec)
          clear hdec
          have HL2 := hidden (fun u => less_any (k.getD (f + r) 0) (k.getD (f + (2 * r + 1 + 1)) 0) u)
          have HBIG : Hid (∀ c, c < hi → (c = 2 * r + 1 ∨ c = 2 * r + 2) → k.getD (f + c) 0 ≤ k.getD (f + (2 * r + 1 + 1)) 0) := fun c h1 h2 => by
            have h3 := Hid.out HLT1
            rcases h2 with rfl | rfl
            · exact Nat.le_of_lt h3
            · exact Nat.le_refl _
          cases hdec2 : decide (k.getD (f + r) 0 < k.getD (f + (2 * r + 1 + 1)) 0) with
          | true =>
            rw [hdec2] at HL2
            have HLT2 := hidden (of_decide_eq_true hdec2)
            clear hdec2
            have HN : Hid (∀ w1 n, Srow w1 g k tl → Srow (((w1.drewN n).setCell ⟨g, f + r, none⟩ (.int .u32 ((k.getD (f + (2 * r + 1 + 1)) 0 : Nat) : Int))).setCell ⟨g, f + (2 * r + 1 + 1), none⟩ (.int .u32 ((k.getD (f + r) 0 : Nat) : Int))) g (swp k (f + r) (f + (2 * r + 1 + 1))) tl) := fun w1 n h0 => by
              have h1 := (h0.drewN n).set (j := f + r) (by omega) (k.getD (f + (2 * r + 1 + 1)) 0)
              have h2 := h1.set (j := f + (2 * r + 1 + 1)) (by rw [List.length_set]; omega) (k.getD (f + r) 0)
              exact h2
            have HNI : Hid (Sift (swp k (f + r) (f + (2 * r + 1 + 1))) f lo hi (2 * r + 1 + 1)) := (Hid.out HI).step (x := 2 * r + 1 + 1) (by omega) (by omega) (by omega) (Hid.out HLT2) (Hid.out HBIG)
            have HF : Hid (∀ w1 n, w1 = wr.drewN n → w1.cell? ⟨g, f + r, none⟩ = some (.int .u32 ((k.getD (f + r) 0 : Nat) : Int)) ∧ w1.cell? ⟨g, f + (2 * r + 1 + 1), none⟩ = some (.int .u32 ((k.getD (f + (2 * r + 1 + 1)) 0 : Nat) : Int)) ∧ w1.frozen? ⟨g, f + r, none⟩ = false ∧ w1.frozen? ⟨g, f + (2 * r + 1 + 1), none⟩ = false ∧ Srow w1 g k tl ∧ Only g w w1) := fun w1 n e => by
              subst e
              have h1 := (Hid.out HS).drewN n
              exact ⟨h1.cell (by omega), h1.cell (by omega), h1.thaw _, h1.thaw _, h1, (Hid.out HW).drewN n⟩
            generalize hx0 : k.getD (f + r) 0 = x0 at *
            generalize hx1 : k.getD (f + (2 * r + 1)) 0 = x1 at *
            generalize hx2 : k.getD (f + (2 * r + 1) + 1) 0 = x2 at HL1 hcc
            generalize hx3 : k.getD (f + (2 * r + 1 + 1)) 0 = x3 at HL2 HF HN
            clear hx0 hx1 hx2 hx3
            go_wp2
            go_quiet ((go_at_call 95; exact Calls.quiet_of_same (Hid.out HL1 _)))
            go_wp2
            generalize hwn : wr.drewN nq = w1
            have hwn2 := Hid.out HF _ _ hwn.symm
            clear hwn hcr hzr hc1 hz1 hcc hzc
            obtain ⟨hcr, hcx, hzr, hzx, hS1, hW1⟩ := hwn2
            have HS1 := hidden hS1
            have HW1 := hidden hW1
            clear hS1 hW1
            go_quiet ((go_at_call 95; exact Calls.quiet_of_same (Hid.out HL2 _)))
            go_wp2
            go_region
            all_goals go_wp2
            go_roundw
            case rel => exact ⟨2 * r + 1 + 1, swp k (f + r) (f + (2 * r + 1 + 1)), by omega, by simp, by rw [swp_len]; exact hkl, Hid.out HN _ _ (Hid.out HS1), (Hid.out HT).swp ⟨by omega, by omega⟩ ⟨by omega, by omega⟩ (by omega), Hid.out HNI, ((((Hid.out HW1).drewN _).setCell _ _).setCell _ _)⟩
            case measure => simp [intOf]; omega
          | false =>
            rw [hdec2] at HL2
            have HLT2 := hidden (of_decide_eq_false hdec2)
            clear hdec2
            have HEND : Hid (Heap k f lo hi) := (Hid.out HI).stop fun c h1 h2 => Nat.le_trans (Hid.out HBIG c h1 h2) (Nat.le_of_not_lt (Hid.out HLT2))
            have HF : Hid (∀ w1 n, w1 = wr.drewN n → w1.cell? ⟨g, f + r, none⟩ = some (.int .u32 ((k.getD (f + r) 0 : Nat) : Int)) ∧ w1.cell? ⟨g, f + (2 * r + 1 + 1), none⟩ = some (.int .u32 ((k.getD (f + (2 * r + 1 + 1)) 0 : Nat) : Int)) ∧ w1.frozen? ⟨g, f + r, none⟩ = false ∧ w1.frozen? ⟨g, f + (2 * r + 1 + 1), none⟩ = false ∧ Srow w1 g k tl ∧ Only g w w1) := fun w1 n e => by
              subst e
              have h1 := (Hid.out HS).drewN n
              exact ⟨h1.cell (by omega), h1.cell (by omega), h1.thaw _, h1.thaw _, h1, (Hid.out HW).drewN n⟩
            generalize hx0 : k.getD (f + r) 0 = x0 at *
            generalize hx1 : k.getD (f + (2 * r + 1)) 0 = x1 at *
            generalize hx2 : k.getD (f + (2 * r + 1) + 1) 0 = x2 at HL1 hcc
            generalize hx3 : k.getD (f + (2 * r + 1 + 1)) 0 = x3 at HL2 HF
            clear hx0 hx1 hx2 hx3
            go_wp2
            go_quiet ((go_at_call 95; exact Calls.quiet_of_same (Hid.out HL1 _)))
            go_wp2
            generalize hwn : wr.drewN nq = w1
            have hwn2 := Hid.out HF _ _ hwn.symm
            clear hwn hcr hzr hc1 hz1 hcc hzc
            obtain ⟨hcr, hcx, hzr, hzx, hS1, hW1⟩ := hwn2
            have HS1 := hidden hS1
            have HW1 := hidden hW1
            clear hS1 hW1
            go_quiet ((go_at_call 95; exact Calls.quiet_of_same (Hid.out HL2 _)))
            go_wp2
            first | go_end0 | refine bodyPost_ret (results_none rfl _ _ _) rfl ?_
            exact ⟨rfl, k, (Hid.out HS1).drewN _, Hid.out HT, Hid.out HEND, (Hid.out HW1).drewN _⟩
        | false =>
          rw [hdec] at HL1
          have HLT1 := hidden (of_decide_eq_false hdec)
          clear hdec
          have HL2 := hidden (fun u => less_any (k.getD (f + r) 0) (k.getD (f + (2 * r + 1)) 0) u)
          have HBIG : Hid (∀ c, c < hi → (c = 2 * r + 1 ∨ c = 2 * r + 2) → k.getD (f + c) 0 ≤ k.getD (f + (2 * r + 1)) 0) := fun c h1 h2 => by
            have h3 := Hid.out HLT1
            rcases h2 with rfl | rfl
            · exact Nat.le_refl _
            · exact Nat.le_of_not_lt h3
          cases hdec2 : decide (k.getD (f + r) 0 < k.getD (f + (2 * r + 1)) 0) with
          | true =>
            rw [hdec2] at HL2
            have HLT2 := hidden (of_decide_eq_true hdec2)
            clear hdec2
            have HN : Hid (∀ w1 n, Srow w1 g k tl → Srow (((w1.drewN n).setCell ⟨g, f + r, none⟩ (.int .u32 ((k.getD (f + (2 * r + 1)) 0 : Nat) : Int))).setCell ⟨g, f + (2 * r + 1), none⟩ (.int .u32 ((k.getD (f + r) 0 : Nat) : Int))) g (swp k (f + r) (f + (2 * r + 1))) tl) := fun w1 n h0 => by
              have h1 := (h0.drewN n).set (j := f + r) (by omega) (k.getD (f + (2 * r + 1)) 0)
              have h2 := h1.set (j := f + (2 * r + 1)) (by rw [List.length_set]; omega) (k.getD (f + r) 0)
              exact h2
            have HNI : Hid (Sift (swp k (f + r) (f + (2 * r + 1))) f lo hi (2 * r + 1)) := (Hid.out HI).step (x := 2 * r + 1) (by omega) (by omega) (by omega) (Hid.out HLT2) (Hid.out HBIG)
            have HF : Hid (∀ w1 n, w1 = wr.drewN n → w1.cell? ⟨g, f + r, none⟩ = some (.int .u32 ((k.getD (f + r) 0 : Nat) : Int)) ∧ w1.cell? ⟨g, f + (2 * r + 1), none⟩ = some (.int .u32 ((k.getD (f + (2 * r + 1)) 0 : Nat) : Int)) ∧ w1.frozen? ⟨g, f + r, none⟩ = false ∧ w1.frozen? ⟨g, f + (2 * r + 1), none⟩ = false ∧ Srow w1 g k tl ∧ Only g w w1) := fun w1 n e => by
              subst e
              have h1 := (Hid.out HS).drewN n
              exact ⟨h1.cell (by omega), h1.cell (by omega), h1.thaw _, h1.thaw _, h1, (Hid.out HW).drewN n⟩
            generalize hx0 : k.getD (f + r) 0 = x0 at *
            generalize hx1 : k.getD (f + (2 * r + 1)) 0 = x1 at *
            generalize hx2 : k.getD (f + (2 * r + 1) + 1) 0 = x2 at *
            clear hx0 hx1 hx2
            go_wp2
            go_quiet ((go_at_call 95; exact Calls.quiet_of_same (Hid.out HL1 _)))
            go_wp2
            generalize hwn : wr.drewN nq = w1
            have hwn2 := Hid.out HF _ _ hwn.symm
            clear hwn hcr hzr hc1 hz1 hcc hzc
            obtain ⟨hcr, hcx, hzr, hzx, hS1, hW1⟩ := hwn2
            have HS1 := hidden hS1
            have HW1 := hidden hW1
            clear hS1 hW1
            go_quiet ((go_at_call 95; exact Calls.quiet_of_same (Hid.out HL2 _)))
            go_wp2
            go_region
            all_goals go_wp2
            go_roundw
            case rel => exact ⟨2 * r + 1, swp k (f + r) (f + (2 * r + 1)), by omega, by simp, by rw [swp_len]; exact hkl, Hid.out HN _ _ (Hid.out HS1), (Hid.out HT).swp ⟨by omega, by omega⟩ ⟨by omega, by omega⟩ (by omega), Hid.out HNI, ((((Hid.out HW1).drewN _).setCell _ _).setCell _ _)⟩
            case measure => simp [intOf]; omega
          | false =>
            rw [hdec2] at HL2
            have HLT2 := hidden (of_decide_eq_false hdec2)
            clear hdec2
            have HEND : Hid (Heap k f lo hi) := (Hid.out HI).stop fun c h1 h2 => Nat.le_trans (Hid.out HBIG c h1 h2) (Nat.le_of_not_lt (Hid.out HLT2))
            have HF : Hid (∀ w1 n, w1 = wr.drewN n → w1.cell? ⟨g, f + r, none⟩ = some (.int .u32 ((k.getD (f + r) 0 : Nat) : Int)) ∧ w1.cell? ⟨g, f + (2 * r + 1), none⟩ = some (.int .u32 ((k.getD (f + (2 * r + 1)) 0 : Nat) : Int)) ∧ w1.frozen? ⟨g, f + r, none⟩ = false ∧ w1.frozen? ⟨g, f + (2 * r + 1), none⟩ = false ∧ Srow w1 g k tl ∧ Only g w w1) := fun w1 n e => by
              subst e
              have h1 := (Hid.out HS).drewN n
              exact ⟨h1.cell (by omega), h1.cell (by omega), h1.thaw _, h1.thaw _, h1, (Hid.out HW).drewN n⟩
            generalize hx0 : k.getD (f + r) 0 = x0 at *
            generalize hx1 : k.getD (f + (2 * r + 1)) 0 = x1 at *
            generalize hx2 : k.getD (f + (2 * r + 1) + 1) 0 = x2 at *
            clear hx0 hx1 hx2
            go_wp2
            go_quiet ((go_at_call 95; exact Calls.quiet_of_same (Hid.out HL1 _)))
            go_wp2
            generalize hwn : wr.drewN nq = w1
            have hwn2 := Hid.out HF _ _ hwn.symm
            clear hwn hcr hzr hc1 hz1 hcc hzc
            obtain ⟨hcr, hcx, hzr, hzx, hS1, hW1⟩ := hwn2
            have HS1 := hidden hS1
            have HW1 := hidden hW1
            clear hS1 hW1
            go_quiet ((go_at_call 95; exact Calls.quiet_of_same (Hid.out HL2 _)))
            go_wp2
            first | go_end0 | refine bodyPost_ret (results_none rfl _ _ _) rfl ?_
            exact ⟨rfl, k, (Hid.out HS1).drewN _, Hid.out HT, Hid.out HEND, (Hid.out HW1).drewN _⟩
      · have hd2 : decide (2 * (r : Int) + 1 + 1 < (hi : Int)) = false := by simp; omega
        clear hS hT hI hW
        have HL2 := hidden (fun u => less_any (k.getD (f + r) 0) (k.getD (f + (2 * r + 1)) 0) u)
        have HBIG : Hid (∀ c, c < hi → (c = 2 * r + 1 ∨ c = 2 * r + 2) → k.getD (f + c) 0 ≤ k.getD (f + (2 * r + 1)) 0) := fun c h1 h2 => by
          have e : c = 2 * r + 1 := by omega
          rw [e]
          exact Nat.le_refl _
        cases hdec2 : decide (k.getD (f + r) 0 < k.getD (f + (2 * r + 1)) 0) with
        | true =>
          rw [hdec2] at HL2
          have HLT2 := hidden (of_decide_eq_true hdec2)
          clear hdec2
          have HN : Hid (∀ w1 n, Srow w1 g k tl → Srow (((w1.drewN n).setCell ⟨g, f + r, none⟩ (.int .u32 ((k.getD (f + (2 * r + 1)) 0 : Nat) : Int))).setCell ⟨g, f + (2 * r + 1), none⟩ (.int .u32 ((k.getD (f + r) 0 : Nat) : Int))) g (swp k (f + r) (f + (2 * r + 1))) tl) := fun w1 n h0 => by
            have h1 := (h0.drewN n).set (j := f + r) (by omega) (k.getD (f + (2 * r + 1)) 0)
            have h2 := h1.set (j := f + (2 * r + 1)) (by rw [List.length_set]; omega) (k.getD (f + r) 0)
            exact h2
          have HNI : Hid (Sift (swp k (f + r) (f + (2 * r + 1))) f lo hi (2 * r + 1)) := (Hid.out HI).step (x := 2 * r + 1) (by omega) (by omega) (by omega) (Hid.out HLT2) (Hid.out HBIG)
          have HF : Hid (∀ w1 n, w1 = wr.drewN n → w1.cell? ⟨g, f + r, none⟩ = some (.int .u32 ((k.getD (f + r) 0 : Nat) : Int)) ∧ w1.cell? ⟨g, f + (2 * r + 1), none⟩ = some (.int .u32 ((k.getD (f + (2 * r + 1)) 0 : Nat) : Int)) ∧ w1.frozen? ⟨g, f + r, none⟩ = false ∧ w1.frozen? ⟨g, f + (2 * r + 1), none⟩ = false ∧ Srow w1 g k tl ∧ Only g w w1) := fun w1 n e => by
            subst e
            have h1 := (Hid.out HS).drewN n
            exact ⟨h1.cell (by omega), h1.cell (by omega), h1.thaw _, h1.thaw _, h1, (Hid.out HW).drewN n⟩
          generalize hx0 : k.getD (f + r) 0 = x0 at *
          generalize hx1 : k.getD (f + (2 * r + 1)) 0 = x1 at *
          clear hx0 hx1
          go_wp2
          go_quiet (fail)
          go_wp2
          generalize hwn : wr.drewN nq = w1
          have hwn2 := Hid.out HF _ _ hwn.symm
          clear hwn hcr hzr hc1 hz1
          obtain ⟨hcr, hcx, hzr, hzx, hS1, hW1⟩ := hwn2
          have HS1 := hidden hS1
          have HW1 := hidden hW1
          clear hS1 hW1
          go_quiet ((go_at_call 95; exact Calls.quiet_of_same (Hid.out HL2 _)))
          go_wp2
          go_region
          all_goals go_wp2
          go_roundw
          case rel => exact ⟨2 * r + 1, swp k (f + r) (f + (2 * r + 1)), by omega, by simp, by rw [swp_len]; exact hkl, Hid.out HN _ _ (Hid.out HS1), (Hid.out HT).swp ⟨by omega, by omega⟩ ⟨by omega, by omega⟩ (by omega), Hid.out HNI, ((((Hid.out HW1).drewN _).setCell _ _).setCell _ _)⟩
          case measure => simp [intOf]; omega
        | false =>
          rw [hdec2] at HL2
          have HLT2 := hidden (of_decide_eq_false hdec2)
          clear hdec2
          have HEND : Hid (Heap k f lo hi) := (Hid.out HI).stop fun c h1 h2 => Nat.le_trans (Hid.out HBIG c h1 h2) (Nat.le_of_not_lt (Hid.out HLT2))
          have HF : Hid (∀ w1 n, w1 = wr.drewN n → w1.cell? ⟨g, f + r, none⟩ = some (.int .u32 ((k.getD (f + r) 0 : Nat) : Int)) ∧ w1.cell? ⟨g, f + (2 * r + 1), none⟩ = some (.int .u32 ((k.getD (f + (2 * r + 1)) 0 : Nat) : Int)) ∧ w1.frozen? ⟨g, f + r, none⟩ = false ∧ w1.frozen? ⟨g, f + (2 * r + 1), none⟩ = false ∧ Srow w1 g k tl ∧ Only g w w1) := fun w1 n e => by
            subst e
            have h1 := (Hid.out HS).drewN n
            exact ⟨h1.cell (by omega), h1.cell (by omega), h1.thaw _, h1.thaw _, h1, (Hid.out HW).drewN n⟩
          generalize hx0 : k.getD (f + r) 0 = x0 at *
          generalize hx1 : k.getD (f + (2 * r + 1)) 0 = x1 at *
          clear hx0 hx1
          go_wp2
          go_quiet (fail)
          go_wp2
          generalize hwn : wr.drewN nq = w1
          have hwn2 := Hid.out HF _ _ hwn.symm
          clear hwn hcr hzr hc1 hz1
          obtain ⟨hcr, hcx, hzr, hzx, hS1, hW1⟩ := hwn2
          have HS1 := hidden hS1
          have HW1 := hidden hW1
          clear hS1 hW1
          go_quiet ((go_at_call 95; exact Calls.quiet_of_same (Hid.out HL2 _)))
          go_wp2
          first | go_end0 | refine bodyPost_ret (results_none rfl _ _ _) rfl ?_
          exact ⟨rfl, k, (Hid.out HS1).drewN _, Hid.out HT, Hid.out HEND, (Hid.out HW1).drewN _⟩
end Go.Proofs.Ytpknppicamefgaa
namespace Go.Proofs.Ytpknppicamefgaa
open Go.ChangeShapes Go.WideShapes Go.ChangeAt Go.RowKit
set_option linter.unusedVariables false
set_option maxRecDepth 20000 in
set_option maxHeartbeats 4000000 in
theorem heapsort_any (w : World) (g cap a b : Nat) (d : List Nat) (tl : List Value) (h : Srow w g d tl) (hab : a < b) (hb : b ≤ d.length) (hlen : d.length ≤ 1152921504606846976) :
    Calls Try.prog 90 #[.slice (some ⟨g, 0, none⟩) d.length cap, .int .i64 (a : Int), .int .i64 (b : Int)] w fun e w' => e = .returned (.tuple #[]) ∧ ∃ m, Srow w' g m tl ∧ Turned d m a b ∧ SortedOn m a b ∧ Only g w w' := by
  have H := hidden h
  clear h
  obtain ⟨n, hn⟩ : ∃ n, b = a + n := ⟨b - a, by omega⟩
  have hsub : (b : Int) - (a : Int) = (n : Int) := by omega
  have hquo : ((n : Int) - 1).tdiv 2 = (((n - 1) / 2 : Nat) : Int) := by
    rw [Int.tdiv_eq_ediv_of_nonneg (by omega)]; omega
  have hquo2 : IntKind.i64.wrap ((((n - 1) / 2 : Nat) : Int)) = (((n - 1) / 2 : Nat) : Int) := by rw [IntKind.wrap_i64]; omega
  obtain ⟨q, hq⟩ : ∃ q, q = (n - 1) / 2 := ⟨_, rfl⟩
  rw [← hq] at hquo hquo2
  have HQ := hidden hq
  have HB := hidden hn
  have hnb : a + n ≤ b ∧ b ≤ a + n := by omega
  clear hq hn
  go_enter Try.func90, Try.ntmps90
  go_wp2
  go_loopw [9] (fun x9 wr => ∃ (z : Int) (i : Nat) (m : List Nat), z = (i : Int) - 1 ∧ i ≤ n ∧ x9 = .int .i64 z ∧ m.length = d.length ∧ Srow wr g m tl ∧ Turned d m a b ∧ Heap m a i n ∧ Only g w wr) (fun x9 _ => ((intOf x9) + 1).toNat)
  case atStart => exact ⟨q, q + 1, d, by omega, by have := Hid.out HQ; omega, rfl, rfl, Hid.out H, Turned.refl _ _ _, fun p c h1 h2 h3 => by have := Hid.out HQ; omega, Only.refl _ _⟩
  case round =>
    obtain ⟨z, i, m, hz, hi, rfl, hml, hS, hT, hI, hW⟩ := hrel
    have HS := hidden hS
    have HT := hidden hT
    have HI := hidden hI
    have HW := hidden hW
    clear hS hT hI hW
    cases i with
    | succ j =>
      obtain rfl : z = (j : Int) := by omega
      clear hz
      have hge : (0 : Int) ≤ (j : Int) := by omega
      have HC := hidden (sift_any wr g cap j n a m tl (Hid.out HS) (by omega) (by omega) (by omega) (Hid.out HI))
      rw [hml] at HC
      go_wp2_with (go_at_call 101; refine (Hid.out HC).mono ?_; rintro e w1 ⟨rfl, k, hS2, hT2, hI2, hW2⟩; have HS2 := hidden hS2; have HT2 := hidden hT2; have HI2 := hidden hI2; have HW2 := hidden hW2; clear hS2 hT2 hI2 hW2)
      go_roundw
      case rel => exact ⟨(j : Int) - 1, j, k, rfl, by omega, by simp, by rw [(Hid.out HT2).len]; exact hml, Hid.out HS2, (Hid.out HT).trans ((Hid.out HT2).wide (Nat.le_refl _) (by omega)), Hid.out HI2, (Hid.out HW).trans (Hid.out HW2)⟩
      case measure => simp [intOf]; try omega
    | zero =>
      obtain rfl : z = -1 := by omega
      clear hz
      have HP : Hid (Pop m a n n) := ⟨Hid.out HI, fun p q h1 h2 h3 => by omega, fun p q h1 h2 h3 h4 => by omega⟩
      go_wp2
      go_loopw [10] (fun x10 wr2 => ∃ (z : Int) (i : Nat) (m : List Nat), z = (i : Int) - 1 ∧ i ≤ n ∧ x10 = .int .i64 z ∧ m.length = d.length ∧ Srow wr2 g m tl ∧ Turned d m a b ∧ Pop m a n i ∧ Only g w wr2) (fun x10 _ => ((intOf x10) + 1).toNat)
      case atStart => exact ⟨_, n, m, rfl, by omega, by simp, hml, Hid.out HS, Hid.out HT, Hid.out HP, Hid.out HW⟩
      case round =>
        obtain ⟨z, i, m2, hz, hi2, rfl, hml2, hS, hT, hI, hW⟩ := hrel
        have HS2 := hidden hS
        have HT2 := hidden hT
        have HI2 := hidden hI
        have HW2 := hidden hW
        cases i with
        | succ j =>
          obtain rfl : z = (j : Int) := by omega
          clear hz
          by_cases hj0 : j = 0
          · subst hj0
            have hca := hS.cell (j := a) (by omega)
            have hza := hS.thaw a
            clear hS hT hI hW
            have HN : Hid (∀ u n, Srow u g m2 tl → Srow (((u.drewN n).setCell ⟨g, a, none⟩ (.int .u32 ((m2.getD (a) 0 : Nat) : Int))).setCell ⟨g, a, none⟩ (.int .u32 ((m2.getD a 0 : Nat) : Int))) g (swp m2 a (a)) tl) := fun u n h0 => by
              have h1 := (h0.drewN n).set (j := a) (by omega) (m2.getD (a) 0)
              exact h1.set (j := a) (by rw [List.length_set]; omega) (m2.getD a 0)
            have HC : Hid (∀ u, Srow u g (swp m2 a (a)) tl → Calls Try.prog 101 #[.slice (some ⟨g, 0, none⟩) d.length cap, .int .i64 0, .int .i64 0, .int .i64 (a : Int)] u fun e w' => e = .returned (.tuple #[]) ∧ ∃ m, Srow w' g m tl ∧ Turned (swp m2 a (a)) m a (a) ∧ Heap m a 0 0 ∧ Only g u w') := fun u h0 => by
              have := sift_any u g cap 0 0 a (swp m2 a (a)) tl h0 (by omega) (by rw [swp_len]; omega) (by rw [swp_len]; omega) ((Hid.out HI2).sift (by omega) (by omega))
              rw [swp_len, hml2] at this
              exact this
            generalize hxa : m2.getD a 0 = xa at hca HN
            clear hxa
            go_wp2
            go_region
            all_goals go_wp2_with (go_at_call 101; refine (Hid.out HC _ (Hid.out HN _ _ (Hid.out HS2))).mono ?_; rintro e w1 ⟨rfl, k, hS3, hT3, hI3, hW3⟩; have HS3 := hidden hS3; have HT3 := hidden hT3; have HI3 := hidden hI3; have HW3 := hidden hW3; clear hS3 hT3 hI3 hW3)
            go_roundw
            case rel => exact ⟨(0 : Int) - 1, 0, k, rfl, by omega, by simp, by rw [(Hid.out HT3).len, swp_len]; exact hml2, Hid.out HS3, ((Hid.out HT2).swp ⟨by omega, by omega⟩ ⟨by omega, by omega⟩ (by omega)).trans ((Hid.out HT3).wide (Nat.le_refl _) (by omega)), (Hid.out HI2).step (by omega) (by omega) (Hid.out HT3) (Hid.out HI3), ((((Hid.out HW2).drewN _).setCell _ _).setCell _ _).trans (Hid.out HW3)⟩
            case measure => simp [intOf]; try omega
          · have hge : (0 : Int) ≤ (j : Int) := by omega
            have hj1 : ¬ a + j = a := by omega
            have hj2 : ¬ a = a + j := by omega
            have hca := hS.cell (j := a) (by omega)
            have hza := hS.thaw a
            have hcj := hS.cell (j := a + j) (by omega)
            have hzj := hS.thaw (a + j)
            clear hS hT hI hW
            have HN : Hid (∀ u n, Srow u g m2 tl → Srow (((u.drewN n).setCell ⟨g, a, none⟩ (.int .u32 ((m2.getD (a + j) 0 : Nat) : Int))).setCell ⟨g, a + j, none⟩ (.int .u32 ((m2.getD a 0 : Nat) : Int))) g (swp m2 a (a + j)) tl) := fun u n h0 => by
              have h1 := (h0.drewN n).set (j := a) (by omega) (m2.getD (a + j) 0)
              exact h1.set (j := a + j) (by rw [List.length_set]; omega) (m2.getD a 0)
            have HC : Hid (∀ u, Srow u g (swp m2 a (a + j)) tl → Calls Try.prog 101 #[.slice (some ⟨g, 0, none⟩) d.length cap, .int .i64 0, .int .i64 (j : Int), .int .i64 (a : Int)] u fun e w' => e = .returned (.tuple #[]) ∧ ∃ m, Srow w' g m tl ∧ Turned (swp m2 a (a + j)) m a (a + j) ∧ Heap m a 0 j ∧ Only g u w') := fun u h0 => by
              have := sift_any u g cap 0 j a (swp m2 a (a + j)) tl h0 (by omega) (by rw [swp_len]; omega) (by rw [swp_len]; omega) ((Hid.out HI2).sift (by omega) (by omega))
              rw [swp_len, hml2] at this
              exact this
            generalize hxa : m2.getD a 0 = xa at hca HN
            generalize hxj : m2.getD (a + j) 0 = xj at hcj HN
            clear hxa hxj
            go_wp2
            go_region
            all_goals go_wp2_with (go_at_call 101; refine (Hid.out HC _ (Hid.out HN _ _ (Hid.out HS2))).mono ?_; rintro e w1 ⟨rfl, k, hS3, hT3, hI3, hW3⟩; have HS3 := hidden hS3; have HT3 := hidden hT3; have HI3 := hidden hI3; have HW3 := hidden hW3; clear hS3 hT3 hI3 hW3)
            go_roundw
            case rel => exact ⟨(j : Int) - 1, j, k, rfl, by omega, by simp, by rw [(Hid.out HT3).len, swp_len]; exact hml2, Hid.out HS3, ((Hid.out HT2).swp ⟨by omega, by omega⟩ ⟨by omega, by omega⟩ (by omega)).trans ((Hid.out HT3).wide (Nat.le_refl _) (by omega)), (Hid.out HI2).step (by omega) (by omega) (Hid.out HT3) (Hid.out HI3), ((((Hid.out HW2).drewN _).setCell _ _).setCell _ _).trans (Hid.out HW3)⟩
            case measure => simp [intOf]; try omega
        | zero =>
          obtain rfl : z = -1 := by omega
          clear hz
          clear hS hT hI hW
          go_wp2
          go_end0
          exact ⟨rfl, m2, Hid.out HS2, Hid.out HT2, by rw [Hid.out HB]; exact (Hid.out HI2).sorted, Hid.out HW2⟩
end Go.Proofs.Ytpknppicamefgaa
namespace Go.Proofs.Ytpknppicamefgaa
open Go.ChangeShapes Go.WideShapes Go.ChangeAt Go.RowKit
set_option linter.unusedVariables false
set_option maxRecDepth 20000 in
set_option maxHeartbeats 4000000 in
theorem reverse_any (w : World) (g cap a b : Nat) (d : List Nat) (tl : List Value) (h : Srow w g d tl) (hab : a < b) (hb : b ≤ d.length) (hlen : d.length ≤ 1152921504606846976) :
    Calls Try.prog 93 #[.slice (some ⟨g, 0, none⟩) d.length cap, .int .i64 (a : Int), .int .i64 (b : Int)] w fun e w' => e = .returned (.tuple #[]) ∧ ∃ m, Srow w' g m tl ∧ Turned d m a b ∧ Only g w w' := by
  have H := hidden h
  clear h
  obtain ⟨c, hc⟩ : ∃ c, c + 1 = b := ⟨b - 1, by omega⟩
  have hsub : (b : Int) - 1 = (c : Int) := by omega
  have hcb : c < b := by omega
  have HB := hidden hc
  clear hc
  go_enter Try.func93, Try.ntmps93
  go_wp2
  go_loopw [6, 7] (fun x6 x7 wr => ∃ (i j : Nat) (m : List Nat), a ≤ i ∧ i ≤ b ∧ a ≤ j ∧ j < b ∧ x6 = .int .i64 (i : Int) ∧ x7 = .int .i64 (j : Int) ∧ m.length = d.length ∧ Srow wr g m tl ∧ Turned d m a b ∧ Only g w wr) (fun x6 x7 _ => b - (intOf x6).toNat)
  case atStart => exact ⟨a, c, d, by omega, by omega, by have := Hid.out HB; omega, by omega, rfl, rfl, rfl, Hid.out H, Turned.refl _ _ _, Only.refl _ _⟩
  case round =>
    obtain ⟨i, j, m, hi1, hi2, hj1, hj2, rfl, rfl, hml, hS, hT, hW⟩ := hrel
    have HS := hidden hS
    have HT := hidden hT
    have HW := hidden hW
    by_cases hij : i < j
    · obtain ⟨k, rfl⟩ : ∃ k, j = k + 1 := ⟨j - 1, by omega⟩
      have hij2 : (i : Int) < (k : Int) + 1 := by omega
      have hci := hS.cell (j := i) (by omega)
      have hzi := hS.thaw i
      have hcj := hS.cell (j := k + 1) (by omega)
      have hzj := hS.thaw (k + 1)
      have hne : ¬ k + 1 = i := by omega
      have hne2 : ¬ i = k + 1 := by omega
      clear hS hT hW
      have HN : Hid (∀ u n, Srow u g m tl → Srow (((u.drewN n).setCell ⟨g, i, none⟩ (.int .u32 ((m.getD (k + 1) 0 : Nat) : Int))).setCell ⟨g, k + 1, none⟩ (.int .u32 ((m.getD i 0 : Nat) : Int))) g (swp m i (k + 1)) tl) := fun u n h0 => by
        have h1 := (h0.drewN n).set (j := i) (by omega) (m.getD (k + 1) 0)
        exact h1.set (j := k + 1) (by rw [List.length_set]; omega) (m.getD i 0)
      generalize hxa : m.getD i 0 = xa at hci HN
      generalize hxj : m.getD (k + 1) 0 = xj at hcj HN
      clear hxa hxj
      go_wp2
      go_region
      all_goals go_wp2
      go_roundw
      case rel => exact ⟨i + 1, k, swp m i (k + 1), by omega, by omega, by omega, by omega, by simp, by simp, by rw [swp_len]; exact hml, Hid.out HN _ _ (Hid.out HS), (Hid.out HT).swp ⟨by omega, by omega⟩ ⟨by omega, by omega⟩ (by omega), ((((Hid.out HW).drewN _).setCell _ _).setCell _ _)⟩
      case measure => simp [intOf]; try omega
    · have hij2 : ¬ (i : Int) < (j : Int) := by omega
      clear hS hT hW
      go_wp2
      go_end0
      exact ⟨rfl, m, Hid.out HS, Hid.out HT, Hid.out HW⟩
end Go.Proofs.Ytpknppicamefgaa

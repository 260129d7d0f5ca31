/- How many bits a short length has: some number. -/
import Derived.Test.YtkpcajmphhdmiaaUMAJ
import Derived.Test.YtkpcajmphhdmiaaUMAH
import Derived.Laws.OwnMore
namespace Go.Proofs.Ytkpcajmphhdmiaa
open Go.ChangeShapes Go.WideShapes Go.ChangeAt Go.RowKit
set_option linter.unusedVariables false
set_option maxRecDepth 20000 in
theorem len64_any (x : Nat) (h : x < 256) (w : World) : Calls Try.prog 92 #[.int .u64 (x : Int)] w fun e w' => ∃ k : Int, e = .returned (.int .i64 k) ∧ w' = w := by
  have h1 : ¬ (4294967296 : Int) ≤ (x : Int) := by omega
  have h2 : ¬ (65536 : Int) ≤ (x : Int) := by omega
  have h3 : ¬ (256 : Int) ≤ (x : Int) := by omega
  go_enter Try.func92, Try.ntmps92
  go_wp2
  go_ret
  exact ⟨_, rfl, rfl⟩
theorem len_any (x : Nat) (h : x < 256) (w : World) : Calls Try.prog 80 #[.int .u64 (x : Int)] w fun e w' => ∃ k : Int, e = .returned (.int .i64 k) ∧ w' = w := by
  have H := hidden (len64_any x h w)
  go_enter Try.func80, Try.ntmps80
  go_wp2_with (go_at_call 92; refine (Hid.out H).mono ?_; rintro e w1 ⟨k, rfl, hww⟩; rw [hww]; clear hww w1)
  go_ret
  exact ⟨k, rfl, rfl⟩
end Go.Proofs.Ytkpcajmphhdmiaa
namespace Go.Proofs.Ytkpcajmphhdmiaa
open Go.ChangeShapes Go.WideShapes Go.ChangeAt Go.RowKit
set_option linter.unusedVariables false
theorem insertion_nil (w : World) : Calls Try.prog 82 #[.slice none 0 0, .int .i64 0, .int .i64 0] w fun e w' => e = .returned (.tuple #[]) ∧ w' = w := by
  go_enter Try.func82, Try.ntmps82
  go_wp2
  go_loopg [6, 7] 1 (fun q x6 x7 wr => x6 = .int .i64 1 ∧ wr = w)
  case atStart => exact ⟨rfl, rfl⟩
  case round =>
    obtain ⟨rfl, rfl⟩ := hrel
    go_wp2
    go_end0
    exact ⟨rfl, rfl⟩
set_option maxRecDepth 20000 in
theorem pdq_nil (w : World) (k : Int) : Calls Try.prog 79 #[.slice none 0 0, .int .i64 0, .int .i64 0, .int .i64 k] w fun e w' => e = .returned (.tuple #[]) ∧ w' = w := by
  have H := hidden (insertion_nil w)
  go_enter Try.func79, Try.ntmps79
  go_wp2
  go_loopg [1, 2, 3] 1 (fun q x1 x2 x3 wr => x1 = .int .i64 0 ∧ x2 = .int .i64 0 ∧ wr = w)
  case atStart => exact ⟨rfl, rfl, rfl⟩
  case round =>
    obtain ⟨rfl, rfl, rfl⟩ := hrel
    go_wp2_with (go_at_call 82; refine (Hid.out H).mono ?_; rintro e w1 ⟨rfl, hww⟩; rw [hww]; clear hww w1)
    first | go_end0 | refine bodyPost_ret (results_none rfl _ _ _) rfl ?_
    exact ⟨rfl, rfl⟩
set_option maxRecDepth 20000 in
theorem pdq_small (w : World) (g cap : Nat) (d : List Nat) (tl : List Value) (k : Int) (h : Srow w g d tl) (hlen : d.length ≤ 12) :
    Calls Try.prog 79 #[.slice (some ⟨g, 0, none⟩) d.length cap, .int .i64 0, .int .i64 (d.length : Int), .int .i64 k] w fun e w' => e = .returned (.tuple #[]) ∧ ∃ m, Srow w' g m tl ∧ m.Perm d ∧ SortedOn m 0 d.length ∧ Only g w w' := by
  have H := hidden (insertion_any w g cap 0 d.length d tl h (Nat.zero_le _) (Nat.le_refl _) (by omega))
  rw [show ((0 : Nat) : Int) = 0 from rfl] at H
  have hl : (d.length : Int) ≤ 12 := by omega
  clear h
  go_enter Try.func79, Try.ntmps79
  go_wp2
  go_loopg [1, 2, 3] 1 (fun q x1 x2 x3 wr => x1 = .int .i64 0 ∧ x2 = .int .i64 (d.length : Int) ∧ wr = w)
  case atStart => exact ⟨rfl, rfl, rfl⟩
  case round =>
    obtain ⟨rfl, rfl, rfl⟩ := hrel
    go_wp2_with (go_at_call 82; refine (Hid.out H).mono ?_; rintro e w1 ⟨rfl, m, h1, h2, h3, h4⟩; have H1 := hidden h1; have H2 := hidden h2; have H3 := hidden h3; have H4 := hidden h4; clear h1 h2 h3 h4)
    first | go_end0 | refine bodyPost_ret (results_none rfl _ _ _) rfl ?_
    exact ⟨rfl, m, Hid.out H1, (Hid.out H2).perm, Hid.out H3, Hid.out H4⟩
/-- Rising, each once. -/
def Rising (l : List Nat) : Prop := ∀ p q, p < q → q < l.length → l.getD p 0 < l.getD q 0
theorem rising_of {l : List Nat} (h : SortedOn l 0 l.length) (hn : l.Nodup) : Rising l := by
  intro p q hpq hq
  have h1 := h p q (Nat.zero_le _) hpq hq
  have h2 : l.getD p 0 ≠ l.getD q 0 := by
    rw [List.getD_eq_getElem?_getD, List.getD_eq_getElem?_getD, List.getElem?_eq_getElem hq, List.getElem?_eq_getElem (by omega)]
    exact List.pairwise_iff_getElem.1 hn p q (by omega) hq hpq
  omega
theorem sort_small (w : World) (v : Value) (d : List Nat) (base : Nat) (hrow : w.ownsRow base 23 1 v d.length (words d)) (hlen : d.length ≤ 12) :
    Calls Try.prog 73 #[v] w fun e w' => e = .returned (.tuple #[]) ∧ ∃ m, m.Perm d ∧ SortedOn m 0 m.length ∧ w'.ownsRow base 23 1 v m.length (words m) ∧ w.grownBy w' v.ownBlock := by
  rcases hrow.2 with ⟨rfl, h0⟩ | ⟨g, cap, cur, rfl, hb, hg, hnc, hcm, hcs, htk⟩
  · have hd : d = [] := List.eq_nil_of_length_eq_zero h0
    subst hd
    have HL := hidden (len_any 0 (by omega) w)
    rw [show ((0 : Nat) : Int) = 0 from rfl] at HL
    have HP := fun k => hidden (pdq_nil w k)
    clear hrow h0 hlen
    go_enter Try.func73, Try.ntmps73
    go_wp2_with (first | (go_at_call 80; refine (Hid.out HL).mono ?_; rintro e w1 ⟨k, rfl, hww⟩; rw [hww]; clear hww w1) | (go_at_call 79; refine (Hid.out (HP _)).mono ?_; rintro e w1 ⟨rfl, hww⟩; rw [hww]; clear hww w1))
    go_end0
    exact ⟨rfl, [], List.Perm.refl _, fun p q h1 h2 h3 => by simp at h3, World.ownsRow_nil _ _ _ _, ⟨rfl, rfl, rfl, Nat.le_refl _, fun _ _ _ => rfl⟩⟩
  · have hS : Srow w g d (cur.toList.drop d.length) := by
      unfold Srow
      rw [hg]
      congr 2
      have e : cur.toList = words d ++ cur.toList.drop d.length := by
        rw [← htk, Nat.mul_one, List.take_append_drop]
      apply Array.ext'
      simp
      exact e
    have hcap : d.length ≤ cap := hnc
    have HL := hidden (len_any d.length (by omega) w)
    have HP := fun k => hidden (pdq_small w g cap d (cur.toList.drop d.length) k hS hlen)
    have hcl : (cur.toList.drop d.length).length = cap - d.length := by
      rw [List.length_drop, Array.length_toList, hcs, Nat.mul_one]
    generalize cur.toList.drop d.length = tl at HP hcl
    clear hrow hS hg htk hcs
    go_enter Try.func73, Try.ntmps73
    go_wp2_with (first | (go_at_call 80; refine (Hid.out HL).mono ?_; rintro e w1 ⟨k, rfl, hww⟩; rw [hww]; clear hww w1) | (go_at_call 79; refine (Hid.out (HP _)).mono ?_; rintro e w1 ⟨rfl, m, h1, h2, h3, h4⟩; have H1 := hidden h1; have H2 := hidden h2; have H3 := hidden h3; have H4 := hidden h4; clear h1 h2 h3 h4))
    go_end0
    have hml := (Hid.out H2).length_eq
    refine ⟨rfl, m, Hid.out H2, by rw [hml]; exact Hid.out H3, ⟨by rw [words_len, Nat.mul_one], .inr ⟨g, cap, _, by rw [hml], hb, Hid.out H1, by rw [hml]; exact hcap, hcm, ?_, ?_⟩⟩, ?_⟩
    · simp [words_len, hcl, hml]
      omega
    · simp [words_len]
    · exact only_grown (Hid.out H4)
theorem pages_small (w : World) (s : MS) (h : MemW w s) (hlen : s.ks.length ≤ 12) : Calls Try.prog 47 #[.pointer (some ⟨s.mb, 0, none⟩)] w fun e w' => ∃ ao cap l, e = .returned (.slice ao l.length cap) ∧ l.Perm s.ks ∧ Rising l ∧ Wds w' (.slice ao l.length cap) l ∧ Below w.heap.size w w' := by
  have hc := h.cell0
  have hnd := h.nodup
  have H56 := hidden (keysOf_any s.bm w)
  have hb0 : Below w.heap.size w (w.alloc (.cells #[.map (some s.bm)] 78)) := (Below.refl _ w).alloc (Nat.le_refl _) _
  have H64 := hidden (collect_any w.heap.size s.bm s.hb s.ks (by omega) (w.alloc (.cells #[.map (some s.bm)] 78)) (by simp) (by rw [cell_of_row _ _ _ _ _ _ (heap_alloc_new w _)]; rfl) ((hb0.block s.bm (h.lt (.inr (.inl rfl)))).trans h.map) hnd)
  have HB0 := hidden hb0
  have H55 : Hid (Calls Try.prog 63 #[.func (.func 74) #[] #[.pointer (some ⟨w.heap.size, 0, none⟩)]] (w.alloc (.cells #[.map (some s.bm)] 78)) fun e w' => ∃ ao cap l, e = .returned (.slice ao l.length cap) ∧ l.Perm s.ks ∧ Rising l ∧ Wds w' (.slice ao l.length cap) l ∧ Below w.heap.size w w') := by
    show Calls Try.prog 63 #[.func (.func 74) #[] #[.pointer (some ⟨w.heap.size, 0, none⟩)]] (w.alloc (.cells #[.map (some s.bm)] 78)) fun e w' => ∃ ao cap l, e = .returned (.slice ao l.length cap) ∧ l.Perm s.ks ∧ Rising l ∧ Wds w' (.slice ao l.length cap) l ∧ Below w.heap.size w w'
    have H65 : Hid (∀ u v ss, ss.Perm s.ks → u.ownsRow (w.alloc (.cells #[.map (some s.bm)] 78)).heap.size 23 1 v ss.length (words ss) → Calls Try.prog 73 #[v] u fun e w' => e = .returned (.tuple #[]) ∧ ∃ m, m.Perm ss ∧ SortedOn m 0 m.length ∧ w'.ownsRow (w.alloc (.cells #[.map (some s.bm)] 78)).heap.size 23 1 v m.length (words m) ∧ u.grownBy w' v.ownBlock) := fun u v ss hp hr => sort_small u v ss _ hr (by rw [hp.length_eq]; exact hlen)
    have HND := hidden hnd
    clear h hc H56 hnd hb0
    go_enter Try.func63, Try.ntmps63
    go_wp2_with (first | (go_at_call 72; refine (Hid.out H64).mono ?_; rintro e w2 ⟨v, ss, rfl, hp, hr, hn, hb⟩; obtain ⟨va, vn, vc, rfl⟩ := row_slice hr; have HP := hidden hp; have HR := hidden hr; have HB := hidden hb; clear hp hr hn hb H64) | (go_at_call 73; refine (Hid.out H65 _ _ _ (Hid.out HP) (Hid.out HR)).mono ?_; rintro e w3 ⟨rfl, m, hm1, hm2, hm3, hm4⟩; have HM1 := hidden hm1; have HM2 := hidden hm2; have HM3 := hidden hm3; have HM4 := hidden hm4; clear hm1 hm2 hm3 hm4))
    go_ret
    have hperm := (Hid.out HM1).trans (Hid.out HP)
    obtain ⟨ao, cap, e, hwd⟩ := wds_of_row (Hid.out HM3)
    simp only [Value.slice.injEq] at e
    obtain ⟨rfl, rfl, rfl⟩ := e
    refine ⟨_, _, m, rfl, hperm, rising_of (Hid.out HM2) (hperm.nodup_iff.2 (Hid.out HND)), ⟨_, _, rfl, hwd⟩, ?_⟩
    have hbb := (Hid.out HB0).trans ((Hid.out HB).mono (Hid.out HB0).size)
    exact hbb.grown (Hid.out HM4) hbb.size fun g hg => Nat.le_trans (Hid.out HB0).size (row_base (Hid.out HM3) g hg)
  clear h hnd H64 hb0 HB0
  go_enter Try.func47, Try.ntmps47
  go_wp2_with (first | (go_at_call 64; refine (Hid.out H56).mono ?_; rintro e w1 ⟨rfl, hww⟩; rw [hww]; clear hww w1) | (go_at_call 63; refine (Hid.out H55).mono ?_; rintro e w2 ⟨ao, cap, l, rfl, h1, h2, h3, h4⟩; have H1 := hidden h1; have H2 := hidden h2; have H3 := hidden h3; have H4 := hidden h4; clear h1 h2 h3 h4))
  go_ret
  exact ⟨ao, cap, l, rfl, Hid.out H1, Hid.out H2, Hid.out H3, Hid.out H4⟩
end Go.Proofs.Ytkpcajmphhdmiaa
namespace Go.Proofs.Ytkpcajmphhdmiaa
open Go.ChangeShapes Go.WideShapes Go.ChangeAt Go.RowKit
set_option linter.unusedVariables false
/-- The bytes from a place on. -/
def MS.span (s : MS) (a n : Nat) : List UInt8 := (List.range n).map fun i => s.get (wrapAt a i)
theorem span_len (s : MS) (a n : Nat) : (s.span a n).length = n := by simp [MS.span]
theorem span_get (s : MS) (a n j : Nat) (h : j < n) : (s.span a n).getD j 0 = s.get (wrapAt a j) := by simp [MS.span, List.getD_eq_getElem?_getD, h]
/-- So much of a word. -/
def preW (s : MS) (a : Nat) : Nat → Nat
  | 0 => 0
  | k + 1 => preW s a k * 256 + (s.get (wrapAt a k)).toNat
theorem preW_lt (s : MS) (a : Nat) : ∀ k, preW s a k < 256 ^ k
  | 0 => by simp [preW]
  | k + 1 => by
    have h1 := preW_lt s a k
    have h2 := UInt8.toNat_lt (s.get (wrapAt a k))
    rw [preW, Nat.pow_succ]
    have : (preW s a k + 1) * 256 ≤ 256 ^ k * 256 := Nat.mul_le_mul_right _ h1
    omega
theorem u32_or_low (x y : Nat) (hx : x < 16777216) (hy : y < 256) : bits .or .u32 ((x : Int) * 256) (y : Int) = (x : Int) * 256 + (y : Int) := by
  have e0 : (x : Int) * 256 = ((2 ^ 8 * x : Nat) : Int) := by omega
  have e1 : (BitVec.ofInt 32 ((2 ^ 8 * x : Nat) : Int)).toNat = 2 ^ 8 * x := by
    rw [BitVec.toNat_ofInt]
    omega
  have e2 : (BitVec.ofInt 32 (y : Int)).toNat = y := by
    rw [BitVec.toNat_ofInt]
    omega
  rw [e0]
  show IntKind.u32.wrap ((BitVec.ofInt 32 ((2 ^ 8 * x : Nat) : Int) ||| BitVec.ofInt 32 (y : Int)).toNat : Nat) = _
  rw [BitVec.toNat_or, e1, e2, ← Nat.two_pow_add_eq_or_of_lt (by omega)]
  simp only [IntKind.wrap_u32]
  omega
set_option maxRecDepth 20000 in
theorem word_any (w : World) (s : MS) (a : Nat) (h : MemW w s) (ha : a < 4294967296) : Calls Try.prog 23 #[.pointer (some ⟨s.mb, 0, none⟩), .int .u32 (a : Int)] w fun e w' => e = .returned (.int .u32 (preW s a 4 : Int)) ∧ ∃ n, w' = w.drewN n := by
  have H := hidden h
  clear h
  go_enter Try.func23, Try.ntmps23
  go_wp2
  go_loopw [5, 6, 7] (fun x5 x6 x7 wr => ∃ (k : Nat), k ≤ 4 ∧ x7 = .int .u32 (k : Int) ∧ x5 = .int .u32 (preW s a k : Int) ∧ ∃ n, wr = w.drewN n) (fun x5 x6 x7 _ => 4 - (intOf x7).toNat)
  case atStart => exact ⟨0, by omega, rfl, rfl, 0, rfl⟩
  case round =>
    obtain ⟨k, hk, rfl, rfl, n, rfl⟩ := hrel
    by_cases hk4 : k < 4
    · have H28 := hidden (peek_any (w.drewN n) s (wrapAt a k) ((Hid.out H).drewN n) (wrapAt_lt _ _))
      rw [show ((wrapAt a k : Nat) : Int) = ((a : Int) + (k : Int)) % 4294967296 by unfold wrapAt; omega] at H28
      have hb := UInt8.toNat_lt (s.get (wrapAt a k))
      have hp : preW s a k < 16777216 := Nat.lt_of_lt_of_le (preW_lt s a k) (by
        have : 256 ^ k ≤ 256 ^ 3 := Nat.pow_le_pow_right (by omega) (by omega)
        simpa using this)
      have hor := u32_or_low _ _ hp hb
      have HP : Hid (preW s a (k + 1) = preW s a k * 256 + (s.get (wrapAt a k)).toNat) := rfl
      generalize hgx : (s.get (wrapAt a k)).toNat = x at hb hor HP
      rw [hgx] at H28
      clear hgx
      generalize hgp : preW s a k = y at hor HP hp
      clear hgp
      go_wp2_with (go_at_call 39; with_reducible refine (Hid.out H28).mono ?_; rintro e w1 ⟨rfl, m, hww⟩; rw [hww]; clear hww w1)
      go_roundw
      case rel => exact ⟨k + 1, by omega, by simp, by rw [Hid.out HP]; simp, _, rfl⟩
      case measure => simp [intOf]; omega
    · obtain rfl : k = 4 := by omega
      go_wp2
      go_ret
      exact ⟨rfl, _, rfl⟩
def cutLen (n : Int) : Nat := (min (max n 0) 16384).toNat
theorem make45 (M : Nat) (h : M ≤ 16384) (w : World) : (Instr.makeSlice 46 (.int .i64 (M : Int)) (.int .i64 (M : Int))).run Try.prog w = .ok (.slice (some ⟨w.heap.size, 0, none⟩) M M) (w.alloc (.cells (madeCells #[.int .u8 0] M) 5)) := by
  obtain ⟨i0, hi, hz0, hz1, hz2⟩ := info_parts info5
  have h := run_make (P := Try.prog) w 46 5 i0 (.int .u8 0) Try.underlying46 hi hz0 .i64 .i64 (M : Int) (M : Int) (by omega) (Int.le_refl _) (by rw [hz2]; omega) (by omega)
  rw [hz1, Nat.mul_one, Int.toNat_natCast] at h
  exact h
/-- A row of bytes on the way. -/
def Brow (w : World) (g : Nat) (d : List UInt8) : Prop := w.heap[g]? = some (.cells (cellsU d).toArray 5 (0, 0))
theorem Brow.set {w : World} {g : Nat} {d : List UInt8} (h : Brow w g d) {j : Nat} (hj : j < d.length) (v : UInt8) : Brow (w.setCell ⟨g, j, none⟩ (.int .u8 (v.toNat : Int))) g (d.set j v) := by
  unfold Brow
  rw [heap_setCell_same _ _ _ _ _ _ h, List.setIfInBounds_toArray, cellsU_set]
theorem Brow.cell {w : World} {g : Nat} {d : List UInt8} (h : Brow w g d) {j : Nat} (hj : j < d.length) : w.cell? ⟨g, j, none⟩ = some (.int .u8 ((d.getD j 0).toNat : Int)) := by
  rw [cell_of_row _ _ _ _ _ _ h, List.getElem?_toArray, cellsU_get d j hj]
theorem Brow.row {w : World} {g : Nat} {d : List UInt8} (h : Brow w g d) (hm : d.length ≤ 16384) : Row w (some ⟨g, 0, none⟩) d d.length :=
  ⟨Nat.le_refl _, by unfold maxLen; omega, by simp, .inr ⟨g, 0, rfl, fun j hj => by rw [Nat.zero_add]; exact h.cell hj⟩⟩
theorem made_cells (M : Nat) : madeCells #[.int .u8 0] M = (cellsU (List.replicate M 0)).toArray := by
  apply Array.ext'
  rw [toList_madeCells_one, cellsU, List.map_replicate]
  rfl
theorem span_set (s : MS) (a k M : Nat) (h : k < M) : (s.span a k ++ List.replicate (M - k) 0).set k (s.get (wrapAt a k)) = s.span a (k + 1) ++ List.replicate (M - (k + 1)) 0 := by
  rw [List.set_append_right _ _ (by rw [span_len]; exact Nat.le_refl _), span_len, Nat.sub_self, show M - k = (M - (k + 1)) + 1 by omega, List.replicate_succ, List.set_cons_zero]
  unfold MS.span
  rw [List.range_succ, List.map_append, List.append_assoc]
  rfl
set_option maxRecDepth 20000 in
set_option maxHeartbeats 1000000 in
theorem mbytes_any (w : World) (s : MS) (a : Nat) (n : Int) (h : MemW w s) (ha : a < 4294967296) : Calls Try.prog 48 #[.pointer (some ⟨s.mb, 0, none⟩), .int .u32 (a : Int), .int .i64 n] w fun e w' => ∃ ao, e = .returned (.slice ao (s.span a (cutLen n)).length (cutLen n)) ∧ Row w' ao (s.span a (cutLen n)) (cutLen n) ∧ Below w.heap.size w w' := by
  obtain ⟨M, hM⟩ : ∃ M, M = cutLen n := ⟨_, rfl⟩
  rw [← hM, span_len]
  have hM2 : M ≤ 16384 := by rw [hM]; unfold cutLen; omega
  have hmk := make45 M hM2 w
  have hMz : (M : Int) = min (max n 0) 16384 := by rw [hM]; unfold cutLen; omega
  have H := hidden h
  have HB : Hid (Brow (w.alloc (.cells (madeCells #[.int .u8 0] M) 5)) w.heap.size (List.replicate M 0)) := by
    show _ = _
    rw [heap_alloc_new w _, made_cells]
  clear h hM
  by_cases hn0 : n < 0
  · have hM0 : (M : Int) = 0 := by omega
    rw [hM0] at hmk
    clear hMz hM0
    go_enter Try.func48, Try.ntmps48
    go_wp2
    go_loopw [8, 15] (fun x8 x15 wr => ∃ (k : Nat), k ≤ M ∧ x15 = .int .i64 (k : Int) ∧ Brow wr w.heap.size (s.span a k ++ List.replicate (M - k) 0) ∧ Below w.heap.size w wr) (fun x8 x15 _ => M - (intOf x15).toNat)
    case atStart => exact ⟨0, by omega, rfl, Hid.out HB, (Below.refl _ w).alloc (Nat.le_refl _) _⟩
    case round =>
      obtain ⟨k, hk, rfl, hbr, hbel⟩ := hrel
      have HBR := hidden hbr
      have HBL := hidden hbel
      by_cases hkM : k < M
      · have hkM2 : (k : Int) < (M : Int) := by omega
        have H28 := hidden (peek_any wr s (wrapAt a k) ((Hid.out H).later hbel) (wrapAt_lt _ _))
        rw [show ((wrapAt a k : Nat) : Int) = ((a : Int) + (k : Int)) % 4294967296 by unfold wrapAt; omega] at H28
        have hcl : k < (s.span a k ++ List.replicate (M - k) 0).length := by rw [List.length_append, span_len, List.length_replicate]; omega
        have HC : Hid (∀ m, ∃ y, (wr.drewN m).cell? ⟨w.heap.size, k, none⟩ = some (.int .u8 y) ∧ (wr.drewN m).frozen? ⟨w.heap.size, k, none⟩ = false) := fun m => ⟨_, hbr.cell hcl, frozen_of_row _ _ _ _ _ hbr⟩
        have HN : Hid (∀ m, Brow ((wr.drewN m).setCell ⟨w.heap.size, k, none⟩ (.int .u8 ((s.get (wrapAt a k)).toNat : Int))) w.heap.size (s.span a (k + 1) ++ List.replicate (M - (k + 1)) 0)) := fun m => by
          have := Brow.set (w := wr.drewN m) hbr hcl (s.get (wrapAt a k))
          rw [span_set s a k M hkM] at this
          exact this
        clear hbr hbel
        generalize (s.get (wrapAt a k)).toNat = x at H28 HN
        go_wp2_with (go_at_call 39; with_reducible refine (Hid.out H28).mono ?_; rintro e w1 ⟨rfl, m, hww⟩; rw [hww]; obtain ⟨y, hc1, hc2⟩ := Hid.out HC m; clear hww w1)
        go_roundw
        case rel => exact ⟨k + 1, by omega, by simp, Hid.out HN _, (below_drewN (Hid.out HBL) _).setCell (p := ⟨w.heap.size, k, none⟩) (Nat.le_refl _) _⟩
        case measure => simp [intOf]; omega
      · have hkM2 : ¬ (k : Int) < (M : Int) := by omega
        obtain rfl : k = M := by omega
        clear hbr hbel
        go_wp2
        go_ret
        have hb2 := Hid.out HBR
        rw [Nat.sub_self, List.replicate_zero, List.append_nil] at hb2
        refine ⟨_, rfl, ?_, Hid.out HBL⟩
        have := hb2.row (by rw [span_len]; exact hM2)
        rw [span_len] at this
        exact this
  · by_cases hn1 : 16384 < n
    · have hM0 : (M : Int) = 16384 := by omega
      rw [hM0] at hmk
      clear hMz hM0
      go_enter Try.func48, Try.ntmps48
      go_wp2
      go_loopw [8, 15] (fun x8 x15 wr => ∃ (k : Nat), k ≤ M ∧ x15 = .int .i64 (k : Int) ∧ Brow wr w.heap.size (s.span a k ++ List.replicate (M - k) 0) ∧ Below w.heap.size w wr) (fun x8 x15 _ => M - (intOf x15).toNat)
      case atStart => exact ⟨0, by omega, rfl, Hid.out HB, (Below.refl _ w).alloc (Nat.le_refl _) _⟩
      case round =>
        obtain ⟨k, hk, rfl, hbr, hbel⟩ := hrel
        have HBR := hidden hbr
        have HBL := hidden hbel
        by_cases hkM : k < M
        · have hkM2 : (k : Int) < (M : Int) := by omega
          have H28 := hidden (peek_any wr s (wrapAt a k) ((Hid.out H).later hbel) (wrapAt_lt _ _))
          rw [show ((wrapAt a k : Nat) : Int) = ((a : Int) + (k : Int)) % 4294967296 by unfold wrapAt; omega] at H28
          have hcl : k < (s.span a k ++ List.replicate (M - k) 0).length := by rw [List.length_append, span_len, List.length_replicate]; omega
          have HC : Hid (∀ m, ∃ y, (wr.drewN m).cell? ⟨w.heap.size, k, none⟩ = some (.int .u8 y) ∧ (wr.drewN m).frozen? ⟨w.heap.size, k, none⟩ = false) := fun m => ⟨_, hbr.cell hcl, frozen_of_row _ _ _ _ _ hbr⟩
          have HN : Hid (∀ m, Brow ((wr.drewN m).setCell ⟨w.heap.size, k, none⟩ (.int .u8 ((s.get (wrapAt a k)).toNat : Int))) w.heap.size (s.span a (k + 1) ++ List.replicate (M - (k + 1)) 0)) := fun m => by
            have := Brow.set (w := wr.drewN m) hbr hcl (s.get (wrapAt a k))
            rw [span_set s a k M hkM] at this
            exact this
          clear hbr hbel
          generalize (s.get (wrapAt a k)).toNat = x at H28 HN
          go_wp2_with (go_at_call 39; with_reducible refine (Hid.out H28).mono ?_; rintro e w1 ⟨rfl, m, hww⟩; rw [hww]; obtain ⟨y, hc1, hc2⟩ := Hid.out HC m; clear hww w1)
          go_roundw
          case rel => exact ⟨k + 1, by omega, by simp, Hid.out HN _, (below_drewN (Hid.out HBL) _).setCell (p := ⟨w.heap.size, k, none⟩) (Nat.le_refl _) _⟩
          case measure => simp [intOf]; omega
        · have hkM2 : ¬ (k : Int) < (M : Int) := by omega
          obtain rfl : k = M := by omega
          clear hbr hbel
          go_wp2
          go_ret
          have hb2 := Hid.out HBR
          rw [Nat.sub_self, List.replicate_zero, List.append_nil] at hb2
          refine ⟨_, rfl, ?_, Hid.out HBL⟩
          have := hb2.row (by rw [span_len]; exact hM2)
          rw [span_len] at this
          exact this
    · have hMn : (M : Int) = n := by omega
      rw [hMn] at hmk
      subst hMn
      clear hMz
      go_enter Try.func48, Try.ntmps48
      go_wp2
      go_loopw [8, 15] (fun x8 x15 wr => ∃ (k : Nat), k ≤ M ∧ x15 = .int .i64 (k : Int) ∧ Brow wr w.heap.size (s.span a k ++ List.replicate (M - k) 0) ∧ Below w.heap.size w wr) (fun x8 x15 _ => M - (intOf x15).toNat)
      case atStart => exact ⟨0, by omega, rfl, Hid.out HB, (Below.refl _ w).alloc (Nat.le_refl _) _⟩
      case round =>
        obtain ⟨k, hk, rfl, hbr, hbel⟩ := hrel
        have HBR := hidden hbr
        have HBL := hidden hbel
        by_cases hkM : k < M
        · have hkM2 : (k : Int) < (M : Int) := by omega
          have H28 := hidden (peek_any wr s (wrapAt a k) ((Hid.out H).later hbel) (wrapAt_lt _ _))
          rw [show ((wrapAt a k : Nat) : Int) = ((a : Int) + (k : Int)) % 4294967296 by unfold wrapAt; omega] at H28
          have hcl : k < (s.span a k ++ List.replicate (M - k) 0).length := by rw [List.length_append, span_len, List.length_replicate]; omega
          have HC : Hid (∀ m, ∃ y, (wr.drewN m).cell? ⟨w.heap.size, k, none⟩ = some (.int .u8 y) ∧ (wr.drewN m).frozen? ⟨w.heap.size, k, none⟩ = false) := fun m => ⟨_, hbr.cell hcl, frozen_of_row _ _ _ _ _ hbr⟩
          have HN : Hid (∀ m, Brow ((wr.drewN m).setCell ⟨w.heap.size, k, none⟩ (.int .u8 ((s.get (wrapAt a k)).toNat : Int))) w.heap.size (s.span a (k + 1) ++ List.replicate (M - (k + 1)) 0)) := fun m => by
            have := Brow.set (w := wr.drewN m) hbr hcl (s.get (wrapAt a k))
            rw [span_set s a k M hkM] at this
            exact this
          clear hbr hbel
          generalize (s.get (wrapAt a k)).toNat = x at H28 HN
          go_wp2_with (go_at_call 39; with_reducible refine (Hid.out H28).mono ?_; rintro e w1 ⟨rfl, m, hww⟩; rw [hww]; obtain ⟨y, hc1, hc2⟩ := Hid.out HC m; clear hww w1)
          go_roundw
          case rel => exact ⟨k + 1, by omega, by simp, Hid.out HN _, (below_drewN (Hid.out HBL) _).setCell (p := ⟨w.heap.size, k, none⟩) (Nat.le_refl _) _⟩
          case measure => simp [intOf]; omega
        · have hkM2 : ¬ (k : Int) < (M : Int) := by omega
          obtain rfl : k = M := by omega
          clear hbr hbel
          go_wp2
          go_ret
          have hb2 := Hid.out HBR
          rw [Nat.sub_self, List.replicate_zero, List.append_nil] at hb2
          refine ⟨_, rfl, ?_, Hid.out HBL⟩
          have := hb2.row (by rw [span_len]; exact hM2)
          rw [span_len] at this
          exact this
end Go.Proofs.Ytkpcajmphhdmiaa

/- Segments in memory, and what is asked of one or two of them. -/
import Derived.Test.YtpknppicamefgaaQMAI
namespace Go.Proofs.Ytpknppicamefgaa
open Go.ChangeShapes Go.WideShapes Go.ChangeAt Go.RowKit
set_option linter.unusedVariables false
/-- A segment whose numbers are such as 32 bits hold. -/
structure Fit (s : Sg) : Prop where
  la : s.at_ < 4294967296
  ls : s.size < 4294967296
  ld : s.data.length ≤ 9223372036854775807
structure SegAt (w : World) (b o : Nat) (s : Sg) : Prop where
  c0 : w.cell? ⟨b, o, none⟩ = some (.int .u32 (s.at_ : Int))
  c1 : w.cell? ⟨b, o + 1, none⟩ = some (.string ⟨s.data.toArray⟩)
  c2 : w.cell? ⟨b, o + 2, none⟩ = some (.int .u32 (s.size : Int))
  c3 : w.cell? ⟨b, o + 3, none⟩ = some (.int .i64 s.perm)
  fit : Fit s
def Segs (w : World) (ao : Option Addr) (l : List Sg) : Prop := l = [] ∨ ∃ b off, ao = some ⟨b, off, none⟩ ∧ b < w.heap.size ∧ ∀ j, j < l.length → SegAt w b (off + j * 4) (l.getD j nosg)
theorem SegAt.later {w w' : World} {b o : Nat} {p : Sg} (h : SegAt w b o p) (hlt : b < w.heap.size) (hb : Below w.heap.size w w') : SegAt w' b o p :=
  ⟨(hb.cell (p := ⟨b, o, none⟩) hlt).trans h.c0, (hb.cell (p := ⟨b, o + 1, none⟩) hlt).trans h.c1, (hb.cell (p := ⟨b, o + 2, none⟩) hlt).trans h.c2, (hb.cell (p := ⟨b, o + 3, none⟩) hlt).trans h.c3, h.fit⟩
theorem Segs.later {w w' : World} {ao : Option Addr} {l : List Sg} (h : Segs w ao l) (hb : Below w.heap.size w w') : Segs w' ao l := by
  rcases h with h | ⟨b, off, e, hlt, h⟩
  · exact .inl h
  · exact .inr ⟨b, off, e, Nat.lt_of_lt_of_le hlt hb.size, fun j hj => (h j hj).later hlt hb⟩
theorem Segs.at {w : World} {ao : Option Addr} {l : List Sg} (h : Segs w ao l) {k : Nat} (hk : k < l.length) : ∃ b off, ao = some ⟨b, off, none⟩ ∧ b < w.heap.size ∧ ∀ j, j < l.length → SegAt w b (off + j * 4) (l.getD j nosg) := by
  rcases h with h | h
  · rw [h] at hk; simp at hk
  · exact h
theorem Segs.fit {w : World} {ao : Option Addr} {l : List Sg} (h : Segs w ao l) {k : Nat} (hk : k < l.length) : Fit (l.getD k nosg) := by
  obtain ⟨b, off, _, _, h⟩ := h.at hk
  exact (h k hk).fit
/-- A block with these cells. -/
def Blk (w : World) (n : Nat) (cs : Array Value) (T : TypeId) : Prop := w.heap[n]? = some (.cells cs T (0, 0))
theorem Blk.lt {w : World} {n : Nat} {cs : Array Value} {T : TypeId} (h : Blk w n cs T) : n < w.heap.size := (Array.getElem?_eq_some_iff.1 h).1
theorem Blk.cell {w : World} {n : Nat} {cs : Array Value} {T : TypeId} (h : Blk w n cs T) {j : Nat} {v : Value} (hj : cs[j]? = some v) : w.cell? ⟨n, j, none⟩ = some v := (cell_of_row _ _ _ _ _ _ h).trans hj
theorem Blk.later {w w' : World} {n : Nat} {cs : Array Value} {T : TypeId} (h : Blk w n cs T) (hb : Below w.heap.size w w') : Blk w' n cs T := (hb.block n h.lt).trans h
theorem Blk.new (w : World) (cs : Array Value) (T : TypeId) : Blk (w.alloc (.cells cs T)) w.heap.size cs T := heap_alloc_new w _
theorem below_new (w : World) (o : Obj) : Below w.heap.size w (w.alloc o) := (Below.refl _ w).alloc (Nat.le_refl _) _
theorem bthen {u v w : World} (h : Below u.heap.size u v) (k : Below v.heap.size v w) : Below u.heap.size u w := h.trans (k.mono h.size)
theorem and1 (n : Int) : bits .and .i64 n 1 = n % 2 := by
  have h7 : (BitVec.ofInt 64 1).toNat = 2 ^ 1 - 1 := by decide
  have key : (BitVec.ofInt 64 n &&& BitVec.ofInt 64 1).toNat = (n % ((2 ^ 64 : Nat) : Int)).toNat % 2 ^ 1 := by
    rw [BitVec.toNat_and, BitVec.toNat_ofInt, h7, Nat.and_two_pow_sub_one_eq_mod]
  show IntKind.i64.wrap ((BitVec.ofInt 64 n &&& BitVec.ofInt 64 1).toNat : Nat) = n % 2
  rw [key, IntKind.wrap_i64]
  omega
set_option maxRecDepth 20000 in
theorem fits_any (s : Sg) (h : Fit s) (w : World) : Calls Try.prog 42 #[.agg #[.int .u32 (s.at_ : Int), .string ⟨s.data.toArray⟩, .int .u32 (s.size : Int), .int .i64 s.perm]] w fun e w' => e = .returned (.bool (fitsB s)) ∧ Below w.heap.size w w' := by
  obtain ⟨at_, data, size, perm⟩ := s
  obtain ⟨la, ls, ld⟩ := h
  simp only at la ls ld ⊢
  unfold fitsB
  simp only
  have hsz : (ByteArray.mk data.toArray).size = data.length := by simp [ByteArray.size]
  by_cases h1 : size ≤ 16384
  · have k1 : (size : Int) ≤ 16384 := by omega
    by_cases h2 : data.length ≤ size
    · have k2 : (data.length : Int) ≤ (size : Int) := by omega
      by_cases h3 : at_ + size ≤ 2147483648
      · have k3 : (at_ : Int) + (size : Int) ≤ 2147483648 := by omega
        rw [decide_eq_true h1, decide_eq_true h2, decide_eq_true h3]
        go_enter Try.func42, Try.ntmps42
        go_wp2
        go_ret
        exact ⟨rfl, (Below.refl _ _).alloc (Nat.le_refl _) _⟩
      · have k3 : ¬ (at_ : Int) + (size : Int) ≤ 2147483648 := by omega
        rw [decide_eq_true h1, decide_eq_true h2, decide_eq_false h3]
        go_enter Try.func42, Try.ntmps42
        go_wp2
        go_ret
        exact ⟨rfl, (Below.refl _ _).alloc (Nat.le_refl _) _⟩
    · have k2 : ¬ (data.length : Int) ≤ (size : Int) := by omega
      rw [decide_eq_true h1, decide_eq_false h2]
      go_enter Try.func42, Try.ntmps42
      go_wp2
      go_ret
      exact ⟨rfl, (Below.refl _ _).alloc (Nat.le_refl _) _⟩
  · have k1 : ¬ (size : Int) ≤ 16384 := by omega
    rw [decide_eq_false h1]
    go_enter Try.func42, Try.ntmps42
    go_wp2
    go_ret
    exact ⟨rfl, (Below.refl _ _).alloc (Nat.le_refl _) _⟩
set_option maxRecDepth 20000 in
theorem lastPage_any (s : Sg) (h : okB s = true) (w : World) : Calls Try.prog 83 #[.agg #[.int .u32 (s.at_ : Int), .string ⟨s.data.toArray⟩, .int .u32 (s.size : Int), .int .i64 s.perm]] w fun e w' => e = .returned (.int .u32 (lastPg s : Int)) ∧ Below w.heap.size w w' := by
  obtain ⟨h1, h2, h3, h4, h5, h6⟩ := ok_size h
  unfold lastPg
  obtain ⟨at_, data, size, perm⟩ := s
  clear h
  simp only at h1 h2 h3 h4 h5 h6 ⊢
  have e : ((at_ : Int) + (size : Int)) % 4294967296 = (at_ : Int) + (size : Int) := by omega
  go_enter Try.func83, Try.ntmps83
  go_wp2
  go_ret
  exact ⟨ret_int (by omega), (Below.refl _ _).alloc (Nat.le_refl _) _⟩
end Go.Proofs.Ytpknppicamefgaa
namespace Go.Proofs.Ytpknppicamefgaa
open Go.ChangeShapes Go.WideShapes Go.ChangeAt Go.RowKit
set_option linter.unusedVariables false
theorem list15 : ∀ xs : List Value, xs.length = 15 → ∃ x0 x1 x2 x3 x4 x5 x6 x7 x8 x9 x10 x11 x12 x13 x14, xs = [x0, x1, x2, x3, x4, x5, x6, x7, x8, x9, x10, x11, x12, x13, x14]
  | [x0, x1, x2, x3, x4, x5, x6, x7, x8, x9, x10, x11, x12, x13, x14], _ => ⟨_, _, _, _, _, _, _, _, _, _, _, _, _, _, _, rfl⟩
/-- What the slots of the region hold, whatever the order. -/
def phiShtt (n m : Nat) (s o : Sg) : Nat → Value → World → Prop
  | 0, x, _ => x = .pointer (some ⟨n, 0, none⟩)
  | 1, x, _ => x = .int .u32 (s.at_ : Int)
  | 2, x, _ => x = .int .u32 ((s.at_ / 256 : Nat) : Int)
  | 3, x, _ => x = .agg #[.int .u32 (o.at_ : Int), .string ⟨o.data.toArray⟩, .int .u32 (o.size : Int), .int .i64 o.perm]
  | 4, x, _ => x = .int .u32 (lastPg o : Int)
  | 5, x, _ => x = .bool true
  | 6, x, _ => x = .bool true
  | 7, x, _ => x = .pointer (some ⟨m, 0, none⟩)
  | 8, x, _ => x = .int .u32 (o.at_ : Int)
  | 9, x, _ => x = .int .u32 ((o.at_ / 256 : Nat) : Int)
  | 10, x, _ => x = .agg #[.int .u32 (s.at_ : Int), .string ⟨s.data.toArray⟩, .int .u32 (s.size : Int), .int .i64 s.perm]
  | 11, x, _ => x = .int .u32 (lastPg s : Int)
  | 12, x, _ => x = .bool true
  | 13, x, _ => x = .bool true
  | 14, x, _ => x = .bool true
  | _ + 15, _, _ => True
theorem phiShtt_mono (n m : Nat) (s o : Sg) : ∀ i x w w', phiShtt n m s o i x w → Below w.heap.size w w' → phiShtt n m s o i x w'
  | 0, _, _, _, h, _ => h
  | 1, _, _, _, h, _ => h
  | 2, _, _, _, h, _ => h
  | 3, _, _, _, h, _ => h
  | 4, _, _, _, h, _ => h
  | 5, _, _, _, h, _ => h
  | 6, _, _, _, h, _ => h
  | 7, _, _, _, h, _ => h
  | 8, _, _, _, h, _ => h
  | 9, _, _, _, h, _ => h
  | 10, _, _, _, h, _ => h
  | 11, _, _, _, h, _ => h
  | 12, _, _, _, h, _ => h
  | 13, _, _, _, h, _ => h
  | 14, _, _, _, h, _ => h
  | _ + 15, _, _, _, _, _ => trivial
set_option maxRecDepth 20000 in
set_option maxHeartbeats 2000000 in
theorem share_Shtt (s o : Sg) (ks : okB s = true) (ko : okB o = true) (c1 : s.at_ / 256 ≤ lastPg o) (c2 : o.at_ / 256 ≤ lastPg s) (w : World) : Calls Try.prog 67 #[.agg #[.int .u32 (s.at_ : Int), .string ⟨s.data.toArray⟩, .int .u32 (s.size : Int), .int .i64 s.perm], .agg #[.int .u32 (o.at_ : Int), .string ⟨o.data.toArray⟩, .int .u32 (o.size : Int), .int .i64 o.perm]] w fun e w' => e = .returned (.bool true) ∧ Below w.heap.size w w' := by
  have la : s.at_ < 4294967296 := by have := ok_size ks; omega
  have lo : o.at_ < 4294967296 := by have := ok_size ko; omega
  obtain ⟨n, hn⟩ : ∃ n, n = w.heap.size := ⟨_, rfl⟩
  obtain ⟨m, hm⟩ : ∃ m, m = w.heap.size + 1 := ⟨_, rfl⟩
  have hS1 : (w.alloc (.cells #[.int .u32 (s.at_ : Int), .string ⟨s.data.toArray⟩, .int .u32 (s.size : Int), .int .i64 s.perm] 44)).heap[n]? = some (.cells #[.int .u32 (s.at_ : Int), .string ⟨s.data.toArray⟩, .int .u32 (s.size : Int), .int .i64 s.perm] 44 (0, 0)) := by rw [hn]; exact heap_alloc_new w _
  have hS2 : ((w.alloc (.cells #[.int .u32 (s.at_ : Int), .string ⟨s.data.toArray⟩, .int .u32 (s.size : Int), .int .i64 s.perm] 44)).alloc (.cells #[.int .u32 (o.at_ : Int), .string ⟨o.data.toArray⟩, .int .u32 (o.size : Int), .int .i64 o.perm] 44)).heap[n]? = some (.cells #[.int .u32 (s.at_ : Int), .string ⟨s.data.toArray⟩, .int .u32 (s.size : Int), .int .i64 s.perm] 44 (0, 0)) := (((Below.refl _ (w.alloc (.cells #[.int .u32 (s.at_ : Int), .string ⟨s.data.toArray⟩, .int .u32 (s.size : Int), .int .i64 s.perm] 44))).alloc (Nat.le_refl _) _).block n (by simp [hn])).trans hS1
  have hO2 : ((w.alloc (.cells #[.int .u32 (s.at_ : Int), .string ⟨s.data.toArray⟩, .int .u32 (s.size : Int), .int .i64 s.perm] 44)).alloc (.cells #[.int .u32 (o.at_ : Int), .string ⟨o.data.toArray⟩, .int .u32 (o.size : Int), .int .i64 o.perm] 44)).heap[m]? = some (.cells #[.int .u32 (o.at_ : Int), .string ⟨o.data.toArray⟩, .int .u32 (o.size : Int), .int .i64 o.perm] 44 (0, 0)) := by
    have := heap_alloc_new (w.alloc (.cells #[.int .u32 (s.at_ : Int), .string ⟨s.data.toArray⟩, .int .u32 (s.size : Int), .int .i64 s.perm] 44)) (.cells #[.int .u32 (o.at_ : Int), .string ⟨o.data.toArray⟩, .int .u32 (o.size : Int), .int .i64 o.perm] 44)
    rw [World.size_alloc, ← hm] at this
    exact this
  have bel : Below w.heap.size w ((w.alloc (.cells #[.int .u32 (s.at_ : Int), .string ⟨s.data.toArray⟩, .int .u32 (s.size : Int), .int .i64 s.perm] 44)).alloc (.cells #[.int .u32 (o.at_ : Int), .string ⟨o.data.toArray⟩, .int .u32 (o.size : Int), .int .i64 o.perm] 44)) := ((Below.refl _ w).alloc (Nat.le_refl _) _).alloc (by simp) _
  go_enter Try.func67, Try.ntmps67
  go_wp2
  rw [← hm, ← hn]
  refine wp_region_on later_below [5, 6, 7, 8, 9, 10, 11, 12, 13, 14, 15, 16, 17, 18, 4] 15 (phiShtt n m s o) (by kernel_rfl) (by kernel_rfl) rfl rfl (phiShtt_mono n m s o) ?_ ?_
  · intro j hj xs w3 hxs hR hpre
    obtain ⟨x0, x1, x2, x3, x4, x5, x6, x7, x8, x9, x10, x11, x12, x13, x14, rfl⟩ := list15 xs hxs
    have hs3 := (hR.block n (by simp [hn]; omega)).trans hS2
    have ho3 := (hR.block m (by simp [hm])).trans hO2
    have hs0 : w3.cell? ⟨n, 0, none⟩ = some (.int .u32 (s.at_ : Int)) := cell_of_row _ _ _ _ _ _ hs3
    have ho0 : w3.cell? ⟨m, 0, none⟩ = some (.int .u32 (o.at_ : Int)) := cell_of_row _ _ _ _ _ _ ho3
    rcases (show j = 0 ∨ j = 1 ∨ j = 2 ∨ j = 3 ∨ j = 4 ∨ j = 5 ∨ j = 6 ∨ j = 7 ∨ j = 8 ∨ j = 9 ∨ j = 10 ∨ j = 11 ∨ j = 12 ∨ j = 13 ∨ j = 14 by omega) with rfl | rfl | rfl | rfl | rfl | rfl | rfl | rfl | rfl | rfl | rfl | rfl | rfl | rfl | rfl
    · exact wpOp_run (.pointer (some ⟨n, 0, none⟩)) rfl (by kernel_rfl) (by kernel_rfl) ⟨_, by kernel_rfl, rfl, Below.refl _ _⟩
    · have e0 : x0 = .pointer (some ⟨n, 0, none⟩) := hpre 0 (by kernel_rfl)
      subst e0
      exact wpOp_run (.int .u32 (s.at_ : Int)) rfl (by kernel_rfl) (exec_load 22 rfl (by kernel_rfl) w3 (load23 hs0)) ⟨_, by kernel_rfl, rfl, Below.refl _ _⟩
    · have e1 : x1 = .int .u32 (s.at_ : Int) := hpre 1 (by kernel_rfl)
      subst e1
      exact wpOp_run (.int .u32 ((s.at_ / 256 : Nat) : Int)) rfl (by kernel_rfl) (exec_quo rfl ⟨by kernel_rfl, by kernel_rfl⟩ la w3) ⟨_, by kernel_rfl, rfl, Below.refl _ _⟩
    · exact wpOp_run (.agg #[.int .u32 (o.at_ : Int), .string ⟨o.data.toArray⟩, .int .u32 (o.size : Int), .int .i64 o.perm]) rfl (by kernel_rfl) (exec_load 44 rfl (by kernel_rfl) w3 (load43 ho3)) ⟨_, by kernel_rfl, rfl, Below.refl _ _⟩
    · have e3 : x3 = .agg #[.int .u32 (o.at_ : Int), .string ⟨o.data.toArray⟩, .int .u32 (o.size : Int), .int .i64 o.perm] := hpre 3 (by kernel_rfl)
      subst e3
      refine wpOp_callR (R := fun u w4 => u = .int .u32 (lastPg o : Int) ∧ Below w3.heap.size w3 w4) 83 #[.agg #[.int .u32 (o.at_ : Int), .string ⟨o.data.toArray⟩, .int .u32 (o.size : Int), .int .i64 o.perm]] rfl (by kernel_rfl) (by kernel_rfl) ((lastPage_any o ko w3).mono fun e w4 ⟨he, hb⟩ => ⟨_, he, rfl, hb⟩) ?_
      rintro u w4 ⟨hu, hb4⟩
      exact ⟨_, by kernel_rfl, hu, hb4⟩
    · have e2 : x2 = .int .u32 ((s.at_ / 256 : Nat) : Int) := hpre 2 (by kernel_rfl)
      subst e2
      have e4 : x4 = .int .u32 (lastPg o : Int) := hpre 4 (by kernel_rfl)
      subst e4
      exact wpOp_run (.bool true) rfl (by kernel_rfl) ((exec_leq rfl (by kernel_rfl) (by kernel_rfl) w3).trans (by rw [decide_eq_true c1])) ⟨_, by kernel_rfl, rfl, Below.refl _ _⟩
    · have e5 : x5 = .bool true := hpre 5 (by kernel_rfl)
      subst e5
      exact wpOp_run (.bool true) rfl (by kernel_rfl) (exec_move rfl (by kernel_rfl) w3) ⟨_, by kernel_rfl, rfl, Below.refl _ _⟩
    · have e6 : x6 = .bool true := hpre 6 (by kernel_rfl)
      subst e6
      exact wpOp_run (.pointer (some ⟨m, 0, none⟩)) rfl (by kernel_rfl) (by kernel_rfl) ⟨_, by kernel_rfl, rfl, Below.refl _ _⟩
    · have e6 : x6 = .bool true := hpre 6 (by kernel_rfl)
      subst e6
      have e7 : x7 = .pointer (some ⟨m, 0, none⟩) := hpre 7 (by kernel_rfl)
      subst e7
      exact wpOp_run (.int .u32 (o.at_ : Int)) rfl (by kernel_rfl) (exec_load 22 rfl (by kernel_rfl) w3 (load23 ho0)) ⟨_, by kernel_rfl, rfl, Below.refl _ _⟩
    · have e6 : x6 = .bool true := hpre 6 (by kernel_rfl)
      subst e6
      have e8 : x8 = .int .u32 (o.at_ : Int) := hpre 8 (by kernel_rfl)
      subst e8
      exact wpOp_run (.int .u32 ((o.at_ / 256 : Nat) : Int)) rfl (by kernel_rfl) (exec_quo rfl ⟨by kernel_rfl, by kernel_rfl⟩ lo w3) ⟨_, by kernel_rfl, rfl, Below.refl _ _⟩
    · have e6 : x6 = .bool true := hpre 6 (by kernel_rfl)
      subst e6
      exact wpOp_run (.agg #[.int .u32 (s.at_ : Int), .string ⟨s.data.toArray⟩, .int .u32 (s.size : Int), .int .i64 s.perm]) rfl (by kernel_rfl) (exec_load 44 rfl (by kernel_rfl) w3 (load43 hs3)) ⟨_, by kernel_rfl, rfl, Below.refl _ _⟩
    · have e6 : x6 = .bool true := hpre 6 (by kernel_rfl)
      subst e6
      have e10 : x10 = .agg #[.int .u32 (s.at_ : Int), .string ⟨s.data.toArray⟩, .int .u32 (s.size : Int), .int .i64 s.perm] := hpre 10 (by kernel_rfl)
      subst e10
      refine wpOp_callR (R := fun u w4 => u = .int .u32 (lastPg s : Int) ∧ Below w3.heap.size w3 w4) 83 #[.agg #[.int .u32 (s.at_ : Int), .string ⟨s.data.toArray⟩, .int .u32 (s.size : Int), .int .i64 s.perm]] rfl (by kernel_rfl) (by kernel_rfl) ((lastPage_any s ks w3).mono fun e w4 ⟨he, hb⟩ => ⟨_, he, rfl, hb⟩) ?_
      rintro u w4 ⟨hu, hb4⟩
      exact ⟨_, by kernel_rfl, hu, hb4⟩
    · have e6 : x6 = .bool true := hpre 6 (by kernel_rfl)
      subst e6
      have e9 : x9 = .int .u32 ((o.at_ / 256 : Nat) : Int) := hpre 9 (by kernel_rfl)
      subst e9
      have e11 : x11 = .int .u32 (lastPg s : Int) := hpre 11 (by kernel_rfl)
      subst e11
      exact wpOp_run (.bool true) rfl (by kernel_rfl) ((exec_leq rfl (by kernel_rfl) (by kernel_rfl) w3).trans (by rw [decide_eq_true c2])) ⟨_, by kernel_rfl, rfl, Below.refl _ _⟩
    · have e6 : x6 = .bool true := hpre 6 (by kernel_rfl)
      subst e6
      have e12 : x12 = .bool true := hpre 12 (by kernel_rfl)
      subst e12
      exact wpOp_run (.bool true) rfl (by kernel_rfl) (by kernel_rfl) ⟨_, by kernel_rfl, rfl, Below.refl _ _⟩
    · have e13 : x13 = .bool true := hpre 13 (by kernel_rfl)
      subst e13
      exact wpOp_run (.bool true) rfl (by kernel_rfl) (by kernel_rfl) ⟨_, by kernel_rfl, rfl, Below.refl _ _⟩
  · intro xs w3 hxs hR hall
    obtain ⟨x0, x1, x2, x3, x4, x5, x6, x7, x8, x9, x10, x11, x12, x13, x14, rfl⟩ := list15 xs hxs
    have e0 : x0 = .pointer (some ⟨n, 0, none⟩) := hall 0 (by omega)
    subst e0
    have e1 : x1 = .int .u32 (s.at_ : Int) := hall 1 (by omega)
    subst e1
    have e2 : x2 = .int .u32 ((s.at_ / 256 : Nat) : Int) := hall 2 (by omega)
    subst e2
    have e3 : x3 = .agg #[.int .u32 (o.at_ : Int), .string ⟨o.data.toArray⟩, .int .u32 (o.size : Int), .int .i64 o.perm] := hall 3 (by omega)
    subst e3
    have e4 : x4 = .int .u32 (lastPg o : Int) := hall 4 (by omega)
    subst e4
    have e5 : x5 = .bool true := hall 5 (by omega)
    subst e5
    have e6 : x6 = .bool true := hall 6 (by omega)
    subst e6
    have e7 : x7 = .pointer (some ⟨m, 0, none⟩) := hall 7 (by omega)
    subst e7
    have e8 : x8 = .int .u32 (o.at_ : Int) := hall 8 (by omega)
    subst e8
    have e9 : x9 = .int .u32 ((o.at_ / 256 : Nat) : Int) := hall 9 (by omega)
    subst e9
    have e10 : x10 = .agg #[.int .u32 (s.at_ : Int), .string ⟨s.data.toArray⟩, .int .u32 (s.size : Int), .int .i64 s.perm] := hall 10 (by omega)
    subst e10
    have e11 : x11 = .int .u32 (lastPg s : Int) := hall 11 (by omega)
    subst e11
    have e12 : x12 = .bool true := hall 12 (by omega)
    subst e12
    have e13 : x13 = .bool true := hall 13 (by omega)
    subst e13
    have e14 : x14 = .bool true := hall 14 (by omega)
    subst e14
    have HR := hidden (bel.trans (hR.mono bel.size))
    clear hall hR hxs
    simp only [slotsOn, putAll, List.set_cons_succ, List.set_cons_zero]
    go_wp2
    go_ret
    exact ⟨rfl, Hid.out HR⟩
/-- What the slots of the region hold, whatever the order. -/
def phiShtf (n m : Nat) (s o : Sg) : Nat → Value → World → Prop
  | 0, x, _ => x = .pointer (some ⟨n, 0, none⟩)
  | 1, x, _ => x = .int .u32 (s.at_ : Int)
  | 2, x, _ => x = .int .u32 ((s.at_ / 256 : Nat) : Int)
  | 3, x, _ => x = .agg #[.int .u32 (o.at_ : Int), .string ⟨o.data.toArray⟩, .int .u32 (o.size : Int), .int .i64 o.perm]
  | 4, x, _ => x = .int .u32 (lastPg o : Int)
  | 5, x, _ => x = .bool true
  | 6, x, _ => x = .bool true
  | 7, x, _ => x = .pointer (some ⟨m, 0, none⟩)
  | 8, x, _ => x = .int .u32 (o.at_ : Int)
  | 9, x, _ => x = .int .u32 ((o.at_ / 256 : Nat) : Int)
  | 10, x, _ => x = .agg #[.int .u32 (s.at_ : Int), .string ⟨s.data.toArray⟩, .int .u32 (s.size : Int), .int .i64 s.perm]
  | 11, x, _ => x = .int .u32 (lastPg s : Int)
  | 12, x, _ => x = .bool false
  | 13, x, _ => x = .bool false
  | 14, x, _ => x = .bool false
  | _ + 15, _, _ => True
theorem phiShtf_mono (n m : Nat) (s o : Sg) : ∀ i x w w', phiShtf n m s o i x w → Below w.heap.size w w' → phiShtf n m s o i x w'
  | 0, _, _, _, h, _ => h
  | 1, _, _, _, h, _ => h
  | 2, _, _, _, h, _ => h
  | 3, _, _, _, h, _ => h
  | 4, _, _, _, h, _ => h
  | 5, _, _, _, h, _ => h
  | 6, _, _, _, h, _ => h
  | 7, _, _, _, h, _ => h
  | 8, _, _, _, h, _ => h
  | 9, _, _, _, h, _ => h
  | 10, _, _, _, h, _ => h
  | 11, _, _, _, h, _ => h
  | 12, _, _, _, h, _ => h
  | 13, _, _, _, h, _ => h
  | 14, _, _, _, h, _ => h
  | _ + 15, _, _, _, _, _ => trivial
set_option maxRecDepth 20000 in
set_option maxHeartbeats 2000000 in
theorem share_Shtf (s o : Sg) (ks : okB s = true) (ko : okB o = true) (c1 : s.at_ / 256 ≤ lastPg o) (c2 : ¬ o.at_ / 256 ≤ lastPg s) (w : World) : Calls Try.prog 67 #[.agg #[.int .u32 (s.at_ : Int), .string ⟨s.data.toArray⟩, .int .u32 (s.size : Int), .int .i64 s.perm], .agg #[.int .u32 (o.at_ : Int), .string ⟨o.data.toArray⟩, .int .u32 (o.size : Int), .int .i64 o.perm]] w fun e w' => e = .returned (.bool false) ∧ Below w.heap.size w w' := by
  have la : s.at_ < 4294967296 := by have := ok_size ks; omega
  have lo : o.at_ < 4294967296 := by have := ok_size ko; omega
  obtain ⟨n, hn⟩ : ∃ n, n = w.heap.size := ⟨_, rfl⟩
  obtain ⟨m, hm⟩ : ∃ m, m = w.heap.size + 1 := ⟨_, rfl⟩
  have hS1 : (w.alloc (.cells #[.int .u32 (s.at_ : Int), .string ⟨s.data.toArray⟩, .int .u32 (s.size : Int), .int .i64 s.perm] 44)).heap[n]? = some (.cells #[.int .u32 (s.at_ : Int), .string ⟨s.data.toArray⟩, .int .u32 (s.size : Int), .int .i64 s.perm] 44 (0, 0)) := by rw [hn]; exact heap_alloc_new w _
  have hS2 : ((w.alloc (.cells #[.int .u32 (s.at_ : Int), .string ⟨s.data.toArray⟩, .int .u32 (s.size : Int), .int .i64 s.perm] 44)).alloc (.cells #[.int .u32 (o.at_ : Int), .string ⟨o.data.toArray⟩, .int .u32 (o.size : Int), .int .i64 o.perm] 44)).heap[n]? = some (.cells #[.int .u32 (s.at_ : Int), .string ⟨s.data.toArray⟩, .int .u32 (s.size : Int), .int .i64 s.perm] 44 (0, 0)) := (((Below.refl _ (w.alloc (.cells #[.int .u32 (s.at_ : Int), .string ⟨s.data.toArray⟩, .int .u32 (s.size : Int), .int .i64 s.perm] 44))).alloc (Nat.le_refl _) _).block n (by simp [hn])).trans hS1
  have hO2 : ((w.alloc (.cells #[.int .u32 (s.at_ : Int), .string ⟨s.data.toArray⟩, .int .u32 (s.size : Int), .int .i64 s.perm] 44)).alloc (.cells #[.int .u32 (o.at_ : Int), .string ⟨o.data.toArray⟩, .int .u32 (o.size : Int), .int .i64 o.perm] 44)).heap[m]? = some (.cells #[.int .u32 (o.at_ : Int), .string ⟨o.data.toArray⟩, .int .u32 (o.size : Int), .int .i64 o.perm] 44 (0, 0)) := by
    have := heap_alloc_new (w.alloc (.cells #[.int .u32 (s.at_ : Int), .string ⟨s.data.toArray⟩, .int .u32 (s.size : Int), .int .i64 s.perm] 44)) (.cells #[.int .u32 (o.at_ : Int), .string ⟨o.data.toArray⟩, .int .u32 (o.size : Int), .int .i64 o.perm] 44)
    rw [World.size_alloc, ← hm] at this
    exact this
  have bel : Below w.heap.size w ((w.alloc (.cells #[.int .u32 (s.at_ : Int), .string ⟨s.data.toArray⟩, .int .u32 (s.size : Int), .int .i64 s.perm] 44)).alloc (.cells #[.int .u32 (o.at_ : Int), .string ⟨o.data.toArray⟩, .int .u32 (o.size : Int), .int .i64 o.perm] 44)) := ((Below.refl _ w).alloc (Nat.le_refl _) _).alloc (by simp) _
  go_enter Try.func67, Try.ntmps67
  go_wp2
  rw [← hm, ← hn]
  refine wp_region_on later_below [5, 6, 7, 8, 9, 10, 11, 12, 13, 14, 15, 16, 17, 18, 4] 15 (phiShtf n m s o) (by kernel_rfl) (by kernel_rfl) rfl rfl (phiShtf_mono n m s o) ?_ ?_
  · intro j hj xs w3 hxs hR hpre
    obtain ⟨x0, x1, x2, x3, x4, x5, x6, x7, x8, x9, x10, x11, x12, x13, x14, rfl⟩ := list15 xs hxs
    have hs3 := (hR.block n (by simp [hn]; omega)).trans hS2
    have ho3 := (hR.block m (by simp [hm])).trans hO2
    have hs0 : w3.cell? ⟨n, 0, none⟩ = some (.int .u32 (s.at_ : Int)) := cell_of_row _ _ _ _ _ _ hs3
    have ho0 : w3.cell? ⟨m, 0, none⟩ = some (.int .u32 (o.at_ : Int)) := cell_of_row _ _ _ _ _ _ ho3
    rcases (show j = 0 ∨ j = 1 ∨ j = 2 ∨ j = 3 ∨ j = 4 ∨ j = 5 ∨ j = 6 ∨ j = 7 ∨ j = 8 ∨ j = 9 ∨ j = 10 ∨ j = 11 ∨ j = 12 ∨ j = 13 ∨ j = 14 by omega) with rfl | rfl | rfl | rfl | rfl | rfl | rfl | rfl | rfl | rfl | rfl | rfl | rfl | rfl | rfl
    · exact wpOp_run (.pointer (some ⟨n, 0, none⟩)) rfl (by kernel_rfl) (by kernel_rfl) ⟨_, by kernel_rfl, rfl, Below.refl _ _⟩
    · have e0 : x0 = .pointer (some ⟨n, 0, none⟩) := hpre 0 (by kernel_rfl)
      subst e0
      exact wpOp_run (.int .u32 (s.at_ : Int)) rfl (by kernel_rfl) (exec_load 22 rfl (by kernel_rfl) w3 (load23 hs0)) ⟨_, by kernel_rfl, rfl, Below.refl _ _⟩
    · have e1 : x1 = .int .u32 (s.at_ : Int) := hpre 1 (by kernel_rfl)
      subst e1
      exact wpOp_run (.int .u32 ((s.at_ / 256 : Nat) : Int)) rfl (by kernel_rfl) (exec_quo rfl ⟨by kernel_rfl, by kernel_rfl⟩ la w3) ⟨_, by kernel_rfl, rfl, Below.refl _ _⟩
    · exact wpOp_run (.agg #[.int .u32 (o.at_ : Int), .string ⟨o.data.toArray⟩, .int .u32 (o.size : Int), .int .i64 o.perm]) rfl (by kernel_rfl) (exec_load 44 rfl (by kernel_rfl) w3 (load43 ho3)) ⟨_, by kernel_rfl, rfl, Below.refl _ _⟩
    · have e3 : x3 = .agg #[.int .u32 (o.at_ : Int), .string ⟨o.data.toArray⟩, .int .u32 (o.size : Int), .int .i64 o.perm] := hpre 3 (by kernel_rfl)
      subst e3
      refine wpOp_callR (R := fun u w4 => u = .int .u32 (lastPg o : Int) ∧ Below w3.heap.size w3 w4) 83 #[.agg #[.int .u32 (o.at_ : Int), .string ⟨o.data.toArray⟩, .int .u32 (o.size : Int), .int .i64 o.perm]] rfl (by kernel_rfl) (by kernel_rfl) ((lastPage_any o ko w3).mono fun e w4 ⟨he, hb⟩ => ⟨_, he, rfl, hb⟩) ?_
      rintro u w4 ⟨hu, hb4⟩
      exact ⟨_, by kernel_rfl, hu, hb4⟩
    · have e2 : x2 = .int .u32 ((s.at_ / 256 : Nat) : Int) := hpre 2 (by kernel_rfl)
      subst e2
      have e4 : x4 = .int .u32 (lastPg o : Int) := hpre 4 (by kernel_rfl)
      subst e4
      exact wpOp_run (.bool true) rfl (by kernel_rfl) ((exec_leq rfl (by kernel_rfl) (by kernel_rfl) w3).trans (by rw [decide_eq_true c1])) ⟨_, by kernel_rfl, rfl, Below.refl _ _⟩
    · have e5 : x5 = .bool true := hpre 5 (by kernel_rfl)
      subst e5
      exact wpOp_run (.bool true) rfl (by kernel_rfl) (exec_move rfl (by kernel_rfl) w3) ⟨_, by kernel_rfl, rfl, Below.refl _ _⟩
    · have e6 : x6 = .bool true := hpre 6 (by kernel_rfl)
      subst e6
      exact wpOp_run (.pointer (some ⟨m, 0, none⟩)) rfl (by kernel_rfl) (by kernel_rfl) ⟨_, by kernel_rfl, rfl, Below.refl _ _⟩
    · have e6 : x6 = .bool true := hpre 6 (by kernel_rfl)
      subst e6
      have e7 : x7 = .pointer (some ⟨m, 0, none⟩) := hpre 7 (by kernel_rfl)
      subst e7
      exact wpOp_run (.int .u32 (o.at_ : Int)) rfl (by kernel_rfl) (exec_load 22 rfl (by kernel_rfl) w3 (load23 ho0)) ⟨_, by kernel_rfl, rfl, Below.refl _ _⟩
    · have e6 : x6 = .bool true := hpre 6 (by kernel_rfl)
      subst e6
      have e8 : x8 = .int .u32 (o.at_ : Int) := hpre 8 (by kernel_rfl)
      subst e8
      exact wpOp_run (.int .u32 ((o.at_ / 256 : Nat) : Int)) rfl (by kernel_rfl) (exec_quo rfl ⟨by kernel_rfl, by kernel_rfl⟩ lo w3) ⟨_, by kernel_rfl, rfl, Below.refl _ _⟩
    · have e6 : x6 = .bool true := hpre 6 (by kernel_rfl)
      subst e6
      exact wpOp_run (.agg #[.int .u32 (s.at_ : Int), .string ⟨s.data.toArray⟩, .int .u32 (s.size : Int), .int .i64 s.perm]) rfl (by kernel_rfl) (exec_load 44 rfl (by kernel_rfl) w3 (load43 hs3)) ⟨_, by kernel_rfl, rfl, Below.refl _ _⟩
    · have e6 : x6 = .bool true := hpre 6 (by kernel_rfl)
      subst e6
      have e10 : x10 = .agg #[.int .u32 (s.at_ : Int), .string ⟨s.data.toArray⟩, .int .u32 (s.size : Int), .int .i64 s.perm] := hpre 10 (by kernel_rfl)
      subst e10
      refine wpOp_callR (R := fun u w4 => u = .int .u32 (lastPg s : Int) ∧ Below w3.heap.size w3 w4) 83 #[.agg #[.int .u32 (s.at_ : Int), .string ⟨s.data.toArray⟩, .int .u32 (s.size : Int), .int .i64 s.perm]] rfl (by kernel_rfl) (by kernel_rfl) ((lastPage_any s ks w3).mono fun e w4 ⟨he, hb⟩ => ⟨_, he, rfl, hb⟩) ?_
      rintro u w4 ⟨hu, hb4⟩
      exact ⟨_, by kernel_rfl, hu, hb4⟩
    · have e6 : x6 = .bool true := hpre 6 (by kernel_rfl)
      subst e6
      have e9 : x9 = .int .u32 ((o.at_ / 256 : Nat) : Int) := hpre 9 (by kernel_rfl)
      subst e9
      have e11 : x11 = .int .u32 (lastPg s : Int) := hpre 11 (by kernel_rfl)
      subst e11
      exact wpOp_run (.bool false) rfl (by kernel_rfl) ((exec_leq rfl (by kernel_rfl) (by kernel_rfl) w3).trans (by rw [decide_eq_false c2])) ⟨_, by kernel_rfl, rfl, Below.refl _ _⟩
    · have e6 : x6 = .bool true := hpre 6 (by kernel_rfl)
      subst e6
      have e12 : x12 = .bool false := hpre 12 (by kernel_rfl)
      subst e12
      exact wpOp_run (.bool false) rfl (by kernel_rfl) (by kernel_rfl) ⟨_, by kernel_rfl, rfl, Below.refl _ _⟩
    · have e13 : x13 = .bool false := hpre 13 (by kernel_rfl)
      subst e13
      exact wpOp_run (.bool false) rfl (by kernel_rfl) (by kernel_rfl) ⟨_, by kernel_rfl, rfl, Below.refl _ _⟩
  · intro xs w3 hxs hR hall
    obtain ⟨x0, x1, x2, x3, x4, x5, x6, x7, x8, x9, x10, x11, x12, x13, x14, rfl⟩ := list15 xs hxs
    have e0 : x0 = .pointer (some ⟨n, 0, none⟩) := hall 0 (by omega)
    subst e0
    have e1 : x1 = .int .u32 (s.at_ : Int) := hall 1 (by omega)
    subst e1
    have e2 : x2 = .int .u32 ((s.at_ / 256 : Nat) : Int) := hall 2 (by omega)
    subst e2
    have e3 : x3 = .agg #[.int .u32 (o.at_ : Int), .string ⟨o.data.toArray⟩, .int .u32 (o.size : Int), .int .i64 o.perm] := hall 3 (by omega)
    subst e3
    have e4 : x4 = .int .u32 (lastPg o : Int) := hall 4 (by omega)
    subst e4
    have e5 : x5 = .bool true := hall 5 (by omega)
    subst e5
    have e6 : x6 = .bool true := hall 6 (by omega)
    subst e6
    have e7 : x7 = .pointer (some ⟨m, 0, none⟩) := hall 7 (by omega)
    subst e7
    have e8 : x8 = .int .u32 (o.at_ : Int) := hall 8 (by omega)
    subst e8
    have e9 : x9 = .int .u32 ((o.at_ / 256 : Nat) : Int) := hall 9 (by omega)
    subst e9
    have e10 : x10 = .agg #[.int .u32 (s.at_ : Int), .string ⟨s.data.toArray⟩, .int .u32 (s.size : Int), .int .i64 s.perm] := hall 10 (by omega)
    subst e10
    have e11 : x11 = .int .u32 (lastPg s : Int) := hall 11 (by omega)
    subst e11
    have e12 : x12 = .bool false := hall 12 (by omega)
    subst e12
    have e13 : x13 = .bool false := hall 13 (by omega)
    subst e13
    have e14 : x14 = .bool false := hall 14 (by omega)
    subst e14
    have HR := hidden (bel.trans (hR.mono bel.size))
    clear hall hR hxs
    simp only [slotsOn, putAll, List.set_cons_succ, List.set_cons_zero]
    go_wp2
    go_ret
    exact ⟨rfl, Hid.out HR⟩
/-- What the slots of the region hold, whatever the order. -/
def phiShf (n m : Nat) (s o : Sg) : Nat → Value → World → Prop
  | 0, x, _ => x = .pointer (some ⟨n, 0, none⟩)
  | 1, x, _ => x = .int .u32 (s.at_ : Int)
  | 2, x, _ => x = .int .u32 ((s.at_ / 256 : Nat) : Int)
  | 3, x, _ => x = .agg #[.int .u32 (o.at_ : Int), .string ⟨o.data.toArray⟩, .int .u32 (o.size : Int), .int .i64 o.perm]
  | 4, x, _ => x = .int .u32 (lastPg o : Int)
  | 5, x, _ => x = .bool false
  | 6, x, _ => x = .bool false
  | 7, x, _ => x = undef
  | 8, x, _ => x = undef
  | 9, x, _ => x = undef
  | 10, x, _ => x = undef
  | 11, x, _ => x = undef
  | 12, x, _ => x = undef
  | 13, x, _ => x = .bool false
  | 14, x, _ => x = .bool false
  | _ + 15, _, _ => True
theorem phiShf_mono (n m : Nat) (s o : Sg) : ∀ i x w w', phiShf n m s o i x w → Below w.heap.size w w' → phiShf n m s o i x w'
  | 0, _, _, _, h, _ => h
  | 1, _, _, _, h, _ => h
  | 2, _, _, _, h, _ => h
  | 3, _, _, _, h, _ => h
  | 4, _, _, _, h, _ => h
  | 5, _, _, _, h, _ => h
  | 6, _, _, _, h, _ => h
  | 7, _, _, _, h, _ => h
  | 8, _, _, _, h, _ => h
  | 9, _, _, _, h, _ => h
  | 10, _, _, _, h, _ => h
  | 11, _, _, _, h, _ => h
  | 12, _, _, _, h, _ => h
  | 13, _, _, _, h, _ => h
  | 14, _, _, _, h, _ => h
  | _ + 15, _, _, _, _, _ => trivial
set_option maxRecDepth 20000 in
set_option maxHeartbeats 2000000 in
theorem share_Shf (s o : Sg) (ks : okB s = true) (ko : okB o = true) (c1 : ¬ s.at_ / 256 ≤ lastPg o) (w : World) : Calls Try.prog 67 #[.agg #[.int .u32 (s.at_ : Int), .string ⟨s.data.toArray⟩, .int .u32 (s.size : Int), .int .i64 s.perm], .agg #[.int .u32 (o.at_ : Int), .string ⟨o.data.toArray⟩, .int .u32 (o.size : Int), .int .i64 o.perm]] w fun e w' => e = .returned (.bool false) ∧ Below w.heap.size w w' := by
  have la : s.at_ < 4294967296 := by have := ok_size ks; omega
  have lo : o.at_ < 4294967296 := by have := ok_size ko; omega
  obtain ⟨n, hn⟩ : ∃ n, n = w.heap.size := ⟨_, rfl⟩
  obtain ⟨m, hm⟩ : ∃ m, m = w.heap.size + 1 := ⟨_, rfl⟩
  have hS1 : (w.alloc (.cells #[.int .u32 (s.at_ : Int), .string ⟨s.data.toArray⟩, .int .u32 (s.size : Int), .int .i64 s.perm] 44)).heap[n]? = some (.cells #[.int .u32 (s.at_ : Int), .string ⟨s.data.toArray⟩, .int .u32 (s.size : Int), .int .i64 s.perm] 44 (0, 0)) := by rw [hn]; exact heap_alloc_new w _
  have hS2 : ((w.alloc (.cells #[.int .u32 (s.at_ : Int), .string ⟨s.data.toArray⟩, .int .u32 (s.size : Int), .int .i64 s.perm] 44)).alloc (.cells #[.int .u32 (o.at_ : Int), .string ⟨o.data.toArray⟩, .int .u32 (o.size : Int), .int .i64 o.perm] 44)).heap[n]? = some (.cells #[.int .u32 (s.at_ : Int), .string ⟨s.data.toArray⟩, .int .u32 (s.size : Int), .int .i64 s.perm] 44 (0, 0)) := (((Below.refl _ (w.alloc (.cells #[.int .u32 (s.at_ : Int), .string ⟨s.data.toArray⟩, .int .u32 (s.size : Int), .int .i64 s.perm] 44))).alloc (Nat.le_refl _) _).block n (by simp [hn])).trans hS1
  have hO2 : ((w.alloc (.cells #[.int .u32 (s.at_ : Int), .string ⟨s.data.toArray⟩, .int .u32 (s.size : Int), .int .i64 s.perm] 44)).alloc (.cells #[.int .u32 (o.at_ : Int), .string ⟨o.data.toArray⟩, .int .u32 (o.size : Int), .int .i64 o.perm] 44)).heap[m]? = some (.cells #[.int .u32 (o.at_ : Int), .string ⟨o.data.toArray⟩, .int .u32 (o.size : Int), .int .i64 o.perm] 44 (0, 0)) := by
    have := heap_alloc_new (w.alloc (.cells #[.int .u32 (s.at_ : Int), .string ⟨s.data.toArray⟩, .int .u32 (s.size : Int), .int .i64 s.perm] 44)) (.cells #[.int .u32 (o.at_ : Int), .string ⟨o.data.toArray⟩, .int .u32 (o.size : Int), .int .i64 o.perm] 44)
    rw [World.size_alloc, ← hm] at this
    exact this
  have bel : Below w.heap.size w ((w.alloc (.cells #[.int .u32 (s.at_ : Int), .string ⟨s.data.toArray⟩, .int .u32 (s.size : Int), .int .i64 s.perm] 44)).alloc (.cells #[.int .u32 (o.at_ : Int), .string ⟨o.data.toArray⟩, .int .u32 (o.size : Int), .int .i64 o.perm] 44)) := ((Below.refl _ w).alloc (Nat.le_refl _) _).alloc (by simp) _
  go_enter Try.func67, Try.ntmps67
  go_wp2
  rw [← hm, ← hn]
  refine wp_region_on later_below [5, 6, 7, 8, 9, 10, 11, 12, 13, 14, 15, 16, 17, 18, 4] 15 (phiShf n m s o) (by kernel_rfl) (by kernel_rfl) rfl rfl (phiShf_mono n m s o) ?_ ?_
  · intro j hj xs w3 hxs hR hpre
    obtain ⟨x0, x1, x2, x3, x4, x5, x6, x7, x8, x9, x10, x11, x12, x13, x14, rfl⟩ := list15 xs hxs
    have hs3 := (hR.block n (by simp [hn]; omega)).trans hS2
    have ho3 := (hR.block m (by simp [hm])).trans hO2
    have hs0 : w3.cell? ⟨n, 0, none⟩ = some (.int .u32 (s.at_ : Int)) := cell_of_row _ _ _ _ _ _ hs3
    have ho0 : w3.cell? ⟨m, 0, none⟩ = some (.int .u32 (o.at_ : Int)) := cell_of_row _ _ _ _ _ _ ho3
    rcases (show j = 0 ∨ j = 1 ∨ j = 2 ∨ j = 3 ∨ j = 4 ∨ j = 5 ∨ j = 6 ∨ j = 7 ∨ j = 8 ∨ j = 9 ∨ j = 10 ∨ j = 11 ∨ j = 12 ∨ j = 13 ∨ j = 14 by omega) with rfl | rfl | rfl | rfl | rfl | rfl | rfl | rfl | rfl | rfl | rfl | rfl | rfl | rfl | rfl
    · exact wpOp_run (.pointer (some ⟨n, 0, none⟩)) rfl (by kernel_rfl) (by kernel_rfl) ⟨_, by kernel_rfl, rfl, Below.refl _ _⟩
    · have e0 : x0 = .pointer (some ⟨n, 0, none⟩) := hpre 0 (by kernel_rfl)
      subst e0
      exact wpOp_run (.int .u32 (s.at_ : Int)) rfl (by kernel_rfl) (exec_load 22 rfl (by kernel_rfl) w3 (load23 hs0)) ⟨_, by kernel_rfl, rfl, Below.refl _ _⟩
    · have e1 : x1 = .int .u32 (s.at_ : Int) := hpre 1 (by kernel_rfl)
      subst e1
      exact wpOp_run (.int .u32 ((s.at_ / 256 : Nat) : Int)) rfl (by kernel_rfl) (exec_quo rfl ⟨by kernel_rfl, by kernel_rfl⟩ la w3) ⟨_, by kernel_rfl, rfl, Below.refl _ _⟩
    · exact wpOp_run (.agg #[.int .u32 (o.at_ : Int), .string ⟨o.data.toArray⟩, .int .u32 (o.size : Int), .int .i64 o.perm]) rfl (by kernel_rfl) (exec_load 44 rfl (by kernel_rfl) w3 (load43 ho3)) ⟨_, by kernel_rfl, rfl, Below.refl _ _⟩
    · have e3 : x3 = .agg #[.int .u32 (o.at_ : Int), .string ⟨o.data.toArray⟩, .int .u32 (o.size : Int), .int .i64 o.perm] := hpre 3 (by kernel_rfl)
      subst e3
      refine wpOp_callR (R := fun u w4 => u = .int .u32 (lastPg o : Int) ∧ Below w3.heap.size w3 w4) 83 #[.agg #[.int .u32 (o.at_ : Int), .string ⟨o.data.toArray⟩, .int .u32 (o.size : Int), .int .i64 o.perm]] rfl (by kernel_rfl) (by kernel_rfl) ((lastPage_any o ko w3).mono fun e w4 ⟨he, hb⟩ => ⟨_, he, rfl, hb⟩) ?_
      rintro u w4 ⟨hu, hb4⟩
      exact ⟨_, by kernel_rfl, hu, hb4⟩
    · have e2 : x2 = .int .u32 ((s.at_ / 256 : Nat) : Int) := hpre 2 (by kernel_rfl)
      subst e2
      have e4 : x4 = .int .u32 (lastPg o : Int) := hpre 4 (by kernel_rfl)
      subst e4
      exact wpOp_run (.bool false) rfl (by kernel_rfl) ((exec_leq rfl (by kernel_rfl) (by kernel_rfl) w3).trans (by rw [decide_eq_false c1])) ⟨_, by kernel_rfl, rfl, Below.refl _ _⟩
    · have e5 : x5 = .bool false := hpre 5 (by kernel_rfl)
      subst e5
      exact wpOp_run (.bool false) rfl (by kernel_rfl) (exec_move rfl (by kernel_rfl) w3) ⟨_, by kernel_rfl, rfl, Below.refl _ _⟩
    · have e6 : x6 = .bool false := hpre 6 (by kernel_rfl)
      subst e6
      exact wpOp_skip rfl (by kernel_rfl) ⟨undef, by kernel_rfl, rfl, Below.refl _ _⟩
    · have e6 : x6 = .bool false := hpre 6 (by kernel_rfl)
      subst e6
      exact wpOp_skip rfl (by kernel_rfl) ⟨undef, by kernel_rfl, rfl, Below.refl _ _⟩
    · have e6 : x6 = .bool false := hpre 6 (by kernel_rfl)
      subst e6
      exact wpOp_skip rfl (by kernel_rfl) ⟨undef, by kernel_rfl, rfl, Below.refl _ _⟩
    · have e6 : x6 = .bool false := hpre 6 (by kernel_rfl)
      subst e6
      exact wpOp_skip rfl (by kernel_rfl) ⟨undef, by kernel_rfl, rfl, Below.refl _ _⟩
    · have e6 : x6 = .bool false := hpre 6 (by kernel_rfl)
      subst e6
      exact wpOp_skip rfl (by kernel_rfl) ⟨undef, by kernel_rfl, rfl, Below.refl _ _⟩
    · have e6 : x6 = .bool false := hpre 6 (by kernel_rfl)
      subst e6
      exact wpOp_skip rfl (by kernel_rfl) ⟨undef, by kernel_rfl, rfl, Below.refl _ _⟩
    · have e6 : x6 = .bool false := hpre 6 (by kernel_rfl)
      subst e6
      have e12 : x12 = undef := hpre 12 (by kernel_rfl)
      subst e12
      exact wpOp_run (.bool false) rfl (by kernel_rfl) (by kernel_rfl) ⟨_, by kernel_rfl, rfl, Below.refl _ _⟩
    · have e13 : x13 = .bool false := hpre 13 (by kernel_rfl)
      subst e13
      exact wpOp_run (.bool false) rfl (by kernel_rfl) (by kernel_rfl) ⟨_, by kernel_rfl, rfl, Below.refl _ _⟩
  · intro xs w3 hxs hR hall
    obtain ⟨x0, x1, x2, x3, x4, x5, x6, x7, x8, x9, x10, x11, x12, x13, x14, rfl⟩ := list15 xs hxs
    have e0 : x0 = .pointer (some ⟨n, 0, none⟩) := hall 0 (by omega)
    subst e0
    have e1 : x1 = .int .u32 (s.at_ : Int) := hall 1 (by omega)
    subst e1
    have e2 : x2 = .int .u32 ((s.at_ / 256 : Nat) : Int) := hall 2 (by omega)
    subst e2
    have e3 : x3 = .agg #[.int .u32 (o.at_ : Int), .string ⟨o.data.toArray⟩, .int .u32 (o.size : Int), .int .i64 o.perm] := hall 3 (by omega)
    subst e3
    have e4 : x4 = .int .u32 (lastPg o : Int) := hall 4 (by omega)
    subst e4
    have e5 : x5 = .bool false := hall 5 (by omega)
    subst e5
    have e6 : x6 = .bool false := hall 6 (by omega)
    subst e6
    have e7 : x7 = undef := hall 7 (by omega)
    subst e7
    have e8 : x8 = undef := hall 8 (by omega)
    subst e8
    have e9 : x9 = undef := hall 9 (by omega)
    subst e9
    have e10 : x10 = undef := hall 10 (by omega)
    subst e10
    have e11 : x11 = undef := hall 11 (by omega)
    subst e11
    have e12 : x12 = undef := hall 12 (by omega)
    subst e12
    have e13 : x13 = .bool false := hall 13 (by omega)
    subst e13
    have e14 : x14 = .bool false := hall 14 (by omega)
    subst e14
    have HR := hidden (bel.trans (hR.mono bel.size))
    clear hall hR hxs
    simp only [slotsOn, putAll, List.set_cons_succ, List.set_cons_zero]
    go_wp2
    go_ret
    exact ⟨rfl, Hid.out HR⟩
theorem share_any (s o : Sg) (ks : okB s = true) (ko : okB o = true) (w : World) : Calls Try.prog 67 #[.agg #[.int .u32 (s.at_ : Int), .string ⟨s.data.toArray⟩, .int .u32 (s.size : Int), .int .i64 s.perm], .agg #[.int .u32 (o.at_ : Int), .string ⟨o.data.toArray⟩, .int .u32 (o.size : Int), .int .i64 o.perm]] w fun e w' => e = .returned (.bool (shareB s o)) ∧ Below w.heap.size w w' := by
  unfold shareB
  by_cases c1 : s.at_ / 256 ≤ lastPg o
  · by_cases c2 : o.at_ / 256 ≤ lastPg s
    · rw [decide_eq_true c1, decide_eq_true c2]
      exact share_Shtt s o ks ko c1 c2 w
    · rw [decide_eq_true c1, decide_eq_false c2]
      exact share_Shtf s o ks ko c1 c2 w
  · rw [decide_eq_false c1]
    exact share_Shf s o ks ko c1 w
end Go.Proofs.Ytpknppicamefgaa
namespace Go.Proofs.Ytpknppicamefgaa
open Go.ChangeShapes Go.WideShapes Go.ChangeAt Go.RowKit
set_option linter.unusedVariables false
set_option maxRecDepth 20000 in
set_option maxHeartbeats 1000000 in
theorem overlap_any (w : World) (ao : Option Addr) (cap : Nat) (l : List Sg) (h : Segs w ao l) (hlen : l.length ≤ 8) (hcap : l.length ≤ cap) (hmax : cap ≤ 9223372036854775807) (hok : l.all okB = true) : Calls Try.prog 43 #[.slice ao l.length cap] w fun e w' => e = .returned (.bool (overB l)) ∧ Below w.heap.size w w' := by
  have H := hidden h
  have HOK : Hid (∀ j, j < l.length → okB (l.getD j nosg) = true) := fun j hj => all_get hok hj
  clear h hok
  go_enter Try.func43, Try.ntmps43
  go_wp2
  go_loopw [9] (fun x9 wr => ∃ k : Nat, k ≤ l.length ∧ x9 = .int .i64 (k : Int) ∧ Below w.heap.size w wr ∧ ∀ a b, b < a → a < k → shareB (l.getD a nosg) (l.getD b nosg) = false) (fun x9 _ => l.length - (intOf x9).toNat)
  case atStart => exact ⟨0, by omega, rfl, Below.refl _ _, by omega⟩
  case round =>
    obtain ⟨k, hk, rfl, hbel, hno⟩ := hrel
    have HB := hidden hbel
    have HN := hidden hno
    clear hno
    by_cases hkl : k < l.length
    · obtain ⟨b, off, rfl, hlt, hc⟩ := ((Hid.out H).later hbel).at hkl
      have HC := hidden hc
      obtain ⟨s, hs⟩ : ∃ s, s = l.getD k nosg := ⟨_, rfl⟩
      have hat := hc k hkl
      rw [← hs] at hat
      obtain ⟨c0, c1, c2, c3, _⟩ := hat
      have HS := hidden hs
      have hkl2 : (k : Int) < (l.length : Int) := by omega
      obtain ⟨g, hg⟩ : ∃ g, g = wr.heap.size := ⟨_, rfl⟩
      have HG := hidden hg
      have HA : Hid ((wr.alloc (.cells #[.int .u32 (s.at_ : Int), .string ⟨s.data.toArray⟩, .int .u32 (s.size : Int), .int .i64 s.perm] 44)).heap[g]? = some (.cells #[.int .u32 (s.at_ : Int), .string ⟨s.data.toArray⟩, .int .u32 (s.size : Int), .int .i64 s.perm] 44 (0, 0))) := by rw [hg]; exact heap_alloc_new wr _
      have HB0 : Hid (Below w.heap.size w (wr.alloc (.cells #[.int .u32 (s.at_ : Int), .string ⟨s.data.toArray⟩, .int .u32 (s.size : Int), .int .i64 s.perm] 44))) := hbel.alloc hbel.size _
      have HB1 : Hid (Below wr.heap.size wr (wr.alloc (.cells #[.int .u32 (s.at_ : Int), .string ⟨s.data.toArray⟩, .int .u32 (s.size : Int), .int .i64 s.perm] 44))) := (Below.refl _ wr).alloc (Nat.le_refl _) _
      clear hc hbel hs hg HC
      go_wp2
      rw [← Hid.out HG]
      go_loopw [18] (fun x18 wi => ∃ m : Nat, m ≤ k ∧ x18 = .int .i64 (m : Int) ∧ Below w.heap.size w wi ∧ wi.heap[g]? = some (.cells #[.int .u32 (s.at_ : Int), .string ⟨s.data.toArray⟩, .int .u32 (s.size : Int), .int .i64 s.perm] 44 (0, 0)) ∧ ∀ b, b < m → shareB s (l.getD b nosg) = false) (fun x18 _ => k - (intOf x18).toNat)
      case atStart => exact ⟨0, by omega, rfl, Hid.out HB0, Hid.out HA, by omega⟩
      case round =>
        obtain ⟨m, hm, rfl, hbi, hgi, hni⟩ := hrel
        have HBI := hidden hbi
        have HGI := hidden hgi
        have HNI := hidden hni
        by_cases hmk : m < k
        · obtain ⟨b2, off2, e2, hlt2, hc2⟩ := ((Hid.out H).later hbi).at hkl
          cases e2
          obtain ⟨o, ho⟩ : ∃ o, o = l.getD m nosg := ⟨_, rfl⟩
          have hat := hc2 m (by omega)
          rw [← ho] at hat
          obtain ⟨d0, d1, d2, d3, _⟩ := hat
          have hsk : okB s = true := by have := Hid.out HOK k hkl; rwa [← Hid.out HS] at this
          have hok : okB o = true := by have := Hid.out HOK m (by omega); rwa [← ho] at this
          have s0 : wr.cell? ⟨g, 0, none⟩ = some (.int .u32 (s.at_ : Int)) := cell_of_row _ _ _ _ _ _ hgi
          have s1 : wr.cell? ⟨g, 1, none⟩ = some (.string ⟨s.data.toArray⟩) := cell_of_row _ _ _ _ _ _ hgi
          have s2 : wr.cell? ⟨g, 2, none⟩ = some (.int .u32 (s.size : Int)) := cell_of_row _ _ _ _ _ _ hgi
          have s3 : wr.cell? ⟨g, 3, none⟩ = some (.int .i64 s.perm) := cell_of_row _ _ _ _ _ _ hgi
          have hmk2 : (m : Int) < (k : Int) := by omega
          have hg2 : g < wr.heap.size := (Array.getElem?_eq_some_iff.1 hgi).1
          have H45 := fun w => hidden (share_any s o hsk hok w)
          have HBO : Hid (Below w.heap.size w (wr.alloc (.cells #[.int .u32 (o.at_ : Int), .string ⟨o.data.toArray⟩, .int .u32 (o.size : Int), .int .i64 o.perm] 44))) := hbi.alloc hbi.size _
          have HO := hidden ho
          have HGO : Hid ((wr.alloc (.cells #[.int .u32 (o.at_ : Int), .string ⟨o.data.toArray⟩, .int .u32 (o.size : Int), .int .i64 o.perm] 44)).heap[g]? = some (.cells #[.int .u32 (s.at_ : Int), .string ⟨s.data.toArray⟩, .int .u32 (s.size : Int), .int .i64 s.perm] 44 (0, 0))) := (((Below.refl _ wr).alloc (Nat.le_refl _) _).block g hg2).trans hgi
          clear hbi hgi hni hc2 hsk hok ho c0 c1 c2 c3
          cases hsh : shareB s o
          · rw [hsh] at H45
            have HSH := hidden hsh
            clear hsh
            go_wp2_with (go_at_call 67; with_reducible refine (Hid.out (H45 _)).mono ?_; rintro e w1 ⟨rfl, hb1⟩; have HB2 := hidden (Below.trans (Hid.out HBO) (Below.mono hb1 (Hid.out HBO).size)); have HG2 := hidden ((hb1.block g (by simp; omega)).trans (Hid.out HGO)); clear hb1)
            go_roundw
            case rel => exact ⟨m + 1, by omega, by simp, Hid.out HB2, Hid.out HG2, fun b hb => by rcases Nat.lt_or_eq_of_le (Nat.le_of_lt_succ hb) with h | h; exact Hid.out HNI b h; rw [h, ← Hid.out HO]; exact Hid.out HSH⟩
            case measure => simp [intOf]; omega
          · rw [hsh] at H45
            have HR : Hid (overB l = true) := over_yes hmk hkl (by rw [← Hid.out HS, ← Hid.out HO]; exact hsh)
            clear hsh
            go_wp2_with (go_at_call 67; with_reducible refine (Hid.out (H45 _)).mono ?_; rintro e w1 ⟨rfl, hb1⟩; have HB2 := hidden (Below.trans (Hid.out HBO) (Below.mono hb1 (Hid.out HBO).size)); clear hb1)
            go_ret
            exact ⟨ret_bool (Hid.out HR).symm, Hid.out HB2⟩
        · have hmk2 : ¬ (m : Int) < (k : Int) := by omega
          obtain rfl : m = k := by omega
          clear hbi hgi hni c0 c1 c2 c3
          go_wp2
          go_roundw
          case rel => exact ⟨m + 1, by omega, by simp, Hid.out HBI, fun a b h1 h2 => by rcases Nat.lt_or_eq_of_le (Nat.le_of_lt_succ h2) with h | h; exact Hid.out HN a b h1 h; rw [h, ← Hid.out HS]; exact Hid.out HNI b (by omega)⟩
          case measure => simp [intOf]; omega
    · have hkl2 : ¬ (k : Int) < (l.length : Int) := by omega
      obtain rfl : k = l.length := by omega
      have HR : Hid (overB l = false) := over_no (Hid.out HN)
      clear hbel
      go_wp2
      go_ret
      exact ⟨ret_bool (Hid.out HR).symm, Hid.out HB⟩
end Go.Proofs.Ytpknppicamefgaa

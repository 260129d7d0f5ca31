/- Segments in memory, and what is asked of one or two of them. -/
import Derived.Test.YtjpmagekianpdaaExec
namespace Go.Proofs.Ytjpmagekianpdaa
open Go.ChangeShapes Go.WideShapes Go.ChangeAt Go.RowKit
set_option linter.unusedVariables false
/-- A segment whose numbers are such as 32 bits hold. -/
structure Fit (s : Sg) : Prop where
  la : s.at_ < 4294967296
  ls : s.size < 4294967296
  ld : s.data.length ≤ 9223372036854775807
structure SegAt (w : World) (b o : Nat) (s : Sg) : Prop where
  c0 : w.cell? ⟨b, o, none⟩ = some (.int .u32 (s.at_ : Int))
  c1 : w.cell? ⟨b, o + 1, none⟩ = some (.string ⟨s.data.toArray⟩)
  c2 : w.cell? ⟨b, o + 2, none⟩ = some (.int .u32 (s.size : Int))
  c3 : w.cell? ⟨b, o + 3, none⟩ = some (.int .i64 s.perm)
  fit : Fit s
def Segs (w : World) (ao : Option Addr) (l : List Sg) : Prop := l = [] ∨ ∃ b off, ao = some ⟨b, off, none⟩ ∧ b < w.heap.size ∧ ∀ j, j < l.length → SegAt w b (off + j * 4) (l.getD j nosg)
theorem SegAt.later {w w' : World} {b o : Nat} {p : Sg} (h : SegAt w b o p) (hlt : b < w.heap.size) (hb : Below w.heap.size w w') : SegAt w' b o p :=
  ⟨(hb.cell (p := ⟨b, o, none⟩) hlt).trans h.c0, (hb.cell (p := ⟨b, o + 1, none⟩) hlt).trans h.c1, (hb.cell (p := ⟨b, o + 2, none⟩) hlt).trans h.c2, (hb.cell (p := ⟨b, o + 3, none⟩) hlt).trans h.c3, h.fit⟩
theorem Segs.later {w w' : World} {ao : Option Addr} {l : List Sg} (h : Segs w ao l) (hb : Below w.heap.size w w') : Segs w' ao l := by
  rcases h with h | ⟨b, off, e, hlt, h⟩
  · exact .inl h
  · exact .inr ⟨b, off, e, Nat.lt_of_lt_of_le hlt hb.size, fun j hj => (h j hj).later hlt hb⟩
theorem Segs.at {w : World} {ao : Option Addr} {l : List Sg} (h : Segs w ao l) {k : Nat} (hk : k < l.length) : ∃ b off, ao = some ⟨b, off, none⟩ ∧ b < w.heap.size ∧ ∀ j, j < l.length → SegAt w b (off + j * 4) (l.getD j nosg) := by
  rcases h with h | h
  · rw [h] at hk; simp at hk
  · exact h
theorem Segs.fit {w : World} {ao : Option Addr} {l : List Sg} (h : Segs w ao l) {k : Nat} (hk : k < l.length) : Fit (l.getD k nosg) := by
  obtain ⟨b, off, _, _, h⟩ := h.at hk
  exact (h k hk).fit
/-- A block with these cells. -/
def Blk (w : World) (n : Nat) (cs : Array Value) (T : TypeId) : Prop := w.heap[n]? = some (.cells cs T (0, 0))
theorem Blk.lt {w : World} {n : Nat} {cs : Array Value} {T : TypeId} (h : Blk w n cs T) : n < w.heap.size := (Array.getElem?_eq_some_iff.1 h).1
theorem Blk.cell {w : World} {n : Nat} {cs : Array Value} {T : TypeId} (h : Blk w n cs T) {j : Nat} {v : Value} (hj : cs[j]? = some v) : w.cell? ⟨n, j, none⟩ = some v := (cell_of_row _ _ _ _ _ _ h).trans hj
theorem Blk.later {w w' : World} {n : Nat} {cs : Array Value} {T : TypeId} (h : Blk w n cs T) (hb : Below w.heap.size w w') : Blk w' n cs T := (hb.block n h.lt).trans h
theorem Blk.new (w : World) (cs : Array Value) (T : TypeId) : Blk (w.alloc (.cells cs T)) w.heap.size cs T := heap_alloc_new w _
theorem below_new (w : World) (o : Obj) : Below w.heap.size w (w.alloc o) := (Below.refl _ w).alloc (Nat.le_refl _) _
theorem bthen {u v w : World} (h : Below u.heap.size u v) (k : Below v.heap.size v w) : Below u.heap.size u w := h.trans (k.mono h.size)
theorem and1 (n : Int) : bits .and .i64 n 1 = n % 2 := by
  have h7 : (BitVec.ofInt 64 1).toNat = 2 ^ 1 - 1 := by decide
  have key : (BitVec.ofInt 64 n &&& BitVec.ofInt 64 1).toNat = (n % ((2 ^ 64 : Nat) : Int)).toNat % 2 ^ 1 := by
    rw [BitVec.toNat_and, BitVec.toNat_ofInt, h7, Nat.and_two_pow_sub_one_eq_mod]
  show IntKind.i64.wrap ((BitVec.ofInt 64 n &&& BitVec.ofInt 64 1).toNat : Nat) = n % 2
  rw [key, IntKind.wrap_i64]
  omega
set_option maxRecDepth 20000 in
theorem fits_any (s : Sg) (h : Fit s) (w : World) : Calls Try.prog 32 #[.agg #[.int .u32 (s.at_ : Int), .string ⟨s.data.toArray⟩, .int .u32 (s.size : Int), .int .i64 s.perm]] w fun e w' => e = .returned (.bool (fitsB s)) ∧ Below w.heap.size w w' := by
  obtain ⟨at_, data, size, perm⟩ := s
  obtain ⟨la, ls, ld⟩ := h
  simp only at la ls ld ⊢
  unfold fitsB
  simp only
  have hsz : (ByteArray.mk data.toArray).size = data.length := by simp [ByteArray.size]
  by_cases h1 : size ≤ 16384
  · have k1 : (size : Int) ≤ 16384 := by omega
    by_cases h2 : data.length ≤ size
    · have k2 : (data.length : Int) ≤ (size : Int) := by omega
      by_cases h3 : at_ + size ≤ 2147483648
      · have k3 : (at_ : Int) + (size : Int) ≤ 2147483648 := by omega
        rw [decide_eq_true h1, decide_eq_true h2, decide_eq_true h3]
        go_enter Try.func32, Try.ntmps32
        go_wp2
        go_ret
        exact ⟨rfl, (Below.refl _ _).alloc (Nat.le_refl _) _⟩
      · have k3 : ¬ (at_ : Int) + (size : Int) ≤ 2147483648 := by omega
        rw [decide_eq_true h1, decide_eq_true h2, decide_eq_false h3]
        go_enter Try.func32, Try.ntmps32
        go_wp2
        go_ret
        exact ⟨rfl, (Below.refl _ _).alloc (Nat.le_refl _) _⟩
    · have k2 : ¬ (data.length : Int) ≤ (size : Int) := by omega
      rw [decide_eq_true h1, decide_eq_false h2]
      go_enter Try.func32, Try.ntmps32
      go_wp2
      go_ret
      exact ⟨rfl, (Below.refl _ _).alloc (Nat.le_refl _) _⟩
  · have k1 : ¬ (size : Int) ≤ 16384 := by omega
    rw [decide_eq_false h1]
    go_enter Try.func32, Try.ntmps32
    go_wp2
    go_ret
    exact ⟨rfl, (Below.refl _ _).alloc (Nat.le_refl _) _⟩
set_option maxRecDepth 20000 in
theorem lastPage_any (s : Sg) (h : okB s = true) (w : World) : Calls Try.prog 48 #[.agg #[.int .u32 (s.at_ : Int), .string ⟨s.data.toArray⟩, .int .u32 (s.size : Int), .int .i64 s.perm]] w fun e w' => e = .returned (.int .u32 (lastPg s : Int)) ∧ Below w.heap.size w w' := by
  obtain ⟨h1, h2, h3, h4, h5, h6⟩ := ok_size h
  unfold lastPg
  obtain ⟨at_, data, size, perm⟩ := s
  clear h
  simp only at h1 h2 h3 h4 h5 h6 ⊢
  have e : ((at_ : Int) + (size : Int)) % 4294967296 = (at_ : Int) + (size : Int) := by omega
  go_enter Try.func48, Try.ntmps48
  go_wp2
  go_ret
  exact ⟨ret_int (by omega), (Below.refl _ _).alloc (Nat.le_refl _) _⟩
end Go.Proofs.Ytjpmagekianpdaa

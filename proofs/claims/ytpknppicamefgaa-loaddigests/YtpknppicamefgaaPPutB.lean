/- load's put: four bytes over others. -/
import Derived.Test.YtpknppicamefgaaPEFiles
import Derived.Test.YtpknppicamefgaaPTail
import Derived.Test.YtpknppicamefgaaPStates
import Derived.Laws.CopyOwn
namespace Go.Proofs.Ytpknppicamefgaa
open Go.ChangeShapes Go.WideShapes Go.ChangeAt Go.RowKit
set_option linter.unusedVariables false
/-- A row of bytes of its own. -/
def Brow (w : World) (g : Nat) (l : List UInt8) (tl : List Value) : Prop := w.heap[g]? = some (.cells (cellsU l ++ tl).toArray 5 (0, 0))
def ovr (l : List UInt8) (k : Nat) (p : List UInt8) : List UInt8 := l.take k ++ p ++ l.drop (k + p.length)
theorem ovr_len (l : List UInt8) (k : Nat) (p : List UInt8) (h : k + p.length ≤ l.length) : (ovr l k p).length = l.length := by
  simp [ovr]; omega
theorem cells_ovr (l : List UInt8) (tl : List Value) (k : Nat) (p : List UInt8) (h : k + p.length ≤ l.length) : splice (cellsU l ++ tl) k (cellsU p) = cellsU (ovr l k p) ++ tl := by
  have hk : k ≤ (cellsU l).length := by rw [cellsU_len]; omega
  have hk2 : k + (cellsU p).length ≤ (cellsU l).length := by rw [cellsU_len, cellsU_len]; omega
  unfold splice ovr
  rw [List.take_append_of_le_length hk, List.drop_append_of_le_length hk2, cellsU_append, cellsU_append]
  simp only [List.append_assoc]
  congr 1
  · simp [cellsU]
  · congr 2
    simp [cellsU]
theorem Keep.thruK {g : Nat} {u v w : World} (h : Keep (· = g) u v) (k : Keep (· = g) v w) : Keep (· = g) u w := h.trans k fun _ _ e => e
theorem put_cells (v : Nat) (h : v < 4294967296) : cellsU (put32 v) = [.int .u8 ((v : Int) / 16777216), .int .u8 ((v : Int) / 65536 % 256), .int .u8 ((v : Int) / 256 % 256), .int .u8 ((v : Int) % 256)] := by
  have e1 : (((v / 16777216 % 256) % 2 ^ 8 : Nat) : Int) = (v : Int) / 16777216 := by omega
  have e2 : (((v / 65536 % 256) % 2 ^ 8 : Nat) : Int) = (v : Int) / 65536 % 256 := by omega
  have e3 : (((v / 256 % 256) % 2 ^ 8 : Nat) : Int) = (v : Int) / 256 % 256 := by omega
  have e4 : (((v % 256) % 2 ^ 8 : Nat) : Int) = (v : Int) % 256 := by omega
  simp only [cellsU, put32, List.map_cons, List.map_nil, UInt8.toNat_ofNat']
  rw [e1, e2, e3, e4]
set_option maxRecDepth 20000 in
set_option maxHeartbeats 1000000 in
theorem put_any (w : World) (g cap k v : Nat) (l : List UInt8) (tl : List Value) (h : Brow w g l tl) (hk : k + 4 ≤ l.length) (hv : v < 4294967296) (hlen : l.length ≤ cap) (hcap : cap ≤ 9223372036854775807) : Calls Try.prog 63 #[.slice (some ⟨g, 0, none⟩) l.length cap, .int .i64 (k : Int), .int .i64 (v : Int)] w fun e w' => e = .returned (.tuple #[]) ∧ Brow w' g (ovr l k (put32 v)) tl ∧ Keep (· = g) w w' := by
  have hgl : g < w.heap.size := (Array.getElem?_eq_some_iff.1 h).1
  have H72 := hidden (bput_any (v : Int) (by omega) (by omega) w)
  have H := hidden h
  have hkz : (k : Int) ≤ (l.length : Int) := by omega
  clear h
  go_enter Try.func63, Try.ntmps63
  go_wp2_with (go_at_call 72; with_reducible refine (Hid.out H72).mono ?_; rintro e w1 ⟨rfl, hb1⟩; have HB1 := hidden hb1; clear hb1)
  refine wp_region_tail 4 (by kernel_rfl) (by kernel_rfl) ?_
  simp only [List.take_succ_cons, List.take_zero, List.drop_succ_cons, List.drop_zero]
  repeat (go_big_quiet_step (fail))
  refine wpQuiet_nil ?_
  rintro _ ⟨nq, rfl⟩
  have hB : Brow ((w1.alloc (.cells #[.int .u8 ((v : Int) / 16777216), .int .u8 ((v : Int) / 65536 % 256), .int .u8 ((v : Int) / 256 % 256), .int .u8 ((v : Int) % 256)] 112)).drewN nq) g l tl := by
    show (w1.alloc _).heap[g]? = _
    exact (heap_alloc_old _ _ (Nat.lt_of_lt_of_le hgl (Hid.out HB1).size)).trans (((Hid.out HB1).block g hgl).trans (Hid.out H))
  have hN : Blk ((w1.alloc (.cells #[.int .u8 ((v : Int) / 16777216), .int .u8 ((v : Int) / 65536 % 256), .int .u8 ((v : Int) / 256 % 256), .int .u8 ((v : Int) % 256)] 112)).drewN nq) w1.heap.size #[.int .u8 ((v : Int) / 16777216), .int .u8 ((v : Int) / 65536 % 256), .int .u8 ((v : Int) / 256 % 256), .int .u8 ((v : Int) % 256)] 112 := Blk.new w1 _ _
  have hK : Keep (· = g) w ((w1.alloc (.cells #[.int .u8 ((v : Int) / 16777216), .int .u8 ((v : Int) / 65536 % 256), .int .u8 ((v : Int) / 256 % 256), .int .u8 ((v : Int) % 256)] 112)).drewN nq) := ((Keep.of_below (Hid.out HB1)).trans (keep_alloc (· = g) w1 _) fun _ _ e => e).drewN nq
  have hpl : (put32 v).length = 4 := rfl
  have hcs := cells_ovr l tl k (put32 v) (by rw [hpl]; exact hk)
  refine wpList_copy_own rfl _ _ 51 51 rfl 5 Try.underlying51 size5 g k (l.length - k) (cap - k) ⟨w1.heap.size, 0, none⟩ 4 4 rfl rfl _ 5 hB (cellsU (put32 v)) ?_ ?_ ?_ (cellsU_one _) ?_
  · rw [cellsU_len, hpl]
    show 4 = min 4 (l.length - k)
    omega
  · intro j u hu
    rw [put_cells v hv] at hu
    rw [Addr.add_lit]
    refine hN.cell ?_
    rw [Nat.zero_add]
    simpa using hu
  · rw [cellsU_len, hpl, List.size_toArray, List.length_append, cellsU_len]
    omega
  · have hfin : Brow (((w1.alloc (.cells #[.int .u8 ((v : Int) / 16777216), .int .u8 ((v : Int) / 65536 % 256), .int .u8 ((v : Int) / 256 % 256), .int .u8 ((v : Int) % 256)] 112)).drewN nq).setRow g ((cellsU l ++ tl).toArray.toList.take k ++ (cellsU (put32 v) ++ (cellsU l ++ tl).toArray.toList.drop (k + (cellsU (put32 v)).length))).toArray) g (ovr l k (put32 v)) tl := by
      unfold Brow
      rw [setRow_heap _ g _ _ 5 (0, 0) hB, ← hcs]
      simp only [splice]
    have hkp := hK.thruK (Keep.of_only (only_setRow ((w1.alloc (.cells #[.int .u8 ((v : Int) / 16777216), .int .u8 ((v : Int) / 65536 % 256), .int .u8 ((v : Int) / 256 % 256), .int .u8 ((v : Int) % 256)] 112)).drewN nq) g ((cellsU l ++ tl).toArray.toList.take k ++ (cellsU (put32 v) ++ (cellsU l ++ tl).toArray.toList.drop (k + (cellsU (put32 v)).length))).toArray))
    generalize World.setRow _ _ _ = wz at hfin hkp ⊢
    have HF := hidden hfin
    have HKP := hidden hkp
    clear hfin hkp hcs hB hN hK
    go_wp2
    go_end0
    exact ⟨rfl, Hid.out HF, Hid.out HKP⟩
end Go.Proofs.Ytpknppicamefgaa

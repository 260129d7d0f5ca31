/- Bytes that came in. -/
import Derived.Test.YtkpcajmphhdmiaaUMAI
import Derived.OpenShut
import Derived.Test.YtkpcajmphhdmiaaUMAW
import Derived.Test.YtkpcajmphhdmiaaUMAB
import Derived.Test.YtkpcajmphhdmiaaUMAN
namespace Go.Proofs.Ytkpcajmphhdmiaa
open Go.ChangeShapes Go.WideShapes Go.ChangeAt Go.RowKit Go.Deep
set_option linter.unusedVariables false
theorem open_bytes {H : Type} {enc : TypeId × Value → H} {w : World} {fuel : Nat} {held : Bool} {ao : Option Addr} {len cap : Nat} {x : DataW H × List MemPlace} {spare : Nat → Bool} (h : DataW.trod enc Try.prog w 0 spare held fuel 46 [.slice ao len cap] = some x) :
    ∃ l : List UInt8, l.length = len ∧ Row w ao l cap ∧ l.length ≤ 9223372036854775807 := by
  rcases open_ints Try.underlying46 Try.underlying5 (by kernel_rfl) h with ⟨hcs, _⟩ | ⟨a, l0, c0, zs, hcs, _, hl, hm, hz, _, hcell, hwz⟩
  · simp only [List.cons.injEq, and_true, Value.slice.injEq] at hcs
    obtain ⟨rfl, rfl, rfl⟩ := hcs
    exact ⟨[], rfl, Row.none w, by simp⟩
  · simp only [List.cons.injEq, and_true, Value.slice.injEq] at hcs
    obtain ⟨rfl, rfl, rfl⟩ := hcs
    have hzl : len ≤ zs.length := by rw [hz]; split <;> omega
    obtain ⟨f, hf⟩ : ∃ f : Nat → UInt8, ∀ i, i < len → zs.getD i 0 = ((f i).toNat : Int) := by
      refine choose_lt (p := fun i (v : UInt8) => zs.getD i 0 = (v.toNat : Int)) fun i hi => ?_
      refine wf_u8 (hwz _ ?_)
      rw [List.getD_eq_getElem?_getD, List.getElem?_eq_getElem (by omega), Option.getD_some]
      exact List.getElem_mem _
    have hlen : ((List.range len).map f).length = len := by simp
    have hm2 := hm
    simp only [maxLen] at hm2
    refine ⟨(List.range len).map f, hlen, ⟨by rw [hlen]; exact hl, hm, by simp, ?_⟩, by rw [hlen]; omega⟩
    by_cases h0 : len = 0
    · left
      subst h0
      rfl
    · right
      obtain ⟨b, off, spot⟩ := a
      have hc0 := hcell 0 (by omega)
      have hspot : spot = none := by simpa [Addr.add] using World.cell?_spot hc0
      subst hspot
      refine ⟨b, off, rfl, fun j hj => ?_⟩
      rw [hlen] at hj
      have h1 := hcell j (by omega)
      rw [Addr.add_lit] at h1
      rw [h1, hf j hj]
      simp [List.getD_eq_getElem?_getD, hj]
end Go.Proofs.Ytkpcajmphhdmiaa
namespace Go.Proofs.Ytkpcajmphhdmiaa
open Go.ChangeShapes Go.WideShapes Go.ChangeAt Go.RowKit
set_option linter.unusedVariables false
section
variable {ρ : Operand → Value} {o : Oper}
theorem exec_u8_32 {x : Operand} {n : Nat} (hn : n < 256) (hop : o.op = .convert 5 23 x) (hx : ρ x = .int .u8 (n : Int)) (w : World) : (execOp ρ o).run Try.prog w = .ok (.value (.int .u32 (n : Int))) w := by
  have e : (n : Int) % 4294967296 = (n : Int) := by omega
  unfold execOp
  rw [hop]
  simp [hx, go_sem]
  exact e
theorem exec_u8_i8 {x : Operand} {n : Nat} (hop : o.op = .convert 5 56 x) (hx : ρ x = .int .u8 (n : Int)) (w : World) : (execOp ρ o).run Try.prog w = .ok (.value (.int .i8 (IntKind.i8.wrap (n : Int)))) w := by
  unfold execOp
  rw [hop]
  simp [hx, go_sem]
theorem exec_u32_i16 {x : Operand} {n : Nat} (hop : o.op = .convert 23 57 x) (hx : ρ x = .int .u32 (n : Int)) (w : World) : (execOp ρ o).run Try.prog w = .ok (.value (.int .i16 (IntKind.i16.wrap (n : Int)))) w := by
  unfold execOp
  rw [hop]
  simp [hx, go_sem]
theorem exec_i8_i32 {x : Operand} {n : Int} (h : IntKind.i32.wrap n = n) (hop : o.op = .convert 56 21 x) (hx : ρ x = .int .i8 n) (w : World) : (execOp ρ o).run Try.prog w = .ok (.value (.int .i32 n)) w := by
  unfold execOp
  rw [hop]
  simp [hx, go_sem]
  exact h
theorem exec_i16_i32 {x : Operand} {n : Int} (h : IntKind.i32.wrap n = n) (hop : o.op = .convert 57 21 x) (hx : ρ x = .int .i16 n) (w : World) : (execOp ρ o).run Try.prog w = .ok (.value (.int .i32 n)) w := by
  unfold execOp
  rw [hop]
  simp [hx, go_sem]
  exact h
theorem exec_i32_u32 {x : Operand} {n : Int} (r : Int) (h : n % 4294967296 = r) (hop : o.op = .convert 21 23 x) (hx : ρ x = .int .i32 n) (w : World) : (execOp ρ o).run Try.prog w = .ok (.value (.int .u32 r)) w := by
  unfold execOp
  rw [hop]
  simp [hx, go_sem]
  exact h
theorem exec_shl8 {x : Operand} {n : Nat} (hn : n < 256) (hop : o.op = .binOp .shl 23 x (.const (.int .u64 8)) 49) (hx : ρ x = .int .u32 (n : Int)) (hc : ρ (.const (.int .u64 8)) = .int .u64 8) (w : World) : (execOp ρ o).run Try.prog w = .ok (.value (.int .u32 ((n * 256 : Nat) : Int))) w := by
  have e : (n : Int) * 256 % 4294967296 = (n : Int) * 256 := by omega
  unfold execOp
  rw [hop]
  simp [hx, hc, go_sem]
  exact e
theorem exec_addN {x y : Operand} {m n : Nat} (hmn : m + n < 4294967296) (hop : o.op = .binOp .add 23 x y 23) (hx : ρ x = .int .u32 (m : Int)) (hy : ρ y = .int .u32 (n : Int)) (w : World) : (execOp ρ o).run Try.prog w = .ok (.value (.int .u32 ((m + n : Nat) : Int))) w := by
  have e : ((m : Int) + (n : Int)) % 4294967296 = (m : Int) + (n : Int) := by omega
  unfold execOp
  rw [hop]
  simp [hx, hy, go_sem]
  exact e
theorem exec_indexB {x y : Operand} {b off n cap k : Nat} (hop : o.op = .indexAddr 46 x y) (hx : ρ x = .slice (some ⟨b, off, none⟩) n cap) (hy : ρ y = .int .u32 (k : Int)) (hk : k < n) (w : World) : (execOp ρ o).run Try.prog w = .ok (.value (.pointer (some ⟨b, off + k, none⟩))) w := by
  have h0 : (0 : Int) ≤ (k : Int) := by omega
  have h1 : (k : Int) < (n : Int) := by omega
  unfold execOp
  rw [hop]
  simp [hx, hy, Instr.indexAt, run_underlying Try.underlying46, asIntOf, hk, go_sem]
end
/-- One part at 0 that may be read. -/
def sgP (ao : Option Addr) (cap : Nat) (l : List UInt8) : Part4 := ⟨0, l, 4, false, ao, cap⟩
theorem sg_byte {s : MS} {ao : Option Addr} {cap : Nat} {l : List UInt8} (h : s.abs = memOf [sgP ao cap l]) (hl : l.length ≤ 250) (j : Nat) (hj : j < l.length) : byteN s j = (l.getD j 0).toNat := by
  unfold byteN
  rw [get_getA, h]
  have e : wrapAt (sgP ao cap l).at_ j = j := by show (0 + j) % 4294967296 = j; omega
  have := one_get (sgP ao cap l) (by show 1 ≤ l.length; omega) (by show 0 + l.length ≤ _; omega) j hj
  rw [e] at this
  rw [this]
  rfl
theorem sg_perm {s : MS} {ao : Option Addr} {cap : Nat} {l : List UInt8} (h : s.abs = memOf [sgP ao cap l]) (hl : l.length ≤ 250) (j : Nat) (hj : j < l.length) : s.perm j = 4 := by
  have e : wrapAt (sgP ao cap l).at_ j = j := by show (0 + j) % 4294967296 = j; omega
  exact perm_all (s := s) (z := 4) (by rw [h]; exact one_allP (sgP ao cap l)) j (by rw [h]; exact (one_some (sgP ao cap l) (by show 1 ≤ l.length; omega) _).2 ⟨j, hj, by rw [e]⟩)
theorem sg_kind1 {s : MS} {ao : Option Addr} {cap : Nat} {l : List UInt8} (h : s.abs = memOf [sgP ao cap l]) (hl : l.length ≤ 250) (j : Nat) (hj : j < l.length) (h2 : j % 2 = 0) : faultK s 56 j = 6 := by
  rw [faultK_w (by omega)]
  exact fault_pg (decide_eq_false (by omega)) (by rw [sg_perm h hl j hj]; decide)
theorem sg_kind2 (s : MS) (j : Nat) (h2 : j % 2 = 1) : faultK s 49 j = 2 := by
  rw [faultK_r (by omega)]
  exact fault_al (decide_eq_true (by omega))
theorem kdC {w0 w1 : World} {s : MS} {mb : Nat} {op r : Int} {a : Nat} (ho : Own w0 w1 s) (hm : s.mb = mb) (ha : a < 4294967296) (hr : faultK s op a = r) : Calls Try.prog 11 #[.pointer (some ⟨mb, 0, none⟩), .agg (insC op 0 0 0 0 0), .int .u32 (a : Int)] w1 fun e w' => e = .returned (.int .i64 r) ∧ Below w1.heap.size w1 w' := by
  have h := accKind_any w1 s ho.mem op 0 0 0 0 0 a ha
  rw [hm, hr] at h
  exact h
theorem ldC0 {w0 w1 : World} {s : MS} {mb : Nat} {op r : Int} {a : Nat} (ho : Own w0 w1 s) (hm : s.mb = mb) (ha : a < 4294967296) (hr : (loadN s op a 0 : Int) = r) : Calls Try.prog 15 #[.pointer (some ⟨mb, 0, none⟩), .agg (insC op 0 0 0 0 0), .int .u32 (a : Int), .int .u32 0] w1 fun e w' => e = .returned (.int .u32 r) ∧ Own w0 w' s := ldC (old := 0) ho hm ha (by omega) hr
theorem row_cell {w : World} {bb off cap : Nat} {l : List UInt8} (h : Row w (some ⟨bb, off, none⟩) l cap) {j : Nat} (hj : j < l.length) : w.cell? ⟨bb, off + j, none⟩ = some (.int .u8 ((l.getD j 0).toNat : Int)) := by
  obtain ⟨b, o, e, hc⟩ := getD_in_row h hj
  injection e with e
  injection e with e1 e2
  rw [e1, e2]
  exact hc
/-- A byte, two bytes with their sign. -/
def s8 (n : Nat) : Nat := if n < 128 then n else n + 4294967040
def s16 (n : Nat) : Nat := if n < 32768 then n else n + 4294901760
theorem sg_loads {s : MS} {ao : Option Addr} {cap : Nat} {l : List UInt8} (h : s.abs = memOf [sgP ao cap l]) (hl : l.length ≤ 250) {k p0 p1 : Nat} (hk : k + 1 < l.length) (e0 : (l.getD k 0).toNat = p0) (e1 : (l.getD (k + 1) 0).toNat = p1) : (loadN s 48 k 0 : Int) = (s8 p0 : Int) ∧ (loadN s 52 k 0 : Int) = (p0 : Int) ∧ (loadN s 49 k 0 : Int) = (s16 (p0 * 256 + p1) : Int) ∧ (loadN s 53 k 0 : Int) = ((p0 * 256 + p1 : Nat) : Int) := by
  have h0 : byteN s k = p0 := (sg_byte h hl k (by omega)).trans e0
  have h1 : byteN s (k + 1) = p1 := (sg_byte h hl (k + 1) hk).trans e1
  have h2 : halfN s k = p0 * 256 + p1 := by unfold halfN; rw [show wrapAt k 1 = k + 1 by unfold wrapAt; omega, h0, h1]
  refine ⟨?_, ?_, ?_, ?_⟩
  · rw [show loadN s 48 k 0 = s8 (byteN s k) from rfl, h0]
  · rw [show loadN s 52 k 0 = byteN s k from rfl, h0]
  · rw [show loadN s 49 k 0 = s16 (halfN s k) from rfl, h2]
  · rw [show loadN s 53 k 0 = halfN s k from rfl, h2]
theorem wrap_i8_32 (n : Nat) : IntKind.i32.wrap (IntKind.i8.wrap (n : Int)) = IntKind.i8.wrap (n : Int) := by
  have e : IntKind.i8.wrap (n : Int) = if (n : Int) % 256 < 128 then (n : Int) % 256 else (n : Int) % 256 - 256 := by
    unfold IntKind.wrap
    simp [IntKind.bits, IntKind.signed]
    split <;> split <;> omega
  exact IntWalk.i32_in _ (by rw [e]; split <;> omega)
theorem wrap_i16_32 (n : Nat) : IntKind.i32.wrap (IntKind.i16.wrap (n : Int)) = IntKind.i16.wrap (n : Int) := by
  have e : IntKind.i16.wrap (n : Int) = if (n : Int) % 65536 < 32768 then (n : Int) % 65536 else (n : Int) % 65536 - 65536 := by
    unfold IntKind.wrap
    simp [IntKind.bits, IntKind.signed]
    split <;> split <;> omega
  exact IntWalk.i32_in _ (by rw [e]; split <;> omega)
theorem not1 (q : Nat) (hq : q < 4294967296) : bits .andNot .u32 (q : Int) 1 = ((q - q % 2 : Nat) : Int) := by
  have h := u32_andNot_nat q 1 hq (by omega)
  rw [show 4294967295 - 1 = 4294967296 - 2 ^ 1 by decide, high_mask _ _ (by omega) hq] at h
  rw [show ((1 : Nat) : Int) = 1 from rfl] at h
  rw [h]
  congr 1
  omega
/-- What the slots of the region hold, whatever the order. -/
def phiSg (bb off len cap mb k p0 p1 : Nat) : Nat → Value → World → Prop
  | 0, x, _ => x = .int .u32 (p0 : Int)
  | 1, x, _ => x = .slice (some ⟨bb, off, none⟩) len cap
  | 2, x, _ => x = .int .u32 (k : Int)
  | 3, x, _ => x = .pointer (some ⟨bb, off + k, none⟩)
  | 4, x, _ => x = .int .u8 (p0 : Int)
  | 5, x, _ => x = .int .u32 (p0 : Int)
  | 6, x, _ => x = .bool true
  | 7, x, _ => x = .bool true
  | 8, x, _ => x = .int .u32 (s8 p0 : Int)
  | 9, x, _ => x = .slice (some ⟨bb, off, none⟩) len cap
  | 10, x, _ => x = .int .u32 (k : Int)
  | 11, x, _ => x = .pointer (some ⟨bb, off + k, none⟩)
  | 12, x, _ => x = .int .u8 (p0 : Int)
  | 13, x, _ => x = .int .i8 (IntKind.i8.wrap (p0 : Int))
  | 14, x, _ => x = .int .i32 (IntKind.i8.wrap (p0 : Int))
  | 15, x, _ => x = .int .u32 (s8 p0 : Int)
  | 16, x, _ => x = .bool true
  | 17, x, _ => x = .bool true
  | 18, x, _ => x = .bool true
  | 19, x, _ => x = .int .u32 ((p0 * 256 + p1 : Nat) : Int)
  | 20, x, _ => x = .slice (some ⟨bb, off, none⟩) len cap
  | 21, x, _ => x = .int .u32 (k : Int)
  | 22, x, _ => x = .pointer (some ⟨bb, off + k, none⟩)
  | 23, x, _ => x = .int .u8 (p0 : Int)
  | 24, x, _ => x = .int .u32 (p0 : Int)
  | 25, x, _ => x = .int .u32 ((p0 * 256 : Nat) : Int)
  | 26, x, _ => x = .slice (some ⟨bb, off, none⟩) len cap
  | 27, x, _ => x = .int .u32 (k : Int)
  | 28, x, _ => x = .int .u32 ((k + 1 : Nat) : Int)
  | 29, x, _ => x = .pointer (some ⟨bb, off + (k + 1), none⟩)
  | 30, x, _ => x = .int .u8 (p1 : Int)
  | 31, x, _ => x = .int .u32 (p1 : Int)
  | 32, x, _ => x = .int .u32 ((p0 * 256 + p1 : Nat) : Int)
  | 33, x, _ => x = .bool true
  | 34, x, _ => x = .bool true
  | 35, x, _ => x = .bool true
  | 36, x, _ => x = .int .u32 (s16 (p0 * 256 + p1) : Int)
  | 37, x, _ => x = .int .u32 ((p0 * 256 + p1 : Nat) : Int)
  | 38, x, _ => x = .int .i16 (IntKind.i16.wrap ((p0 * 256 + p1 : Nat) : Int))
  | 39, x, _ => x = .int .i32 (IntKind.i16.wrap ((p0 * 256 + p1 : Nat) : Int))
  | 40, x, _ => x = .int .u32 (s16 (p0 * 256 + p1) : Int)
  | 41, x, _ => x = .bool true
  | 42, x, _ => x = .bool true
  | 43, x, _ => x = .bool true
  | 44, x, _ => x = .pointer (some ⟨mb, 0, none⟩)
  | 45, x, _ => x = .agg (insC 56 0 0 0 0 0)
  | 46, x, _ => x = .int .u32 (k : Int)
  | 47, x, _ => x = .int .i64 6
  | 48, x, _ => x = .bool true
  | 49, x, _ => x = .bool true
  | 50, x, _ => x = .bool true
  | 51, x, _ => x = .pointer (some ⟨mb, 0, none⟩)
  | 52, x, _ => x = .agg (insC 49 0 0 0 0 0)
  | 53, x, _ => x = .int .u32 (k : Int)
  | 54, x, _ => x = .int .u32 ((k + 1 : Nat) : Int)
  | 55, x, _ => x = .int .i64 2
  | 56, x, _ => x = .bool true
  | 57, x, _ => x = .bool true
  | 58, x, _ => x = .bool true
  | 59, x, _ => x = .bool true
  | 60, x, _ => x = .bool true
  | 61, x, _ => x = .bool true
  | _ + 62, _, _ => True
theorem phiSg_mono (bb off len cap mb k p0 p1 : Nat) : ∀ i x w w', phiSg bb off len cap mb k p0 p1 i x w → Below w.heap.size w w' → phiSg bb off len cap mb k p0 p1 i x w'
  | 0, _, _, _, h, _ => h
  | 1, _, _, _, h, _ => h
  | 2, _, _, _, h, _ => h
  | 3, _, _, _, h, _ => h
  | 4, _, _, _, h, _ => h
  | 5, _, _, _, h, _ => h
  | 6, _, _, _, h, _ => h
  | 7, _, _, _, h, _ => h
  | 8, _, _, _, h, _ => h
  | 9, _, _, _, h, _ => h
  | 10, _, _, _, h, _ => h
  | 11, _, _, _, h, _ => h
  | 12, _, _, _, h, _ => h
  | 13, _, _, _, h, _ => h
  | 14, _, _, _, h, _ => h
  | 15, _, _, _, h, _ => h
  | 16, _, _, _, h, _ => h
  | 17, _, _, _, h, _ => h
  | 18, _, _, _, h, _ => h
  | 19, _, _, _, h, _ => h
  | 20, _, _, _, h, _ => h
  | 21, _, _, _, h, _ => h
  | 22, _, _, _, h, _ => h
  | 23, _, _, _, h, _ => h
  | 24, _, _, _, h, _ => h
  | 25, _, _, _, h, _ => h
  | 26, _, _, _, h, _ => h
  | 27, _, _, _, h, _ => h
  | 28, _, _, _, h, _ => h
  | 29, _, _, _, h, _ => h
  | 30, _, _, _, h, _ => h
  | 31, _, _, _, h, _ => h
  | 32, _, _, _, h, _ => h
  | 33, _, _, _, h, _ => h
  | 34, _, _, _, h, _ => h
  | 35, _, _, _, h, _ => h
  | 36, _, _, _, h, _ => h
  | 37, _, _, _, h, _ => h
  | 38, _, _, _, h, _ => h
  | 39, _, _, _, h, _ => h
  | 40, _, _, _, h, _ => h
  | 41, _, _, _, h, _ => h
  | 42, _, _, _, h, _ => h
  | 43, _, _, _, h, _ => h
  | 44, _, _, _, h, _ => h
  | 45, _, _, _, h, _ => h
  | 46, _, _, _, h, _ => h
  | 47, _, _, _, h, _ => h
  | 48, _, _, _, h, _ => h
  | 49, _, _, _, h, _ => h
  | 50, _, _, _, h, _ => h
  | 51, _, _, _, h, _ => h
  | 52, _, _, _, h, _ => h
  | 53, _, _, _, h, _ => h
  | 54, _, _, _, h, _ => h
  | 55, _, _, _, h, _ => h
  | 56, _, _, _, h, _ => h
  | 57, _, _, _, h, _ => h
  | 58, _, _, _, h, _ => h
  | 59, _, _, _, h, _ => h
  | 60, _, _, _, h, _ => h
  | 61, _, _, _, h, _ => h
  | _ + 62, _, _, _, _, _ => trivial
theorem listS62 (xs : List Value) (h : xs.length = 62) : ∃ x0 x1 x2 x3 x4 x5 x6 x7 x8 x9 x10 x11 x12 x13 x14 x15 x16 x17 x18 x19 x20 x21 x22 x23 x24 x25 x26 x27 x28 x29 x30 x31 x32 x33 x34 x35 x36 x37 x38 x39 x40 x41 x42 x43 x44 x45 x46 x47 x48 x49 x50 x51 x52 x53 x54 x55 x56 x57 x58 x59 x60 x61, xs = [x0, x1, x2, x3, x4, x5, x6, x7, x8, x9, x10, x11, x12, x13, x14, x15, x16, x17, x18, x19, x20, x21, x22, x23, x24, x25, x26, x27, x28, x29, x30, x31, x32, x33, x34, x35, x36, x37, x38, x39, x40, x41, x42, x43, x44, x45, x46, x47, x48, x49, x50, x51, x52, x53, x54, x55, x56, x57, x58, x59, x60, x61] := by
  obtain ⟨x0, xs1, rfl, h1⟩ := cons_of_len (n := 61) xs h
  obtain ⟨x1, xs2, rfl, h2⟩ := cons_of_len (n := 60) xs1 h1
  obtain ⟨x2, xs3, rfl, h3⟩ := cons_of_len (n := 59) xs2 h2
  obtain ⟨x3, xs4, rfl, h4⟩ := cons_of_len (n := 58) xs3 h3
  obtain ⟨x4, xs5, rfl, h5⟩ := cons_of_len (n := 57) xs4 h4
  obtain ⟨x5, xs6, rfl, h6⟩ := cons_of_len (n := 56) xs5 h5
  obtain ⟨x6, xs7, rfl, h7⟩ := cons_of_len (n := 55) xs6 h6
  obtain ⟨x7, xs8, rfl, h8⟩ := cons_of_len (n := 54) xs7 h7
  obtain ⟨x8, xs9, rfl, h9⟩ := cons_of_len (n := 53) xs8 h8
  obtain ⟨x9, xs10, rfl, h10⟩ := cons_of_len (n := 52) xs9 h9
  obtain ⟨x10, xs11, rfl, h11⟩ := cons_of_len (n := 51) xs10 h10
  obtain ⟨x11, xs12, rfl, h12⟩ := cons_of_len (n := 50) xs11 h11
  obtain ⟨x12, xs13, rfl, h13⟩ := cons_of_len (n := 49) xs12 h12
  obtain ⟨x13, xs14, rfl, h14⟩ := cons_of_len (n := 48) xs13 h13
  obtain ⟨x14, xs15, rfl, h15⟩ := cons_of_len (n := 47) xs14 h14
  obtain ⟨x15, xs16, rfl, h16⟩ := cons_of_len (n := 46) xs15 h15
  obtain ⟨x16, xs17, rfl, h17⟩ := cons_of_len (n := 45) xs16 h16
  obtain ⟨x17, xs18, rfl, h18⟩ := cons_of_len (n := 44) xs17 h17
  obtain ⟨x18, xs19, rfl, h19⟩ := cons_of_len (n := 43) xs18 h18
  obtain ⟨x19, xs20, rfl, h20⟩ := cons_of_len (n := 42) xs19 h19
  obtain ⟨x20, xs21, rfl, h21⟩ := cons_of_len (n := 41) xs20 h20
  obtain ⟨x21, xs22, rfl, h22⟩ := cons_of_len (n := 40) xs21 h21
  obtain ⟨x22, xs23, rfl, h23⟩ := cons_of_len (n := 39) xs22 h22
  obtain ⟨x23, xs24, rfl, h24⟩ := cons_of_len (n := 38) xs23 h23
  obtain ⟨x24, xs25, rfl, h25⟩ := cons_of_len (n := 37) xs24 h24
  obtain ⟨x25, xs26, rfl, h26⟩ := cons_of_len (n := 36) xs25 h25
  obtain ⟨x26, xs27, rfl, h27⟩ := cons_of_len (n := 35) xs26 h26
  obtain ⟨x27, xs28, rfl, h28⟩ := cons_of_len (n := 34) xs27 h27
  obtain ⟨x28, xs29, rfl, h29⟩ := cons_of_len (n := 33) xs28 h28
  obtain ⟨x29, xs30, rfl, h30⟩ := cons_of_len (n := 32) xs29 h29
  obtain ⟨x30, xs31, rfl, h31⟩ := cons_of_len (n := 31) xs30 h30
  obtain ⟨x31, xs32, rfl, h32⟩ := cons_of_len (n := 30) xs31 h31
  obtain ⟨x32, xs33, rfl, h33⟩ := cons_of_len (n := 29) xs32 h32
  obtain ⟨x33, xs34, rfl, h34⟩ := cons_of_len (n := 28) xs33 h33
  obtain ⟨x34, xs35, rfl, h35⟩ := cons_of_len (n := 27) xs34 h34
  obtain ⟨x35, xs36, rfl, h36⟩ := cons_of_len (n := 26) xs35 h35
  obtain ⟨x36, xs37, rfl, h37⟩ := cons_of_len (n := 25) xs36 h36
  obtain ⟨x37, xs38, rfl, h38⟩ := cons_of_len (n := 24) xs37 h37
  obtain ⟨x38, xs39, rfl, h39⟩ := cons_of_len (n := 23) xs38 h38
  obtain ⟨x39, xs40, rfl, h40⟩ := cons_of_len (n := 22) xs39 h39
  obtain ⟨x40, xs41, rfl, h41⟩ := cons_of_len (n := 21) xs40 h40
  obtain ⟨x41, xs42, rfl, h42⟩ := cons_of_len (n := 20) xs41 h41
  obtain ⟨x42, xs43, rfl, h43⟩ := cons_of_len (n := 19) xs42 h42
  obtain ⟨x43, xs44, rfl, h44⟩ := cons_of_len (n := 18) xs43 h43
  obtain ⟨x44, xs45, rfl, h45⟩ := cons_of_len (n := 17) xs44 h44
  obtain ⟨x45, xs46, rfl, h46⟩ := cons_of_len (n := 16) xs45 h45
  obtain ⟨x46, xs47, rfl, h47⟩ := cons_of_len (n := 15) xs46 h46
  obtain ⟨x47, xs48, rfl, h48⟩ := cons_of_len (n := 14) xs47 h47
  obtain ⟨x48, xs49, rfl, h49⟩ := cons_of_len (n := 13) xs48 h48
  obtain ⟨x49, xs50, rfl, h50⟩ := cons_of_len (n := 12) xs49 h49
  obtain ⟨x50, xs51, rfl, h51⟩ := cons_of_len (n := 11) xs50 h50
  obtain ⟨x51, xs52, rfl, h52⟩ := cons_of_len (n := 10) xs51 h51
  obtain ⟨x52, xs53, rfl, h53⟩ := cons_of_len (n := 9) xs52 h52
  obtain ⟨x53, xs54, rfl, h54⟩ := cons_of_len (n := 8) xs53 h53
  obtain ⟨x54, xs55, rfl, h55⟩ := cons_of_len (n := 7) xs54 h54
  obtain ⟨x55, xs56, rfl, h56⟩ := cons_of_len (n := 6) xs55 h55
  obtain ⟨x56, xs57, rfl, h57⟩ := cons_of_len (n := 5) xs56 h56
  obtain ⟨x57, xs58, rfl, h58⟩ := cons_of_len (n := 4) xs57 h57
  obtain ⟨x58, xs59, rfl, h59⟩ := cons_of_len (n := 3) xs58 h58
  obtain ⟨x59, xs60, rfl, h60⟩ := cons_of_len (n := 2) xs59 h59
  obtain ⟨x60, xs61, rfl, h61⟩ := cons_of_len (n := 1) xs60 h60
  obtain ⟨x61, xs62, rfl, h62⟩ := cons_of_len (n := 0) xs61 h61
  obtain rfl := List.eq_nil_of_length_eq_zero h62
  exact ⟨_, _, _, _, _, _, _, _, _, _, _, _, _, _, _, _, _, _, _, _, _, _, _, _, _, _, _, _, _, _, _, _, _, _, _, _, _, _, _, _, _, _, _, _, _, _, _, _, _, _, _, _, _, _, _, _, _, _, _, _, _, _, rfl⟩
set_option maxRecDepth 20000 in
set_option maxHeartbeats 4000000 in
theorem signs_walk (W : World) (ao : Option Addr) (cap : Nat) (l : List UInt8) (hr : Row W ao l cap) (z : Int) : Calls Try.prog 6 #[.slice ao l.length cap, .int .i64 z] W fun e w' => e = .returned (.bool true) ∧ Below W.heap.size W w' := by
  by_cases hin : 4 ≤ l.length ∧ l.length ≤ 250
  · obtain ⟨hl4, hl250⟩ := hin
    obtain ⟨bb, off, hao, hcell0⟩ := getD_in_row hr (k := 0) (by omega)
    subst hao
    obtain ⟨wb, hwb⟩ : ∃ wb, W.alloc (.cells #[.int .u32 0, .slice (some ⟨bb, off, none⟩) l.length cap, .int .i64 4, .bool false] 48) = wb := ⟨_, rfl⟩
    obtain ⟨pn, hpn⟩ : ∃ pn, W.heap.size = pn := ⟨_, rfl⟩
    have hpb : Pieces wb (some ⟨pn, 0, none⟩) [sgP (some ⟨bb, off, none⟩) cap l] := by rw [← hwb, ← hpn]; exact piece_new W 0 (by omega) (some ⟨bb, off, none⟩) l cap 4 false hr
    have hBB := show Below W.heap.size W wb by rw [← hwb]; exact below_new W _
    have HBB := hidden hBB
    have HRW := hidden (hr.later hBB)
    have HME := hidden (memory_any wb (some ⟨pn, 0, none⟩) 1 [sgP (some ⟨bb, off, none⟩) cap l] hpb (by simp) (by simp [sgP]; omega))
    obtain ⟨q, hq⟩ : ∃ q : Nat, (q : Int) = z % ((l.length : Int) - 1) := ⟨(z % ((l.length : Int) - 1)).toNat, by have := Int.emod_nonneg z (show (l.length : Int) - 1 ≠ 0 by omega); omega⟩
    have hq2 : q < l.length - 1 := by have := Int.emod_lt_of_pos z (show 0 < (l.length : Int) - 1 by omega); omega
    have HPL := hidden (fun u => place_any z ((l.length : Int) - 1) (by omega) (by omega) u)
    rw [← hq] at HPL
    have hn1 := not1 q (by omega)
    obtain ⟨k, hk⟩ : ∃ k, q - q % 2 = k := ⟨_, rfl⟩
    rw [hk] at hn1
    have hk1 : k + 1 < l.length := by omega
    have hk0 : k < l.length := by omega
    have hk2 : k + 1 < 4294967296 := by omega
    have hev : k % 2 = 0 := by omega
    obtain ⟨p0, e0⟩ : ∃ p0, (l.getD k 0).toNat = p0 := ⟨_, rfl⟩
    obtain ⟨p1, e1⟩ : ∃ p1, (l.getD (k + 1) 0).toNat = p1 := ⟨_, rfl⟩
    have b0 : p0 < 256 := by rw [← e0]; exact (l.getD k 0).toNat_lt
    have b1 : p1 < 256 := by rw [← e1]; exact (l.getD (k + 1) 0).toNat_lt
    have hb2 : p0 * 256 + p1 < 4294967296 := by omega
    have hb3 : p0 * 256 + p1 < 65536 := by omega
    have HB0 := hidden b0
    have HB1 := hidden b1
    have HB2 := hidden hb2
    have HB3 := hidden hb3
    have HKK := hidden hk0
    have HKL := hidden (show k < 4294967296 by omega)
    have HKM := hidden hk1
    have HK2 := hidden hk2
    have HLD := hidden (fun (s : MS) (h : s.abs = memOf [sgP (some ⟨bb, off, none⟩) cap l]) => sg_loads h hl250 hk1 e0 e1)
    have HF1 := hidden (fun (s : MS) (h : s.abs = memOf [sgP (some ⟨bb, off, none⟩) cap l]) => sg_kind1 h hl250 k hk0 hev)
    have HF2 := hidden (fun (s : MS) => sg_kind2 s (k + 1) (by omega))
    have HC0 := hidden (fun (u : World) (h : Row u (some ⟨bb, off, none⟩) l cap) => (row_cell h hk0).trans (by rw [e0]))
    have HC1 := hidden (fun (u : World) (h : Row u (some ⟨bb, off, none⟩) l cap) => (row_cell h hk1).trans (by rw [e1]))
    have hlen1 : ¬ (l.length : Int) < 4 := by omega
    have hlen2 : ¬ (250 : Int) < (l.length : Int) := by omega
    have hqs : (q : Int) < 4294967296 := by omega
    clear hpb hBB hr hcell0 hk0 hk1 hk2 hk hev e0 e1 b0 b1 hb2 hb3 hq
    go_enter Try.func6, Try.ntmps6
    go_upto_region 7 with (first | (go_at_call 9; refine HME.out.mono ?_; rintro e w1 ⟨s, rfl, hown, habs, h64, h32, hts, hcc⟩; have HO := hidden hown; have HAB := hidden habs; clear hown habs h64 h32 hts hcc) | (go_at_call 24; refine (HPL.out _).mono ?_; rintro e w9 ⟨rfl, hww⟩; rw [hww]; clear hww w9) | (go_at_call 15; (with_reducible refine (ldC0 (op := 48) HO.out rfl HKL.out (HLD.out s HAB.out).1).mono ?_); rintro e w2 ⟨rfl, ho⟩; have HO2 := hidden ho; clear ho) | (go_at_call 15; (with_reducible refine (ldC0 (op := 52) HO2.out rfl HKL.out (HLD.out s HAB.out).2.1).mono ?_); rintro e w3 ⟨rfl, ho⟩; have HO3 := hidden ho; clear ho) | (go_at_call 15; (with_reducible refine (ldC0 (op := 49) HO3.out rfl HKL.out (HLD.out s HAB.out).2.2.1).mono ?_); rintro e w4 ⟨rfl, ho⟩; have HO4 := hidden ho; clear ho) | (go_at_call 15; (with_reducible refine (ldC0 (op := 53) HO4.out rfl HKL.out (HLD.out s HAB.out).2.2.2).mono ?_); rintro e w5 ⟨rfl, ho⟩; have HO5 := hidden ho; clear ho))
    refine wp_region_on later_below [47, 48, 49, 50, 51, 52, 53, 54, 55, 56, 57, 58, 59, 60, 61, 62, 63, 64, 65, 66, 67, 68, 69, 70, 71, 72, 73, 74, 75, 76, 77, 78, 79, 80, 81, 82, 83, 84, 85, 86, 87, 88, 89, 90, 91, 92, 93, 94, 95, 96, 97, 98, 99, 100, 101, 102, 103, 104, 105, 106, 107, 4] 62 (phiSg bb off l.length cap s.mb k p0 p1) (by kernel_rfl) (by kernel_rfl) rfl rfl (phiSg_mono bb off l.length cap s.mb k p0 p1) ?_ ?_
    · intro j hj xs w3 hxs hR hpre
      obtain ⟨x0, x1, x2, x3, x4, x5, x6, x7, x8, x9, x10, x11, x12, x13, x14, x15, x16, x17, x18, x19, x20, x21, x22, x23, x24, x25, x26, x27, x28, x29, x30, x31, x32, x33, x34, x35, x36, x37, x38, x39, x40, x41, x42, x43, x44, x45, x46, x47, x48, x49, x50, x51, x52, x53, x54, x55, x56, x57, x58, x59, x60, x61, rfl⟩ := listS62 xs hxs
      have hw : Row w3 (some ⟨bb, off, none⟩) l cap := (HRW.out.later HO5.out.below).later hR
      have hc0 := HC0.out w3 hw
      have hc1 := HC1.out w3 hw
      have b0 := HB0.out
      have b1 := HB1.out
      have hb2 := HB2.out
      have hb3 := HB3.out
      have hk := HKK.out
      have hk1 := HKM.out
      have hk2 := HK2.out
      have hO := HO5.out.step (Step.later HO5.out.mem hR)
      rcases (show j = 0 ∨ j = 1 ∨ j = 2 ∨ j = 3 ∨ j = 4 ∨ j = 5 ∨ j = 6 ∨ j = 7 ∨ j = 8 ∨ j = 9 ∨ j = 10 ∨ j = 11 ∨ j = 12 ∨ j = 13 ∨ j = 14 ∨ j = 15 ∨ j = 16 ∨ j = 17 ∨ j = 18 ∨ j = 19 ∨ j = 20 ∨ j = 21 ∨ j = 22 ∨ j = 23 ∨ j = 24 ∨ j = 25 ∨ j = 26 ∨ j = 27 ∨ j = 28 ∨ j = 29 ∨ j = 30 ∨ j = 31 ∨ j = 32 ∨ j = 33 ∨ j = 34 ∨ j = 35 ∨ j = 36 ∨ j = 37 ∨ j = 38 ∨ j = 39 ∨ j = 40 ∨ j = 41 ∨ j = 42 ∨ j = 43 ∨ j = 44 ∨ j = 45 ∨ j = 46 ∨ j = 47 ∨ j = 48 ∨ j = 49 ∨ j = 50 ∨ j = 51 ∨ j = 52 ∨ j = 53 ∨ j = 54 ∨ j = 55 ∨ j = 56 ∨ j = 57 ∨ j = 58 ∨ j = 59 ∨ j = 60 ∨ j = 61 by omega) with rfl | rfl | rfl | rfl | rfl | rfl | rfl | rfl | rfl | rfl | rfl | rfl | rfl | rfl | rfl | rfl | rfl | rfl | rfl | rfl | rfl | rfl | rfl | rfl | rfl | rfl | rfl | rfl | rfl | rfl | rfl | rfl | rfl | rfl | rfl | rfl | rfl | rfl | rfl | rfl | rfl | rfl | rfl | rfl | rfl | rfl | rfl | rfl | rfl | rfl | rfl | rfl | rfl | rfl | rfl | rfl | rfl | rfl | rfl | rfl | rfl | rfl
      · exact wpOp_run (.int .u32 (p0 : Int)) rfl (by kernel_rfl) (exec_move rfl (by kernel_rfl) w3) ⟨_, by kernel_rfl, rfl, Below.refl _ _⟩
      · exact wpOp_run (.slice (some ⟨bb, off, none⟩) l.length cap) rfl (by kernel_rfl) (exec_move rfl (by kernel_rfl) w3) ⟨_, by kernel_rfl, rfl, Below.refl _ _⟩
      · exact wpOp_run (.int .u32 (k : Int)) rfl (by kernel_rfl) (exec_move rfl (by kernel_rfl) w3) ⟨_, by kernel_rfl, rfl, Below.refl _ _⟩
      · have e1 : x1 = .slice (some ⟨bb, off, none⟩) l.length cap := hpre 1 (by kernel_rfl)
        subst e1
        have e2 : x2 = .int .u32 (k : Int) := hpre 2 (by kernel_rfl)
        subst e2
        exact wpOp_run (.pointer (some ⟨bb, off + k, none⟩)) rfl (by kernel_rfl) (exec_indexB (b := bb) (off := off) (n := l.length) (cap := cap) (k := k) rfl (by kernel_rfl) (by kernel_rfl) hk w3) ⟨_, by kernel_rfl, rfl, Below.refl _ _⟩
      · have e3 : x3 = .pointer (some ⟨bb, off + k, none⟩) := hpre 3 (by kernel_rfl)
        subst e3
        exact wpOp_run (.int .u8 (p0 : Int)) rfl (by kernel_rfl) (exec_load 5 rfl (by kernel_rfl) w3 (load5 hc0)) ⟨_, by kernel_rfl, rfl, Below.refl _ _⟩
      · have e4 : x4 = .int .u8 (p0 : Int) := hpre 4 (by kernel_rfl)
        subst e4
        exact wpOp_run (.int .u32 (p0 : Int)) rfl (by kernel_rfl) (exec_u8_32 b0 rfl (by kernel_rfl) w3) ⟨_, by kernel_rfl, rfl, Below.refl _ _⟩
      · have e0 : x0 = .int .u32 (p0 : Int) := hpre 0 (by kernel_rfl)
        subst e0
        have e5 : x5 = .int .u32 (p0 : Int) := hpre 5 (by kernel_rfl)
        subst e5
        exact wpOp_run (.bool true) rfl (by kernel_rfl) (exec_eql (n := (p0 : Int)) 23 rfl Try.underlying23 (by kernel_rfl) (by kernel_rfl) w3) ⟨_, by kernel_rfl, rfl, Below.refl _ _⟩
      · have e6 : x6 = .bool true := hpre 6 (by kernel_rfl)
        subst e6
        exact wpOp_run (.bool true) rfl (by kernel_rfl) (exec_move rfl (by kernel_rfl) w3) ⟨_, by kernel_rfl, rfl, Below.refl _ _⟩
      · have e7 : x7 = .bool true := hpre 7 (by kernel_rfl)
        subst e7
        exact wpOp_run (.int .u32 (s8 p0 : Int)) rfl (by kernel_rfl) (exec_move rfl (by kernel_rfl) w3) ⟨_, by kernel_rfl, rfl, Below.refl _ _⟩
      · have e7 : x7 = .bool true := hpre 7 (by kernel_rfl)
        subst e7
        exact wpOp_run (.slice (some ⟨bb, off, none⟩) l.length cap) rfl (by kernel_rfl) (exec_move rfl (by kernel_rfl) w3) ⟨_, by kernel_rfl, rfl, Below.refl _ _⟩
      · have e7 : x7 = .bool true := hpre 7 (by kernel_rfl)
        subst e7
        exact wpOp_run (.int .u32 (k : Int)) rfl (by kernel_rfl) (exec_move rfl (by kernel_rfl) w3) ⟨_, by kernel_rfl, rfl, Below.refl _ _⟩
      · have e7 : x7 = .bool true := hpre 7 (by kernel_rfl)
        subst e7
        have e9 : x9 = .slice (some ⟨bb, off, none⟩) l.length cap := hpre 9 (by kernel_rfl)
        subst e9
        have e10 : x10 = .int .u32 (k : Int) := hpre 10 (by kernel_rfl)
        subst e10
        exact wpOp_run (.pointer (some ⟨bb, off + k, none⟩)) rfl (by kernel_rfl) (exec_indexB (b := bb) (off := off) (n := l.length) (cap := cap) (k := k) rfl (by kernel_rfl) (by kernel_rfl) hk w3) ⟨_, by kernel_rfl, rfl, Below.refl _ _⟩
      · have e7 : x7 = .bool true := hpre 7 (by kernel_rfl)
        subst e7
        have e11 : x11 = .pointer (some ⟨bb, off + k, none⟩) := hpre 11 (by kernel_rfl)
        subst e11
        exact wpOp_run (.int .u8 (p0 : Int)) rfl (by kernel_rfl) (exec_load 5 rfl (by kernel_rfl) w3 (load5 hc0)) ⟨_, by kernel_rfl, rfl, Below.refl _ _⟩
      · have e7 : x7 = .bool true := hpre 7 (by kernel_rfl)
        subst e7
        have e12 : x12 = .int .u8 (p0 : Int) := hpre 12 (by kernel_rfl)
        subst e12
        exact wpOp_run (.int .i8 (IntKind.i8.wrap (p0 : Int))) rfl (by kernel_rfl) (exec_u8_i8 rfl (by kernel_rfl) w3) ⟨_, by kernel_rfl, rfl, Below.refl _ _⟩
      · have e7 : x7 = .bool true := hpre 7 (by kernel_rfl)
        subst e7
        have e13 : x13 = .int .i8 (IntKind.i8.wrap (p0 : Int)) := hpre 13 (by kernel_rfl)
        subst e13
        exact wpOp_run (.int .i32 (IntKind.i8.wrap (p0 : Int))) rfl (by kernel_rfl) (exec_i8_i32 (wrap_i8_32 p0) rfl (by kernel_rfl) w3) ⟨_, by kernel_rfl, rfl, Below.refl _ _⟩
      · have e7 : x7 = .bool true := hpre 7 (by kernel_rfl)
        subst e7
        have e14 : x14 = .int .i32 (IntKind.i8.wrap (p0 : Int)) := hpre 14 (by kernel_rfl)
        subst e14
        exact wpOp_run (.int .u32 (s8 p0 : Int)) rfl (by kernel_rfl) (exec_i32_u32 (s8 p0 : Int) (sx8 b0 rfl) rfl (by kernel_rfl) w3) ⟨_, by kernel_rfl, rfl, Below.refl _ _⟩
      · have e7 : x7 = .bool true := hpre 7 (by kernel_rfl)
        subst e7
        have e8 : x8 = .int .u32 (s8 p0 : Int) := hpre 8 (by kernel_rfl)
        subst e8
        have e15 : x15 = .int .u32 (s8 p0 : Int) := hpre 15 (by kernel_rfl)
        subst e15
        exact wpOp_run (.bool true) rfl (by kernel_rfl) (exec_eql (n := (s8 p0 : Int)) 23 rfl Try.underlying23 (by kernel_rfl) (by kernel_rfl) w3) ⟨_, by kernel_rfl, rfl, Below.refl _ _⟩
      · have e7 : x7 = .bool true := hpre 7 (by kernel_rfl)
        subst e7
        have e16 : x16 = .bool true := hpre 16 (by kernel_rfl)
        subst e16
        exact wpOp_run (.bool true) rfl (by kernel_rfl) (by kernel_rfl) ⟨_, by kernel_rfl, rfl, Below.refl _ _⟩
      · have e17 : x17 = .bool true := hpre 17 (by kernel_rfl)
        subst e17
        exact wpOp_run (.bool true) rfl (by kernel_rfl) (exec_move rfl (by kernel_rfl) w3) ⟨_, by kernel_rfl, rfl, Below.refl _ _⟩
      · have e18 : x18 = .bool true := hpre 18 (by kernel_rfl)
        subst e18
        exact wpOp_run (.int .u32 ((p0 * 256 + p1 : Nat) : Int)) rfl (by kernel_rfl) (exec_move rfl (by kernel_rfl) w3) ⟨_, by kernel_rfl, rfl, Below.refl _ _⟩
      · have e18 : x18 = .bool true := hpre 18 (by kernel_rfl)
        subst e18
        exact wpOp_run (.slice (some ⟨bb, off, none⟩) l.length cap) rfl (by kernel_rfl) (exec_move rfl (by kernel_rfl) w3) ⟨_, by kernel_rfl, rfl, Below.refl _ _⟩
      · have e18 : x18 = .bool true := hpre 18 (by kernel_rfl)
        subst e18
        exact wpOp_run (.int .u32 (k : Int)) rfl (by kernel_rfl) (exec_move rfl (by kernel_rfl) w3) ⟨_, by kernel_rfl, rfl, Below.refl _ _⟩
      · have e18 : x18 = .bool true := hpre 18 (by kernel_rfl)
        subst e18
        have e20 : x20 = .slice (some ⟨bb, off, none⟩) l.length cap := hpre 20 (by kernel_rfl)
        subst e20
        have e21 : x21 = .int .u32 (k : Int) := hpre 21 (by kernel_rfl)
        subst e21
        exact wpOp_run (.pointer (some ⟨bb, off + k, none⟩)) rfl (by kernel_rfl) (exec_indexB (b := bb) (off := off) (n := l.length) (cap := cap) (k := k) rfl (by kernel_rfl) (by kernel_rfl) hk w3) ⟨_, by kernel_rfl, rfl, Below.refl _ _⟩
      · have e18 : x18 = .bool true := hpre 18 (by kernel_rfl)
        subst e18
        have e22 : x22 = .pointer (some ⟨bb, off + k, none⟩) := hpre 22 (by kernel_rfl)
        subst e22
        exact wpOp_run (.int .u8 (p0 : Int)) rfl (by kernel_rfl) (exec_load 5 rfl (by kernel_rfl) w3 (load5 hc0)) ⟨_, by kernel_rfl, rfl, Below.refl _ _⟩
      · have e18 : x18 = .bool true := hpre 18 (by kernel_rfl)
        subst e18
        have e23 : x23 = .int .u8 (p0 : Int) := hpre 23 (by kernel_rfl)
        subst e23
        exact wpOp_run (.int .u32 (p0 : Int)) rfl (by kernel_rfl) (exec_u8_32 b0 rfl (by kernel_rfl) w3) ⟨_, by kernel_rfl, rfl, Below.refl _ _⟩
      · have e18 : x18 = .bool true := hpre 18 (by kernel_rfl)
        subst e18
        have e24 : x24 = .int .u32 (p0 : Int) := hpre 24 (by kernel_rfl)
        subst e24
        exact wpOp_run (.int .u32 ((p0 * 256 : Nat) : Int)) rfl (by kernel_rfl) (exec_shl8 b0 rfl (by kernel_rfl) (by kernel_rfl) w3) ⟨_, by kernel_rfl, rfl, Below.refl _ _⟩
      · have e18 : x18 = .bool true := hpre 18 (by kernel_rfl)
        subst e18
        exact wpOp_run (.slice (some ⟨bb, off, none⟩) l.length cap) rfl (by kernel_rfl) (exec_move rfl (by kernel_rfl) w3) ⟨_, by kernel_rfl, rfl, Below.refl _ _⟩
      · have e18 : x18 = .bool true := hpre 18 (by kernel_rfl)
        subst e18
        exact wpOp_run (.int .u32 (k : Int)) rfl (by kernel_rfl) (exec_move rfl (by kernel_rfl) w3) ⟨_, by kernel_rfl, rfl, Below.refl _ _⟩
      · have e18 : x18 = .bool true := hpre 18 (by kernel_rfl)
        subst e18
        have e27 : x27 = .int .u32 (k : Int) := hpre 27 (by kernel_rfl)
        subst e27
        exact wpOp_run (.int .u32 ((k + 1 : Nat) : Int)) rfl (by kernel_rfl) (exec_addN (m := k) (n := 1) hk2 rfl (by kernel_rfl) (by kernel_rfl) w3) ⟨_, by kernel_rfl, rfl, Below.refl _ _⟩
      · have e18 : x18 = .bool true := hpre 18 (by kernel_rfl)
        subst e18
        have e26 : x26 = .slice (some ⟨bb, off, none⟩) l.length cap := hpre 26 (by kernel_rfl)
        subst e26
        have e28 : x28 = .int .u32 ((k + 1 : Nat) : Int) := hpre 28 (by kernel_rfl)
        subst e28
        exact wpOp_run (.pointer (some ⟨bb, off + (k + 1), none⟩)) rfl (by kernel_rfl) (exec_indexB (b := bb) (off := off) (n := l.length) (cap := cap) (k := k + 1) rfl (by kernel_rfl) (by kernel_rfl) hk1 w3) ⟨_, by kernel_rfl, rfl, Below.refl _ _⟩
      · have e18 : x18 = .bool true := hpre 18 (by kernel_rfl)
        subst e18
        have e29 : x29 = .pointer (some ⟨bb, off + (k + 1), none⟩) := hpre 29 (by kernel_rfl)
        subst e29
        exact wpOp_run (.int .u8 (p1 : Int)) rfl (by kernel_rfl) (exec_load 5 rfl (by kernel_rfl) w3 (load5 hc1)) ⟨_, by kernel_rfl, rfl, Below.refl _ _⟩
      · have e18 : x18 = .bool true := hpre 18 (by kernel_rfl)
        subst e18
        have e30 : x30 = .int .u8 (p1 : Int) := hpre 30 (by kernel_rfl)
        subst e30
        exact wpOp_run (.int .u32 (p1 : Int)) rfl (by kernel_rfl) (exec_u8_32 b1 rfl (by kernel_rfl) w3) ⟨_, by kernel_rfl, rfl, Below.refl _ _⟩
      · have e18 : x18 = .bool true := hpre 18 (by kernel_rfl)
        subst e18
        have e25 : x25 = .int .u32 ((p0 * 256 : Nat) : Int) := hpre 25 (by kernel_rfl)
        subst e25
        have e31 : x31 = .int .u32 (p1 : Int) := hpre 31 (by kernel_rfl)
        subst e31
        exact wpOp_run (.int .u32 ((p0 * 256 + p1 : Nat) : Int)) rfl (by kernel_rfl) (exec_addN (m := p0 * 256) (n := p1) hb2 rfl (by kernel_rfl) (by kernel_rfl) w3) ⟨_, by kernel_rfl, rfl, Below.refl _ _⟩
      · have e18 : x18 = .bool true := hpre 18 (by kernel_rfl)
        subst e18
        have e19 : x19 = .int .u32 ((p0 * 256 + p1 : Nat) : Int) := hpre 19 (by kernel_rfl)
        subst e19
        have e32 : x32 = .int .u32 ((p0 * 256 + p1 : Nat) : Int) := hpre 32 (by kernel_rfl)
        subst e32
        exact wpOp_run (.bool true) rfl (by kernel_rfl) (exec_eql (n := ((p0 * 256 + p1 : Nat) : Int)) 23 rfl Try.underlying23 (by kernel_rfl) (by kernel_rfl) w3) ⟨_, by kernel_rfl, rfl, Below.refl _ _⟩
      · have e18 : x18 = .bool true := hpre 18 (by kernel_rfl)
        subst e18
        have e33 : x33 = .bool true := hpre 33 (by kernel_rfl)
        subst e33
        exact wpOp_run (.bool true) rfl (by kernel_rfl) (by kernel_rfl) ⟨_, by kernel_rfl, rfl, Below.refl _ _⟩
      · have e34 : x34 = .bool true := hpre 34 (by kernel_rfl)
        subst e34
        exact wpOp_run (.bool true) rfl (by kernel_rfl) (exec_move rfl (by kernel_rfl) w3) ⟨_, by kernel_rfl, rfl, Below.refl _ _⟩
      · have e35 : x35 = .bool true := hpre 35 (by kernel_rfl)
        subst e35
        exact wpOp_run (.int .u32 (s16 (p0 * 256 + p1) : Int)) rfl (by kernel_rfl) (exec_move rfl (by kernel_rfl) w3) ⟨_, by kernel_rfl, rfl, Below.refl _ _⟩
      · have e35 : x35 = .bool true := hpre 35 (by kernel_rfl)
        subst e35
        exact wpOp_run (.int .u32 ((p0 * 256 + p1 : Nat) : Int)) rfl (by kernel_rfl) (exec_move rfl (by kernel_rfl) w3) ⟨_, by kernel_rfl, rfl, Below.refl _ _⟩
      · have e35 : x35 = .bool true := hpre 35 (by kernel_rfl)
        subst e35
        have e37 : x37 = .int .u32 ((p0 * 256 + p1 : Nat) : Int) := hpre 37 (by kernel_rfl)
        subst e37
        exact wpOp_run (.int .i16 (IntKind.i16.wrap ((p0 * 256 + p1 : Nat) : Int))) rfl (by kernel_rfl) (exec_u32_i16 (n := p0 * 256 + p1) rfl (by kernel_rfl) w3) ⟨_, by kernel_rfl, rfl, Below.refl _ _⟩
      · have e35 : x35 = .bool true := hpre 35 (by kernel_rfl)
        subst e35
        have e38 : x38 = .int .i16 (IntKind.i16.wrap ((p0 * 256 + p1 : Nat) : Int)) := hpre 38 (by kernel_rfl)
        subst e38
        exact wpOp_run (.int .i32 (IntKind.i16.wrap ((p0 * 256 + p1 : Nat) : Int))) rfl (by kernel_rfl) (exec_i16_i32 (wrap_i16_32 (p0 * 256 + p1)) rfl (by kernel_rfl) w3) ⟨_, by kernel_rfl, rfl, Below.refl _ _⟩
      · have e35 : x35 = .bool true := hpre 35 (by kernel_rfl)
        subst e35
        have e39 : x39 = .int .i32 (IntKind.i16.wrap ((p0 * 256 + p1 : Nat) : Int)) := hpre 39 (by kernel_rfl)
        subst e39
        exact wpOp_run (.int .u32 (s16 (p0 * 256 + p1) : Int)) rfl (by kernel_rfl) (exec_i32_u32 (s16 (p0 * 256 + p1) : Int) (sx16 hb3 rfl) rfl (by kernel_rfl) w3) ⟨_, by kernel_rfl, rfl, Below.refl _ _⟩
      · have e35 : x35 = .bool true := hpre 35 (by kernel_rfl)
        subst e35
        have e36 : x36 = .int .u32 (s16 (p0 * 256 + p1) : Int) := hpre 36 (by kernel_rfl)
        subst e36
        have e40 : x40 = .int .u32 (s16 (p0 * 256 + p1) : Int) := hpre 40 (by kernel_rfl)
        subst e40
        exact wpOp_run (.bool true) rfl (by kernel_rfl) (exec_eql (n := (s16 (p0 * 256 + p1) : Int)) 23 rfl Try.underlying23 (by kernel_rfl) (by kernel_rfl) w3) ⟨_, by kernel_rfl, rfl, Below.refl _ _⟩
      · have e35 : x35 = .bool true := hpre 35 (by kernel_rfl)
        subst e35
        have e41 : x41 = .bool true := hpre 41 (by kernel_rfl)
        subst e41
        exact wpOp_run (.bool true) rfl (by kernel_rfl) (by kernel_rfl) ⟨_, by kernel_rfl, rfl, Below.refl _ _⟩
      · have e42 : x42 = .bool true := hpre 42 (by kernel_rfl)
        subst e42
        exact wpOp_run (.bool true) rfl (by kernel_rfl) (exec_move rfl (by kernel_rfl) w3) ⟨_, by kernel_rfl, rfl, Below.refl _ _⟩
      · have e43 : x43 = .bool true := hpre 43 (by kernel_rfl)
        subst e43
        exact wpOp_run (.pointer (some ⟨s.mb, 0, none⟩)) rfl (by kernel_rfl) (exec_move rfl (by kernel_rfl) w3) ⟨_, by kernel_rfl, rfl, Below.refl _ _⟩
      · have e43 : x43 = .bool true := hpre 43 (by kernel_rfl)
        subst e43
        exact wpOp_run (.agg (insC 56 0 0 0 0 0)) rfl (by kernel_rfl) (by kernel_rfl) ⟨_, by kernel_rfl, rfl, Below.refl _ _⟩
      · have e43 : x43 = .bool true := hpre 43 (by kernel_rfl)
        subst e43
        exact wpOp_run (.int .u32 (k : Int)) rfl (by kernel_rfl) (exec_move rfl (by kernel_rfl) w3) ⟨_, by kernel_rfl, rfl, Below.refl _ _⟩
      · have e43 : x43 = .bool true := hpre 43 (by kernel_rfl)
        subst e43
        have e44 : x44 = .pointer (some ⟨s.mb, 0, none⟩) := hpre 44 (by kernel_rfl)
        subst e44
        have e45 : x45 = .agg (insC 56 0 0 0 0 0) := hpre 45 (by kernel_rfl)
        subst e45
        have e46 : x46 = .int .u32 (k : Int) := hpre 46 (by kernel_rfl)
        subst e46
        refine wpOp_callR (R := fun u w4 => u = .int .i64 6 ∧ Below w3.heap.size w3 w4) 11 #[.pointer (some ⟨s.mb, 0, none⟩), .agg (insC 56 0 0 0 0 0), .int .u32 (k : Int)] rfl (by kernel_rfl) (by kernel_rfl) ((kdC (op := 56) hO rfl HKL.out (HF1.out s HAB.out)).mono fun e w4 ⟨he, hb⟩ => ⟨_, he, rfl, hb⟩) ?_
        rintro _ w4 ⟨rfl, hb⟩
        exact ⟨_, by kernel_rfl, rfl, hb⟩
      · have e43 : x43 = .bool true := hpre 43 (by kernel_rfl)
        subst e43
        have e47 : x47 = .int .i64 6 := hpre 47 (by kernel_rfl)
        subst e47
        exact wpOp_run (.bool true) rfl (by kernel_rfl) (exec_eql (n := 6) 3 rfl Try.underlying3 (by kernel_rfl) (by kernel_rfl) w3) ⟨_, by kernel_rfl, rfl, Below.refl _ _⟩
      · have e43 : x43 = .bool true := hpre 43 (by kernel_rfl)
        subst e43
        have e48 : x48 = .bool true := hpre 48 (by kernel_rfl)
        subst e48
        exact wpOp_run (.bool true) rfl (by kernel_rfl) (by kernel_rfl) ⟨_, by kernel_rfl, rfl, Below.refl _ _⟩
      · have e49 : x49 = .bool true := hpre 49 (by kernel_rfl)
        subst e49
        exact wpOp_run (.bool true) rfl (by kernel_rfl) (exec_move rfl (by kernel_rfl) w3) ⟨_, by kernel_rfl, rfl, Below.refl _ _⟩
      · have e50 : x50 = .bool true := hpre 50 (by kernel_rfl)
        subst e50
        exact wpOp_run (.pointer (some ⟨s.mb, 0, none⟩)) rfl (by kernel_rfl) (exec_move rfl (by kernel_rfl) w3) ⟨_, by kernel_rfl, rfl, Below.refl _ _⟩
      · have e50 : x50 = .bool true := hpre 50 (by kernel_rfl)
        subst e50
        exact wpOp_run (.agg (insC 49 0 0 0 0 0)) rfl (by kernel_rfl) (by kernel_rfl) ⟨_, by kernel_rfl, rfl, Below.refl _ _⟩
      · have e50 : x50 = .bool true := hpre 50 (by kernel_rfl)
        subst e50
        exact wpOp_run (.int .u32 (k : Int)) rfl (by kernel_rfl) (exec_move rfl (by kernel_rfl) w3) ⟨_, by kernel_rfl, rfl, Below.refl _ _⟩
      · have e50 : x50 = .bool true := hpre 50 (by kernel_rfl)
        subst e50
        have e53 : x53 = .int .u32 (k : Int) := hpre 53 (by kernel_rfl)
        subst e53
        exact wpOp_run (.int .u32 ((k + 1 : Nat) : Int)) rfl (by kernel_rfl) (exec_addN (m := k) (n := 1) hk2 rfl (by kernel_rfl) (by kernel_rfl) w3) ⟨_, by kernel_rfl, rfl, Below.refl _ _⟩
      · have e50 : x50 = .bool true := hpre 50 (by kernel_rfl)
        subst e50
        have e51 : x51 = .pointer (some ⟨s.mb, 0, none⟩) := hpre 51 (by kernel_rfl)
        subst e51
        have e52 : x52 = .agg (insC 49 0 0 0 0 0) := hpre 52 (by kernel_rfl)
        subst e52
        have e54 : x54 = .int .u32 ((k + 1 : Nat) : Int) := hpre 54 (by kernel_rfl)
        subst e54
        refine wpOp_callR (R := fun u w4 => u = .int .i64 2 ∧ Below w3.heap.size w3 w4) 11 #[.pointer (some ⟨s.mb, 0, none⟩), .agg (insC 49 0 0 0 0 0), .int .u32 ((k + 1 : Nat) : Int)] rfl (by kernel_rfl) (by kernel_rfl) ((kdC (op := 49) hO rfl hk2 (HF2.out s)).mono fun e w4 ⟨he, hb⟩ => ⟨_, he, rfl, hb⟩) ?_
        rintro _ w4 ⟨rfl, hb⟩
        exact ⟨_, by kernel_rfl, rfl, hb⟩
      · have e50 : x50 = .bool true := hpre 50 (by kernel_rfl)
        subst e50
        have e55 : x55 = .int .i64 2 := hpre 55 (by kernel_rfl)
        subst e55
        exact wpOp_run (.bool true) rfl (by kernel_rfl) (exec_eql (n := 2) 3 rfl Try.underlying3 (by kernel_rfl) (by kernel_rfl) w3) ⟨_, by kernel_rfl, rfl, Below.refl _ _⟩
      · have e50 : x50 = .bool true := hpre 50 (by kernel_rfl)
        subst e50
        have e56 : x56 = .bool true := hpre 56 (by kernel_rfl)
        subst e56
        exact wpOp_run (.bool true) rfl (by kernel_rfl) (by kernel_rfl) ⟨_, by kernel_rfl, rfl, Below.refl _ _⟩
      · have e57 : x57 = .bool true := hpre 57 (by kernel_rfl)
        subst e57
        exact wpOp_run (.bool true) rfl (by kernel_rfl) (exec_move rfl (by kernel_rfl) w3) ⟨_, by kernel_rfl, rfl, Below.refl _ _⟩
      · have e58 : x58 = .bool true := hpre 58 (by kernel_rfl)
        subst e58
        refine wpOp_callR (R := fun u w4 => u = .bool true ∧ Below w3.heap.size w3 w4) 8 #[] rfl (by kernel_rfl) (by kernel_rfl) ((awake10_any w3).mono fun e w4 ⟨he, hb⟩ => ⟨_, he, rfl, hb⟩) ?_
        rintro _ w4 ⟨rfl, hb⟩
        exact ⟨_, by kernel_rfl, rfl, hb⟩
      · have e58 : x58 = .bool true := hpre 58 (by kernel_rfl)
        subst e58
        have e59 : x59 = .bool true := hpre 59 (by kernel_rfl)
        subst e59
        exact wpOp_run (.bool true) rfl (by kernel_rfl) (by kernel_rfl) ⟨_, by kernel_rfl, rfl, Below.refl _ _⟩
      · have e60 : x60 = .bool true := hpre 60 (by kernel_rfl)
        subst e60
        exact wpOp_run (.bool true) rfl (by kernel_rfl) (by kernel_rfl) ⟨_, by kernel_rfl, rfl, Below.refl _ _⟩
    · intro xs w3 hxs hR hall
      obtain ⟨x0, x1, x2, x3, x4, x5, x6, x7, x8, x9, x10, x11, x12, x13, x14, x15, x16, x17, x18, x19, x20, x21, x22, x23, x24, x25, x26, x27, x28, x29, x30, x31, x32, x33, x34, x35, x36, x37, x38, x39, x40, x41, x42, x43, x44, x45, x46, x47, x48, x49, x50, x51, x52, x53, x54, x55, x56, x57, x58, x59, x60, x61, rfl⟩ := listS62 xs hxs
      have e61 : x61 = .bool true := hall 61 (by omega)
      subst e61
      have HR := hidden hR
      clear hall hR hxs
      simp only [slotsOn, putAll, List.set_cons_succ, List.set_cons_zero]
      go_wp2
      go_ret
      have hz := HBB.out.trans (HO5.out.below.mono HBB.out.size)
      exact ⟨rfl, hz.trans (HR.out.mono hz.size)⟩
  · have HAW := hidden (fun u => awake10_any u)
    by_cases h4 : l.length < 4
    · have d1 : (l.length : Int) < 4 := by omega
      clear hin
      go_enter Try.func6, Try.ntmps6
      go_wp2_with (go_at_call 8; refine (HAW.out _).mono ?_; rintro e w8 ⟨rfl, hb8⟩; have HB8 := hidden hb8; clear hb8)
      go_ret
      exact ⟨rfl, HB8.out⟩
    · have d1 : ¬ (l.length : Int) < 4 := by omega
      have d2 : (250 : Int) < (l.length : Int) := by omega
      clear hin
      go_enter Try.func6, Try.ntmps6
      go_wp2_with (go_at_call 8; refine (HAW.out _).mono ?_; rintro e w8 ⟨rfl, hb8⟩; have HB8 := hidden hb8; clear hb8)
      go_ret
      exact ⟨rfl, HB8.out⟩
end Go.Proofs.Ytkpcajmphhdmiaa

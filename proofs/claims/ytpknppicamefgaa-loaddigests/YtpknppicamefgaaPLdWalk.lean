/- LoadDigests: the walk. -/
import Derived.Test.YtpknppicamefgaaPLdPre
import Derived.Deep.CutRange
namespace Go.Proofs.Ytpknppicamefgaa
open Go.ChangeShapes Go.WideShapes Go.ChangeAt Go.RowKit
set_option linter.unusedVariables false
theorem xor_u8 (x b : UInt8) : bits .xor .u8 (x.toNat : Int) (b.toNat : Int) = (((x ^^^ b).toNat : Nat) : Int) := by
  have hx := x.toNat_lt
  have hb := b.toNat_lt
  have e1 : (BitVec.ofInt 8 (x.toNat : Int)).toNat = x.toNat := by rw [BitVec.toNat_ofInt]; omega
  have e2 : (BitVec.ofInt 8 (b.toNat : Int)).toNat = b.toNat := by rw [BitVec.toNat_ofInt]; omega
  show IntKind.u8.wrap ((BitVec.ofInt 8 (x.toNat : Int) ^^^ BitVec.ofInt 8 (b.toNat : Int)).toNat : Nat) = _
  rw [BitVec.toNat_xor, e1, e2, UInt8.toNat_xor]
  have : x.toNat ^^^ b.toNat < 2 ^ 8 := Nat.xor_lt_two_pow (by omega) (by omega)
  rw [IntKind.wrap_u8]
  omega
theorem xor_self8 (x b : UInt8) : x = x ^^^ b ↔ b = 0 := by
  constructor
  · intro h
    have h2 : x ^^^ x = x ^^^ (x ^^^ b) := by rw [← h]
    rw [UInt8.xor_self, ← UInt8.xor_assoc, UInt8.xor_self, UInt8.zero_xor] at h2
    exact h2.symm
  · rintro rfl
    simp
theorem segAt_blk {w : World} {g : Nat} {s : Sg} (h : Blk w g #[.int .u32 (s.at_ : Int), .string ⟨s.data.toArray⟩, .int .u32 (s.size : Int), .int .i64 s.perm] 44) (hf : Fit s) : SegAt w g 0 s := ⟨h.cell rfl, h.cell rfl, h.cell rfl, h.cell rfl, hf⟩
theorem file_ne (vs : List Nat) : fileB 65536 [fileSg vs] ≠ [] := by
  intro e
  have h0 : (fileB 65536 [fileSg vs]).length = 0 := by rw [e]; rfl
  rw [fileB_len] at h0
  omega
theorem list36 (xs : List Value) (h : xs.length = 36) : ∃ x0 x1 x2 x3 x4 x5 x6 x7 x8 x9 x10 x11 x12 x13 x14 x15 x16 x17 x18 x19 x20 x21 x22 x23 x24 x25 x26 x27 x28 x29 x30 x31 x32 x33 x34 x35, xs = [x0, x1, x2, x3, x4, x5, x6, x7, x8, x9, x10, x11, x12, x13, x14, x15, x16, x17, x18, x19, x20, x21, x22, x23, x24, x25, x26, x27, x28, x29, x30, x31, x32, x33, x34, x35] := by
  obtain ⟨x0, xs1, rfl, h1⟩ := cons_of_len (n := 35) xs h
  obtain ⟨x1, xs2, rfl, h2⟩ := cons_of_len (n := 34) xs1 h1
  obtain ⟨x2, xs3, rfl, h3⟩ := cons_of_len (n := 33) xs2 h2
  obtain ⟨x3, xs4, rfl, h4⟩ := cons_of_len (n := 32) xs3 h3
  obtain ⟨x4, xs5, rfl, h5⟩ := cons_of_len (n := 31) xs4 h4
  obtain ⟨x5, xs6, rfl, h6⟩ := cons_of_len (n := 30) xs5 h5
  obtain ⟨x6, xs7, rfl, h7⟩ := cons_of_len (n := 29) xs6 h6
  obtain ⟨x7, xs8, rfl, h8⟩ := cons_of_len (n := 28) xs7 h7
  obtain ⟨x8, xs9, rfl, h9⟩ := cons_of_len (n := 27) xs8 h8
  obtain ⟨x9, xs10, rfl, h10⟩ := cons_of_len (n := 26) xs9 h9
  obtain ⟨x10, xs11, rfl, h11⟩ := cons_of_len (n := 25) xs10 h10
  obtain ⟨x11, xs12, rfl, h12⟩ := cons_of_len (n := 24) xs11 h11
  obtain ⟨x12, xs13, rfl, h13⟩ := cons_of_len (n := 23) xs12 h12
  obtain ⟨x13, xs14, rfl, h14⟩ := cons_of_len (n := 22) xs13 h13
  obtain ⟨x14, xs15, rfl, h15⟩ := cons_of_len (n := 21) xs14 h14
  obtain ⟨x15, xs16, rfl, h16⟩ := cons_of_len (n := 20) xs15 h15
  obtain ⟨x16, xs17, rfl, h17⟩ := cons_of_len (n := 19) xs16 h16
  obtain ⟨x17, xs18, rfl, h18⟩ := cons_of_len (n := 18) xs17 h17
  obtain ⟨x18, xs19, rfl, h19⟩ := cons_of_len (n := 17) xs18 h18
  obtain ⟨x19, xs20, rfl, h20⟩ := cons_of_len (n := 16) xs19 h19
  obtain ⟨x20, xs21, rfl, h21⟩ := cons_of_len (n := 15) xs20 h20
  obtain ⟨x21, xs22, rfl, h22⟩ := cons_of_len (n := 14) xs21 h21
  obtain ⟨x22, xs23, rfl, h23⟩ := cons_of_len (n := 13) xs22 h22
  obtain ⟨x23, xs24, rfl, h24⟩ := cons_of_len (n := 12) xs23 h23
  obtain ⟨x24, xs25, rfl, h25⟩ := cons_of_len (n := 11) xs24 h24
  obtain ⟨x25, xs26, rfl, h26⟩ := cons_of_len (n := 10) xs25 h25
  obtain ⟨x26, xs27, rfl, h27⟩ := cons_of_len (n := 9) xs26 h26
  obtain ⟨x27, xs28, rfl, h28⟩ := cons_of_len (n := 8) xs27 h27
  obtain ⟨x28, xs29, rfl, h29⟩ := cons_of_len (n := 7) xs28 h28
  obtain ⟨x29, xs30, rfl, h30⟩ := cons_of_len (n := 6) xs29 h29
  obtain ⟨x30, xs31, rfl, h31⟩ := cons_of_len (n := 5) xs30 h30
  obtain ⟨x31, xs32, rfl, h32⟩ := cons_of_len (n := 4) xs31 h31
  obtain ⟨x32, xs33, rfl, h33⟩ := cons_of_len (n := 3) xs32 h32
  obtain ⟨x33, xs34, rfl, h34⟩ := cons_of_len (n := 2) xs33 h33
  obtain ⟨x34, xs35, rfl, h35⟩ := cons_of_len (n := 1) xs34 h34
  obtain ⟨x35, xs36, rfl, h36⟩ := cons_of_len (n := 0) xs35 h35
  obtain rfl := List.eq_nil_of_length_eq_zero h36
  exact ⟨_, _, _, _, _, _, _, _, _, _, _, _, _, _, _, _, _, _, _, _, _, _, _, _, _, _, _, _, _, _, _, _, _, _, _, _, rfl⟩
/-- What the slots of the region hold, whatever the order. -/
def phiLdT (bb cB L p1 p2 g1 g2 D1 : Nat) : Nat → Value → World → Prop
  | 0, x, _ => x = .int .i64 0
  | 1, x, _ => x = .bool true
  | 2, x, _ => x = .bool true
  | 3, x, _ => x = .agg #[.int .u32 65536, .slice (some ⟨g1, 0, none⟩) 1 1]
  | 4, x, _ => x = .int .u32 (D1 : Int)
  | 5, x, _ => x = .slice (some ⟨bb, 0, none⟩) L cB
  | 6, x, _ => x = .int .u32 (D1 : Int)
  | 7, x, _ => x = .bool true
  | 8, x, _ => x = .bool true
  | 9, x, _ => x = .bool true
  | 10, x, _ => x = .agg #[.int .u32 65536, .slice (some ⟨g1, 0, none⟩) 1 1]
  | 11, x, _ => x = .int .u32 (D1 : Int)
  | 12, x, _ => x = .agg #[.int .u32 65536, .slice (some ⟨g2, 0, none⟩) 1 1]
  | 13, x, _ => x = .int .u32 (D1 : Int)
  | 14, x, _ => x = .bool true
  | 15, x, _ => x = .int .u8 0
  | 16, x, _ => x = .bool true
  | 17, x, _ => x = .bool true
  | 18, x, _ => x = .bool true
  | 19, x, _ => x = .bool true
  | 20, x, _ => x = .agg #[.int .u32 0, .slice none 0 0]
  | 21, x, _ => x = .int .u32 0
  | 22, x, _ => x = .bool true
  | 23, x, _ => x = .bool true
  | 24, x, _ => x = .bool true
  | 25, x, _ => x = .agg #[.int .u32 65536, .slice (some ⟨g2, 0, none⟩) 1 1]
  | 26, x, _ => x = .int .i64 0
  | 27, x, _ => x = .bool true
  | 28, x, _ => x = .bool true
  | 29, x, _ => x = .bool true
  | 30, x, _ => x = .bool true
  | 31, x, _ => x = .bool true
  | 32, x, _ => x = .bool true
  | 33, x, _ => x = .bool true
  | 34, x, _ => x = .bool true
  | 35, x, _ => x = .bool true
  | _ + 36, _, _ => True
theorem phiLdT_mono (bb cB L p1 p2 g1 g2 D1 : Nat) : ∀ i x w w', phiLdT bb cB L p1 p2 g1 g2 D1 i x w → Below w.heap.size w w' → phiLdT bb cB L p1 p2 g1 g2 D1 i x w'
  | 0, _, _, _, h, _ => h
  | 1, _, _, _, h, _ => h
  | 2, _, _, _, h, _ => h
  | 3, _, _, _, h, _ => h
  | 4, _, _, _, h, _ => h
  | 5, _, _, _, h, _ => h
  | 6, _, _, _, h, _ => h
  | 7, _, _, _, h, _ => h
  | 8, _, _, _, h, _ => h
  | 9, _, _, _, h, _ => h
  | 10, _, _, _, h, _ => h
  | 11, _, _, _, h, _ => h
  | 12, _, _, _, h, _ => h
  | 13, _, _, _, h, _ => h
  | 14, _, _, _, h, _ => h
  | 15, _, _, _, h, _ => h
  | 16, _, _, _, h, _ => h
  | 17, _, _, _, h, _ => h
  | 18, _, _, _, h, _ => h
  | 19, _, _, _, h, _ => h
  | 20, _, _, _, h, _ => h
  | 21, _, _, _, h, _ => h
  | 22, _, _, _, h, _ => h
  | 23, _, _, _, h, _ => h
  | 24, _, _, _, h, _ => h
  | 25, _, _, _, h, _ => h
  | 26, _, _, _, h, _ => h
  | 27, _, _, _, h, _ => h
  | 28, _, _, _, h, _ => h
  | 29, _, _, _, h, _ => h
  | 30, _, _, _, h, _ => h
  | 31, _, _, _, h, _ => h
  | 32, _, _, _, h, _ => h
  | 33, _, _, _, h, _ => h
  | 34, _, _, _, h, _ => h
  | 35, _, _, _, h, _ => h
  | _ + 36, _, _, _, _, _ => trivial
/-- What the slots of the region hold, whatever the order. -/
def phiLdF (bb cB L p1 p2 g1 g2 D1 D2 : Nat) (by8 : UInt8) : Nat → Value → World → Prop
  | 0, x, _ => x = .int .i64 0
  | 1, x, _ => x = .bool true
  | 2, x, _ => x = .bool true
  | 3, x, _ => x = .agg #[.int .u32 65536, .slice (some ⟨g1, 0, none⟩) 1 1]
  | 4, x, _ => x = .int .u32 (D1 : Int)
  | 5, x, _ => x = .slice (some ⟨bb, 0, none⟩) L cB
  | 6, x, _ => x = .int .u32 (D1 : Int)
  | 7, x, _ => x = .bool true
  | 8, x, _ => x = .bool true
  | 9, x, _ => x = .bool true
  | 10, x, _ => x = .agg #[.int .u32 65536, .slice (some ⟨g1, 0, none⟩) 1 1]
  | 11, x, _ => x = .int .u32 (D1 : Int)
  | 12, x, _ => x = .agg #[.int .u32 65536, .slice (some ⟨g2, 0, none⟩) 1 1]
  | 13, x, _ => x = .int .u32 (D2 : Int)
  | 14, x, _ => x = .bool false
  | 15, x, _ => x = .int .u8 (by8.toNat : Int)
  | 16, x, _ => x = .bool false
  | 17, x, _ => x = .bool true
  | 18, x, _ => x = .bool true
  | 19, x, _ => x = .bool true
  | 20, x, _ => x = .agg #[.int .u32 0, .slice none 0 0]
  | 21, x, _ => x = .int .u32 0
  | 22, x, _ => x = .bool true
  | 23, x, _ => x = .bool true
  | 24, x, _ => x = .bool true
  | 25, x, _ => x = .agg #[.int .u32 65536, .slice (some ⟨g2, 0, none⟩) 1 1]
  | 26, x, _ => x = .int .i64 0
  | 27, x, _ => x = .bool true
  | 28, x, _ => x = .bool true
  | 29, x, _ => x = .bool true
  | 30, x, _ => x = .bool true
  | 31, x, _ => x = .bool true
  | 32, x, _ => x = .bool true
  | 33, x, _ => x = .bool true
  | 34, x, _ => x = .bool true
  | 35, x, _ => x = .bool true
  | _ + 36, _, _ => True
theorem phiLdF_mono (bb cB L p1 p2 g1 g2 D1 D2 : Nat) (by8 : UInt8) : ∀ i x w w', phiLdF bb cB L p1 p2 g1 g2 D1 D2 by8 i x w → Below w.heap.size w w' → phiLdF bb cB L p1 p2 g1 g2 D1 D2 by8 i x w'
  | 0, _, _, _, h, _ => h
  | 1, _, _, _, h, _ => h
  | 2, _, _, _, h, _ => h
  | 3, _, _, _, h, _ => h
  | 4, _, _, _, h, _ => h
  | 5, _, _, _, h, _ => h
  | 6, _, _, _, h, _ => h
  | 7, _, _, _, h, _ => h
  | 8, _, _, _, h, _ => h
  | 9, _, _, _, h, _ => h
  | 10, _, _, _, h, _ => h
  | 11, _, _, _, h, _ => h
  | 12, _, _, _, h, _ => h
  | 13, _, _, _, h, _ => h
  | 14, _, _, _, h, _ => h
  | 15, _, _, _, h, _ => h
  | 16, _, _, _, h, _ => h
  | 17, _, _, _, h, _ => h
  | 18, _, _, _, h, _ => h
  | 19, _, _, _, h, _ => h
  | 20, _, _, _, h, _ => h
  | 21, _, _, _, h, _ => h
  | 22, _, _, _, h, _ => h
  | 23, _, _, _, h, _ => h
  | 24, _, _, _, h, _ => h
  | 25, _, _, _, h, _ => h
  | 26, _, _, _, h, _ => h
  | 27, _, _, _, h, _ => h
  | 28, _, _, _, h, _ => h
  | 29, _, _, _, h, _ => h
  | 30, _, _, _, h, _ => h
  | 31, _, _, _, h, _ => h
  | 32, _, _, _, h, _ => h
  | 33, _, _, _, h, _ => h
  | 34, _, _, _, h, _ => h
  | 35, _, _, _, h, _ => h
  | _ + 36, _, _, _, _, _ => trivial
set_option maxHeartbeats 2000000 in
theorem ld_chain (w : World) (ao : Option Addr) (n cap k L : Nat) (vs : List Nat) (x y : UInt8) (h : WdsA w ao vs) (hv : ∀ z ∈ vs, z < 4294967296) (hn : vs.length = n) (h1 : 1 ≤ n) (h5 : n ≤ 500) (hcap : n ≤ cap) (hmax : cap ≤ 9223372036854775807) (hk : k < 4 * n) (hx : (vs.flatMap put32).getD k 0 = x) (hL : (fileB 65536 [fileSg vs]).length = L) : Calls Try.prog 20 #[.slice ao n cap] w fun e w1 => ∃ g1, e = .returned (.agg #[.int .u32 65536, .slice (some ⟨g1, 0, none⟩) 1 1]) ∧ ∃ p1 w2, w1.heap.size = p1 ∧ w1.alloc (.cells #[.int .u32 65536, .slice (some ⟨g1, 0, none⟩) 1 1] 25) = w2 ∧ w2.cell? ⟨p1, 0, none⟩ = some (.int .u32 65536) ∧ w2.cell? ⟨p1, 1, none⟩ = some (.slice (some ⟨g1, 0, none⟩) 1 1) ∧ Calls Try.prog 21 #[.agg #[.int .u32 65536, .slice (some ⟨g1, 0, none⟩) 1 1]] w2 fun e w3 => ∃ bb cB, e = .returned (.tuple #[.slice (some ⟨bb, 0, none⟩) L cB, .int .i64 0]) ∧ Calls Try.prog 20 #[.slice ao n cap] w3 fun e w4 => ∃ g2, e = .returned (.agg #[.int .u32 65536, .slice (some ⟨g2, 0, none⟩) 1 1]) ∧ ∃ p2 w5, w4.heap.size = p2 ∧ w4.alloc (.cells #[.int .u32 65536, .slice (some ⟨g2, 0, none⟩) 1 1] 25) = w5 ∧ w5.cell? ⟨p2, 1, none⟩ = some (.slice (some ⟨g2, 0, none⟩) 1 1) ∧ w5.cell? ⟨g2, 1, none⟩ = some (.string ⟨(vs.flatMap put32).toArray⟩) ∧ ∃ gd cd w6 W7 W9, (convert 9 51 (.string ⟨(vs.flatMap put32).toArray⟩)).run Try.prog w5 = .ok (.slice (some ⟨gd, 0, none⟩) (4 * n) cd) w6 ∧ w6.cell? ⟨gd, k, none⟩ = some (.int .u8 (x.toNat : Int)) ∧ w6.frozen? ⟨gd, k, none⟩ = false ∧ w6.setCell ⟨gd, k, none⟩ (.int .u8 (y.toNat : Int)) = W7 ∧ (convert 51 9 (.slice (some ⟨gd, 0, none⟩) (4 * n) cd)).run Try.prog W7 = .ok (.string ⟨((vs.flatMap put32).set k y).toArray⟩) W7 ∧ W7.cell? ⟨p2, 1, none⟩ = some (.slice (some ⟨g2, 0, none⟩) 1 1) ∧ W7.cell? ⟨g2, 1, none⟩ = some (.string ⟨(vs.flatMap put32).toArray⟩) ∧ W7.frozen? ⟨g2, 1, none⟩ = false ∧ W7.setCell ⟨g2, 1, none⟩ (.string ⟨((vs.flatMap put32).set k y).toArray⟩) = W9 ∧ (Below w.heap.size w W9 ∧ Blk W9 p1 #[.int .u32 65536, .slice (some ⟨g1, 0, none⟩) 1 1] 25 ∧ Blk W9 g1 #[.int .u32 65536, .string ⟨(vs.flatMap put32).toArray⟩, .int .u32 ((4 * vs.length + 256 : Nat) : Int), .int .i64 7] 44 ∧ Row W9 (some ⟨bb, 0, none⟩) (fileB 65536 [fileSg vs]) cB ∧ Blk W9 p2 #[.int .u32 65536, .slice (some ⟨g2, 0, none⟩) 1 1] 25 ∧ Blk W9 g2 #[.int .u32 65536, .string ⟨((vs.flatMap put32).set k y).toArray⟩, .int .u32 ((4 * vs.length + 256 : Nat) : Int), .int .i64 7] 44) := by
  have hdl : (vs.flatMap put32).length = 4 * n := by rw [flat32_len, hn]
  refine (file_any w ao n cap vs h hv hn h5 hcap hmax).mono ?_
  rintro e w1 ⟨g1, he1, hg1, hb1, hbw1⟩
  refine ⟨g1, he1, w1.heap.size, _, rfl, rfl, ?_⟩
  obtain ⟨w2, hw2⟩ : ∃ w2, w1.alloc (.cells #[.int .u32 65536, .slice (some ⟨g1, 0, none⟩) 1 1] 25) = w2 := ⟨_, rfl⟩
  have hb12 := below_new w1 (.cells #[.int .u32 65536, .slice (some ⟨g1, 0, none⟩) 1 1] 25)
  rw [hw2] at hb12 ⊢
  have kp1 : Blk w2 w1.heap.size #[.int .u32 65536, .slice (some ⟨g1, 0, none⟩) 1 1] 25 := by rw [← hw2]; exact Blk.new w1 _ _
  have kg1 := hb1.later hb12
  have bw2 : Below w.heap.size w w2 := hbw1.trans (hb12.mono hbw1.size)
  have hfit := fileSg_fit (vs := vs) (by omega)
  have hmk := file_make (vs := vs) (by omega)
  refine ⟨kp1.cell rfl, kp1.cell rfl, (make_any w2 _ 1 65536 [fileSg vs] (segs_one (s := fileSg vs) kg1 hfit) (by simp) (by omega) (by omega)).mono ?_⟩
  rintro e w3 ⟨vv, he3, ho3, hb3⟩
  rw [hmk] at he3 ho3
  obtain ⟨bb, cB, tl, hvv, q1, q2, q3, q4⟩ := out_brow ho3 (file_ne vs)
  have hvv2 : vv = .slice (some ⟨bb, 0, none⟩) L cB := by rw [hvv]; show Value.slice _ (fileB 65536 [fileSg vs]).length cB = _; rw [hL]
  have bw3 : Below w.heap.size w w3 := bw2.trans (hb3.mono bw2.size)
  refine ⟨bb, cB, by rw [he3, hvv2]; rfl, (file_any w3 ao n cap vs (h.later bw3) hv hn h5 hcap hmax).mono ?_⟩
  rintro e w4 ⟨g2, he4, hg2, hb4, hbw4⟩
  refine ⟨g2, he4, w4.heap.size, _, rfl, rfl, ?_⟩
  obtain ⟨w5, hw5⟩ : ∃ w5, w4.alloc (.cells #[.int .u32 65536, .slice (some ⟨g2, 0, none⟩) 1 1] 25) = w5 := ⟨_, rfl⟩
  have hb45 := below_new w4 (.cells #[.int .u32 65536, .slice (some ⟨g2, 0, none⟩) 1 1] 25)
  rw [hw5] at hb45 ⊢
  have kp2 : Blk w5 w4.heap.size #[.int .u32 65536, .slice (some ⟨g2, 0, none⟩) 1 1] 25 := by rw [← hw5]; exact Blk.new w4 _ _
  have kg2 := hb4.later hb45
  refine ⟨kp2.cell rfl, kg2.cell rfl, ?_⟩
  obtain ⟨gd, cd, w6, W7, W9, t1, t2, t3, t4, t5, t6, t7, t8, t9, t10⟩ := ld_tail w5 g2 k (vs.flatMap put32) (by omega) y _ _ _ kg2
  rw [hdl] at t1 t5
  rw [hx] at t2
  have kp2l := kp2.lt
  have kp27 : Blk W7 w4.heap.size #[.int .u32 65536, .slice (some ⟨g2, 0, none⟩) 1 1] 25 := (t7 _ kp2.lt).trans kp2
  refine ⟨gd, cd, w6, W7, W9, t1, t2, t3, t4, t5, kp27.cell rfl, t6.cell rfl, t6.frozen, t8, ?_⟩
  have b5 : Below w3.heap.size w3 w5 := hbw4.trans (hb45.mono hbw4.size)
  have hg2l := kg2.lt
  have hg2n : w3.heap.size ≤ g2 := hg2
  have bw5 : Below w.heap.size w w5 := bw3.trans (b5.mono bw3.size)
  have hg1l := kg1.lt
  have s23 := hb3.size
  have s12 := kp1.lt
  have bbl : bb < w3.heap.size := (Array.getElem?_eq_some_iff.1 q4).1
  have s35 := b5.size
  have hg24 : g2 < w4.heap.size := hb4.lt
  refine ⟨bw5.trans (t10.below bw5.size (fun b hb => by have := bw3.size; omega)), ?_, ?_, ?_, ?_, t9⟩
  · exact (t10.block _ (by omega) (by omega)).trans ((b5.block _ (by omega)).trans ((hb3.block _ (by omega)).trans kp1))
  · exact (t10.block _ (by omega) (by omega)).trans ((b5.block _ (by omega)).trans ((hb3.block _ (by omega)).trans kg1))
  · have q5 : Brow W9 bb (fileB 65536 [fileSg vs]) tl := (t10.block _ (by omega) (by omega)).trans ((b5.block _ (by omega)).trans q4)
    exact q5.row q2 q3
  · exact (t10.block _ (by omega) (by omega)).trans kp2
set_option maxRecDepth 20000 in
set_option maxHeartbeats 8000000 in
theorem ld_main (w : World) (ao : Option Addr) (n cap : Nat) (vs : List Nat) (h : WdsA w ao vs) (hv : ∀ z ∈ vs, z < 4294967296) (hn : vs.length = n) (h1 : 1 ≤ n) (h5 : n ≤ 500) (hcap : n ≤ cap) (hmax : cap ≤ 9223372036854775807) (v : Int) (by8 : UInt8) : Calls Try.prog 5 #[.slice ao n cap, .int .i64 v, .int .u8 (by8.toNat : Int)] w fun e w' => e = .returned (.bool true) ∧ Below w.heap.size w w' := by
  obtain ⟨k, hk⟩ : ∃ k : Nat, v % ((4 * n : Nat) : Int) = (k : Int) := ⟨(v % ((4 * n : Nat) : Int)).toNat, by have := Int.emod_nonneg v (show ((4 * n : Nat) : Int) ≠ 0 by omega); omega⟩
  have hk4 : k < 4 * n := by have := Int.emod_lt_of_pos v (show (0 : Int) < ((4 * n : Nat) : Int) by omega); omega
  have hdl : (vs.flatMap put32).length = 4 * n := by rw [flat32_len, hn]
  obtain ⟨x, hx⟩ : ∃ x, (vs.flatMap put32).getD k 0 = x := ⟨_, rfl⟩
  obtain ⟨y, hy⟩ : ∃ y, x ^^^ by8 = y := ⟨_, rfl⟩
  obtain ⟨L, hL⟩ : ∃ L, (fileB 65536 [fileSg vs]).length = L := ⟨_, rfl⟩
  have hxor := xor_u8 x by8
  rw [hy] at hxor
  have H20 := hidden (ld_chain w ao n cap k L vs x y h hv hn h1 h5 hcap hmax hk4 hx hL)
  have H16 : Hid (∀ u, Calls Try.prog 16 #[.int .i64 v, .int .i64 (4 * (n : Int))] u fun e w' => e = .returned (.int .i64 (k : Int)) ∧ w' = u) := fun u => by
    have := place_any v ((4 * n : Nat) : Int) (by omega) (by omega) u
    rw [hk, show ((4 * n : Nat) : Int) = 4 * (n : Int) by omega] at this
    exact this
  have hok := file_ok (vs := vs) (by omega)
  have hfit := fileSg_fit (vs := vs) (by omega)
  have hok2 := check_data hok ((vs.flatMap put32).set k y) (by rw [List.length_set]; rfl)
  have hdd := digest_data 65536 (fileSg vs) k (by show k < (vs.flatMap put32).length; omega) y
  have hfit2 : Fit { fileSg vs with data := (vs.flatMap put32).set k y } := ⟨hfit.la, hfit.ls, by show ((vs.flatMap put32).set k y).length ≤ _; rw [List.length_set]; exact hfit.ld⟩
  have hdd2 : sumB 0 (fileB 65536 [fileSg vs]) = sumB 0 (fileB 65536 [{ fileSg vs with data := (vs.flatMap put32).set k y }]) ↔ by8 = 0 := by
    refine hdd.trans ?_
    show (vs.flatMap put32).getD k 0 = y ↔ _
    rw [hx, ← hy]
    exact xor_self8 x by8
  have hL2 : L ≤ 16384 := by
    have := hok
    have h2 := fileB_len 65536 [fileSg vs]
    have h3 : (datasB [fileSg vs]).length = 4 * n := by simp [datasB, fileSg, hdl]
    rw [hL, h3] at h2
    simp at h2
    omega
  have HR : Hid (∀ W9 p1 g1 bb cB p2 g2, (Below w.heap.size w W9 ∧ Blk W9 p1 #[.int .u32 65536, .slice (some ⟨g1, 0, none⟩) 1 1] 25 ∧ Blk W9 g1 #[.int .u32 65536, .string ⟨(vs.flatMap put32).toArray⟩, .int .u32 ((4 * vs.length + 256 : Nat) : Int), .int .i64 7] 44 ∧ Row W9 (some ⟨bb, 0, none⟩) (fileB 65536 [fileSg vs]) cB ∧ Blk W9 p2 #[.int .u32 65536, .slice (some ⟨g2, 0, none⟩) 1 1] 25 ∧ Blk W9 g2 #[.int .u32 65536, .string ⟨((vs.flatMap put32).set k y).toArray⟩, .int .u32 ((4 * vs.length + 256 : Nat) : Int), .int .i64 7] 44) → ((∀ w3, Below W9.heap.size W9 w3 → Calls Try.prog 13 #[.agg #[.int .u32 65536, .slice (some ⟨g1, 0, none⟩) 1 1]] w3 fun e w4 => e = .returned (.int .u32 (sumB 0 (fileB 65536 [fileSg vs]) : Int)) ∧ Below w3.heap.size w3 w4) ∧ (∀ w3, Below W9.heap.size W9 w3 → Calls Try.prog 13 #[.agg #[.int .u32 65536, .slice (some ⟨g2, 0, none⟩) 1 1]] w3 fun e w4 => e = .returned (.int .u32 (sumB 0 (fileB 65536 [{ fileSg vs with data := (vs.flatMap put32).set k y }]) : Int)) ∧ Below w3.heap.size w3 w4) ∧ (∀ w3, Below W9.heap.size W9 w3 → Calls Try.prog 22 #[.int .u32 0, .slice (some ⟨bb, 0, none⟩) L cB] w3 fun e w4 => e = .returned (.int .u32 (sumB 0 (fileB 65536 [fileSg vs]) : Int)) ∧ w4 = w3) ∧ (∀ w3, Below W9.heap.size W9 w3 → Calls Try.prog 23 #[.agg #[.int .u32 65536, .slice (some ⟨g2, 0, none⟩) 1 1]] w3 fun e w4 => e = .returned (.int .i64 0) ∧ Below w3.heap.size w3 w4))) := by
    rintro W9 p1 g1 bb cB p2 g2 ⟨f1, f2, f3, f4, f5, f6⟩
    refine ⟨fun w3 hb => ?_, fun w3 hb => ?_, fun w3 hb => ?_, fun w3 hb => ?_⟩
    · exact digest1_any w3 g1 0 1 65536 (fileSg vs) (segAt_blk (s := fileSg vs) (f3.later hb) hfit) (by omega) (by omega) hok (by omega)
    · exact digest1_any w3 g2 0 1 65536 { fileSg vs with data := (vs.flatMap put32).set k y } (segAt_blk (s := { fileSg vs with data := (vs.flatMap put32).set k y }) (f6.later hb) hfit2) (by omega) (by omega) hok2 (by omega)
    · have := rmore8 0 (by omega) w3 _ _ cB (f4.later hb) (by rw [hL]; omega)
      rw [hL] at this
      exact this
    · have hc := rcheck_any w3 (some ⟨g2, 0, none⟩) 1 65536 [{ fileSg vs with data := (vs.flatMap put32).set k y }] (.inr ⟨g2, 0, rfl, (f6.later hb).lt, fun j hj => by
        obtain rfl : j = 0 := by simpa using hj
        exact segAt_blk (s := { fileSg vs with data := (vs.flatMap put32).set k y }) (f6.later hb) hfit2⟩) (by simp) (by omega) (by omega)
      rw [hok2] at hc
      exact hc
  have hn1 : ¬ (500 : Int) < (n : Int) := by omega
  have hn2 : ¬ (n : Int) = 0 := by omega
  have hlt1 := sumB_lt 0 (fileB 65536 [fileSg vs])
  have HDD := hidden hdd2
  generalize sumB 0 (fileB 65536 [fileSg vs]) = D1 at HR HDD hlt1
  generalize sumB 0 (fileB 65536 [{ fileSg vs with data := (vs.flatMap put32).set k y }]) = D2 at HR HDD
  generalize vs.flatMap put32 = dd at H20 HR hx hdl
  clear h hv hn hok hfit hok2 hdd hfit2 hdd2 hL hk hy
  have T1 : Hid True := trivial
  go_enter Try.func5, Try.ntmps5
  go_upto_region 9 with (first
    | (clear T1; go_at_call 20; with_reducible refine (Hid.out H20).mono ?_; rintro e w1 ⟨g1, rfl, p1, w2, hp1, hw2, c0, c1, h21⟩; have H21 := hidden h21; clear h21)
    | (go_at_call 21; with_reducible refine (Hid.out H21).mono ?_; rintro e w3 ⟨bb, cB, rfl, h20⟩; have H20b := hidden h20; clear h20)
    | (go_at_call 20; with_reducible refine (Hid.out H20b).mono ?_; rintro e w4 ⟨g2, rfl, p2, w5, hp2, hw5, d1, e1, gd, cd, w6, W7, W9, hcv, s6, f6, hW7, hcv2, t1, t2, t3, hW9, hfin⟩; have HFIN := hidden hfin; clear hfin)
    | (go_at_call 16; with_reducible refine (Hid.out H16 _).mono ?_; rintro e wz ⟨rfl, hww⟩; rw [hww]; clear hww wz))
  obtain ⟨hd1, hd2, hmm, hcc2⟩ := Hid.out HR W9 p1 g1 bb cB p2 g2 (Hid.out HFIN)
  obtain ⟨f1, f2, f3, f4, f5, f7⟩ := Hid.out HFIN
  have HD1 := hidden hd1
  have HD2 := hidden hd2
  have HM := hidden hmm
  have HC2 := hidden hcc2
  have HP1 := hidden f2
  have HP2 := hidden f5
  have HBW := hidden f1
  have HSZ := hidden f1.size
  clear hd1 hd2 hmm hcc2 f1 f2 f3 f4 f5 f7 H20 H20b H21 HR HFIN hcv hcv2 s6 f6 hW7 hW9 t1 t2 t3 d1 e1 c0 c1 hw2 hw5 hp1 hp2
  by_cases hb0 : by8 = 0
  · have hDD := (Hid.out HDD).2 hb0
    subst hDD
    subst hb0
    have hz : (((0 : UInt8).toNat : Nat) : Int) = 0 := by decide
    rw [hz]
    clear HDD hz hxor H16
    refine wp_region_on later_below [52, 53, 54, 55, 56, 57, 58, 59, 60, 61, 62, 63, 64, 65, 66, 67, 68, 69, 70, 71, 72, 73, 74, 75, 76, 77, 78, 79, 80, 81, 82, 83, 84, 85, 86, 6] 36 (phiLdT bb cB L p1 p2 g1 g2 D1) (by kernel_rfl) (by kernel_rfl) rfl rfl (phiLdT_mono bb cB L p1 p2 g1 g2 D1) ?_ ?_
    · intro j hj xs w3 hxs hR hpre
      obtain ⟨x0, x1, x2, x3, x4, x5, x6, x7, x8, x9, x10, x11, x12, x13, x14, x15, x16, x17, x18, x19, x20, x21, x22, x23, x24, x25, x26, x27, x28, x29, x30, x31, x32, x33, x34, x35, rfl⟩ := list36 xs hxs
      have h13 : Blk w3 p1 #[.int .u32 65536, .slice (some ⟨g1, 0, none⟩) 1 1] 25 := (Hid.out HP1).later hR
      have h23 : Blk w3 p2 #[.int .u32 65536, .slice (some ⟨g2, 0, none⟩) 1 1] 25 := (Hid.out HP2).later hR
      rcases (show j = 0 ∨ j = 1 ∨ j = 2 ∨ j = 3 ∨ j = 4 ∨ j = 5 ∨ j = 6 ∨ j = 7 ∨ j = 8 ∨ j = 9 ∨ j = 10 ∨ j = 11 ∨ j = 12 ∨ j = 13 ∨ j = 14 ∨ j = 15 ∨ j = 16 ∨ j = 17 ∨ j = 18 ∨ j = 19 ∨ j = 20 ∨ j = 21 ∨ j = 22 ∨ j = 23 ∨ j = 24 ∨ j = 25 ∨ j = 26 ∨ j = 27 ∨ j = 28 ∨ j = 29 ∨ j = 30 ∨ j = 31 ∨ j = 32 ∨ j = 33 ∨ j = 34 ∨ j = 35 by omega) with rfl | rfl | rfl | rfl | rfl | rfl | rfl | rfl | rfl | rfl | rfl | rfl | rfl | rfl | rfl | rfl | rfl | rfl | rfl | rfl | rfl | rfl | rfl | rfl | rfl | rfl | rfl | rfl | rfl | rfl | rfl | rfl | rfl | rfl | rfl | rfl
      · exact wpOp_run (.int .i64 0) rfl (by kernel_rfl) (exec_move rfl (by kernel_rfl) w3) ⟨_, by kernel_rfl, rfl, Below.refl _ _⟩
      · have e0 : x0 = .int .i64 0 := hpre 0 (by kernel_rfl)
        subst e0
        exact wpOp_run (.bool true) rfl (by kernel_rfl) (by kernel_rfl) ⟨_, by kernel_rfl, rfl, Below.refl _ _⟩
      · have e1 : x1 = .bool true := hpre 1 (by kernel_rfl)
        subst e1
        exact wpOp_run (.bool true) rfl (by kernel_rfl) (exec_move rfl (by kernel_rfl) w3) ⟨_, by kernel_rfl, rfl, Below.refl _ _⟩
      · have e2 : x2 = .bool true := hpre 2 (by kernel_rfl)
        subst e2
        exact wpOp_run (.agg #[.int .u32 65536, .slice (some ⟨g1, 0, none⟩) 1 1]) rfl (by kernel_rfl) (exec_load 25 rfl (by kernel_rfl) w3 (load25 h13)) ⟨_, by kernel_rfl, rfl, Below.refl _ _⟩
      · have e2 : x2 = .bool true := hpre 2 (by kernel_rfl)
        subst e2
        have e3 : x3 = .agg #[.int .u32 65536, .slice (some ⟨g1, 0, none⟩) 1 1] := hpre 3 (by kernel_rfl)
        subst e3
        refine wpOp_callR (R := fun u w4 => u = .int .u32 (D1 : Int) ∧ Below w3.heap.size w3 w4) 13 #[.agg #[.int .u32 65536, .slice (some ⟨g1, 0, none⟩) 1 1]] rfl (by kernel_rfl) (by kernel_rfl) ((Hid.out HD1 w3 hR).mono fun e w4 ⟨he, hb⟩ => ⟨_, he, rfl, hb⟩) ?_
        rintro u w4 ⟨hu, hb4⟩
        exact ⟨_, by kernel_rfl, hu, hb4⟩
      · have e2 : x2 = .bool true := hpre 2 (by kernel_rfl)
        subst e2
        exact wpOp_run (.slice (some ⟨bb, 0, none⟩) L cB) rfl (by kernel_rfl) (exec_move rfl (by kernel_rfl) w3) ⟨_, by kernel_rfl, rfl, Below.refl _ _⟩
      · have e2 : x2 = .bool true := hpre 2 (by kernel_rfl)
        subst e2
        have e5 : x5 = .slice (some ⟨bb, 0, none⟩) L cB := hpre 5 (by kernel_rfl)
        subst e5
        refine wpOp_callR (R := fun u w4 => u = .int .u32 (D1 : Int) ∧ Below w3.heap.size w3 w4) 22 #[.int .u32 0, .slice (some ⟨bb, 0, none⟩) L cB] rfl (by kernel_rfl) (by kernel_rfl) ((Hid.out HM w3 hR).mono fun e w4 ⟨he, hb⟩ => ⟨_, he, rfl, by rw [hb]; exact Below.refl _ _⟩) ?_
        rintro u w4 ⟨hu, hb4⟩
        exact ⟨_, by kernel_rfl, hu, hb4⟩
      · have e2 : x2 = .bool true := hpre 2 (by kernel_rfl)
        subst e2
        have e4 : x4 = .int .u32 (D1 : Int) := hpre 4 (by kernel_rfl)
        subst e4
        have e6 : x6 = .int .u32 (D1 : Int) := hpre 6 (by kernel_rfl)
        subst e6
        exact wpOp_run (.bool true) rfl (by kernel_rfl) (exec_eql (n := (D1 : Int)) 22 rfl Try.underlying22 (by kernel_rfl) (by kernel_rfl) w3) ⟨_, by kernel_rfl, rfl, Below.refl _ _⟩
      · have e2 : x2 = .bool true := hpre 2 (by kernel_rfl)
        subst e2
        have e7 : x7 = .bool true := hpre 7 (by kernel_rfl)
        subst e7
        exact wpOp_run (.bool true) rfl (by kernel_rfl) (by kernel_rfl) ⟨_, by kernel_rfl, rfl, Below.refl _ _⟩
      · have e8 : x8 = .bool true := hpre 8 (by kernel_rfl)
        subst e8
        exact wpOp_run (.bool true) rfl (by kernel_rfl) (exec_move rfl (by kernel_rfl) w3) ⟨_, by kernel_rfl, rfl, Below.refl _ _⟩
      · have e9 : x9 = .bool true := hpre 9 (by kernel_rfl)
        subst e9
        exact wpOp_run (.agg #[.int .u32 65536, .slice (some ⟨g1, 0, none⟩) 1 1]) rfl (by kernel_rfl) (exec_load 25 rfl (by kernel_rfl) w3 (load25 h13)) ⟨_, by kernel_rfl, rfl, Below.refl _ _⟩
      · have e9 : x9 = .bool true := hpre 9 (by kernel_rfl)
        subst e9
        have e10 : x10 = .agg #[.int .u32 65536, .slice (some ⟨g1, 0, none⟩) 1 1] := hpre 10 (by kernel_rfl)
        subst e10
        refine wpOp_callR (R := fun u w4 => u = .int .u32 (D1 : Int) ∧ Below w3.heap.size w3 w4) 13 #[.agg #[.int .u32 65536, .slice (some ⟨g1, 0, none⟩) 1 1]] rfl (by kernel_rfl) (by kernel_rfl) ((Hid.out HD1 w3 hR).mono fun e w4 ⟨he, hb⟩ => ⟨_, he, rfl, hb⟩) ?_
        rintro u w4 ⟨hu, hb4⟩
        exact ⟨_, by kernel_rfl, hu, hb4⟩
      · have e9 : x9 = .bool true := hpre 9 (by kernel_rfl)
        subst e9
        exact wpOp_run (.agg #[.int .u32 65536, .slice (some ⟨g2, 0, none⟩) 1 1]) rfl (by kernel_rfl) (exec_load 25 rfl (by kernel_rfl) w3 (load25 h23)) ⟨_, by kernel_rfl, rfl, Below.refl _ _⟩
      · have e9 : x9 = .bool true := hpre 9 (by kernel_rfl)
        subst e9
        have e12 : x12 = .agg #[.int .u32 65536, .slice (some ⟨g2, 0, none⟩) 1 1] := hpre 12 (by kernel_rfl)
        subst e12
        refine wpOp_callR (R := fun u w4 => u = .int .u32 (D1 : Int) ∧ Below w3.heap.size w3 w4) 13 #[.agg #[.int .u32 65536, .slice (some ⟨g2, 0, none⟩) 1 1]] rfl (by kernel_rfl) (by kernel_rfl) ((Hid.out HD2 w3 hR).mono fun e w4 ⟨he, hb⟩ => ⟨_, he, rfl, hb⟩) ?_
        rintro u w4 ⟨hu, hb4⟩
        exact ⟨_, by kernel_rfl, hu, hb4⟩
      · have e9 : x9 = .bool true := hpre 9 (by kernel_rfl)
        subst e9
        have e11 : x11 = .int .u32 (D1 : Int) := hpre 11 (by kernel_rfl)
        subst e11
        have e13 : x13 = .int .u32 (D1 : Int) := hpre 13 (by kernel_rfl)
        subst e13
        exact wpOp_run (.bool true) rfl (by kernel_rfl) (exec_eql (n := (D1 : Int)) 22 rfl Try.underlying22 (by kernel_rfl) (by kernel_rfl) w3) ⟨_, by kernel_rfl, rfl, Below.refl _ _⟩
      · have e9 : x9 = .bool true := hpre 9 (by kernel_rfl)
        subst e9
        exact wpOp_run (.int .u8 0) rfl (by kernel_rfl) (exec_move rfl (by kernel_rfl) w3) ⟨_, by kernel_rfl, rfl, Below.refl _ _⟩
      · have e9 : x9 = .bool true := hpre 9 (by kernel_rfl)
        subst e9
        have e15 : x15 = .int .u8 0 := hpre 15 (by kernel_rfl)
        subst e15
        exact wpOp_run (.bool true) rfl (by kernel_rfl) (by kernel_rfl) ⟨_, by kernel_rfl, rfl, Below.refl _ _⟩
      · have e9 : x9 = .bool true := hpre 9 (by kernel_rfl)
        subst e9
        have e14 : x14 = .bool true := hpre 14 (by kernel_rfl)
        subst e14
        have e16 : x16 = .bool true := hpre 16 (by kernel_rfl)
        subst e16
        exact wpOp_run (.bool true) rfl (by kernel_rfl) (by kernel_rfl) ⟨_, by kernel_rfl, rfl, Below.refl _ _⟩
      · have e9 : x9 = .bool true := hpre 9 (by kernel_rfl)
        subst e9
        have e17 : x17 = .bool true := hpre 17 (by kernel_rfl)
        subst e17
        exact wpOp_run (.bool true) rfl (by kernel_rfl) (by kernel_rfl) ⟨_, by kernel_rfl, rfl, Below.refl _ _⟩
      · have e18 : x18 = .bool true := hpre 18 (by kernel_rfl)
        subst e18
        exact wpOp_run (.bool true) rfl (by kernel_rfl) (exec_move rfl (by kernel_rfl) w3) ⟨_, by kernel_rfl, rfl, Below.refl _ _⟩
      · have e19 : x19 = .bool true := hpre 19 (by kernel_rfl)
        subst e19
        exact wpOp_run (.agg #[.int .u32 0, .slice none 0 0]) rfl (by kernel_rfl) (exec_build 25 rfl (by kernel_rfl) w3 (build25z w3)) ⟨_, by kernel_rfl, rfl, Below.refl _ _⟩
      · have e19 : x19 = .bool true := hpre 19 (by kernel_rfl)
        subst e19
        have e20 : x20 = .agg #[.int .u32 0, .slice none 0 0] := hpre 20 (by kernel_rfl)
        subst e20
        refine wpOp_callR (R := fun u w4 => u = .int .u32 0 ∧ Below w3.heap.size w3 w4) 13 #[.agg #[.int .u32 0, .slice none 0 0]] rfl (by kernel_rfl) (by kernel_rfl) ((digest0_any w3).mono fun e w4 ⟨he, hb⟩ => ⟨_, he, rfl, hb⟩) ?_
        rintro u w4 ⟨hu, hb4⟩
        exact ⟨_, by kernel_rfl, hu, hb4⟩
      · have e19 : x19 = .bool true := hpre 19 (by kernel_rfl)
        subst e19
        have e21 : x21 = .int .u32 0 := hpre 21 (by kernel_rfl)
        subst e21
        exact wpOp_run (.bool true) rfl (by kernel_rfl) (by kernel_rfl) ⟨_, by kernel_rfl, rfl, Below.refl _ _⟩
      · have e19 : x19 = .bool true := hpre 19 (by kernel_rfl)
        subst e19
        have e22 : x22 = .bool true := hpre 22 (by kernel_rfl)
        subst e22
        exact wpOp_run (.bool true) rfl (by kernel_rfl) (by kernel_rfl) ⟨_, by kernel_rfl, rfl, Below.refl _ _⟩
      · have e23 : x23 = .bool true := hpre 23 (by kernel_rfl)
        subst e23
        exact wpOp_run (.bool true) rfl (by kernel_rfl) (exec_move rfl (by kernel_rfl) w3) ⟨_, by kernel_rfl, rfl, Below.refl _ _⟩
      · have e24 : x24 = .bool true := hpre 24 (by kernel_rfl)
        subst e24
        exact wpOp_run (.agg #[.int .u32 65536, .slice (some ⟨g2, 0, none⟩) 1 1]) rfl (by kernel_rfl) (exec_load 25 rfl (by kernel_rfl) w3 (load25 h23)) ⟨_, by kernel_rfl, rfl, Below.refl _ _⟩
      · have e24 : x24 = .bool true := hpre 24 (by kernel_rfl)
        subst e24
        have e25 : x25 = .agg #[.int .u32 65536, .slice (some ⟨g2, 0, none⟩) 1 1] := hpre 25 (by kernel_rfl)
        subst e25
        refine wpOp_callR (R := fun u w4 => u = .int .i64 0 ∧ Below w3.heap.size w3 w4) 23 #[.agg #[.int .u32 65536, .slice (some ⟨g2, 0, none⟩) 1 1]] rfl (by kernel_rfl) (by kernel_rfl) ((Hid.out HC2 w3 hR).mono fun e w4 ⟨he, hb⟩ => ⟨_, he, rfl, hb⟩) ?_
        rintro u w4 ⟨hu, hb4⟩
        exact ⟨_, by kernel_rfl, hu, hb4⟩
      · have e24 : x24 = .bool true := hpre 24 (by kernel_rfl)
        subst e24
        have e26 : x26 = .int .i64 0 := hpre 26 (by kernel_rfl)
        subst e26
        exact wpOp_run (.bool true) rfl (by kernel_rfl) (by kernel_rfl) ⟨_, by kernel_rfl, rfl, Below.refl _ _⟩
      · have e24 : x24 = .bool true := hpre 24 (by kernel_rfl)
        subst e24
        have e27 : x27 = .bool true := hpre 27 (by kernel_rfl)
        subst e27
        exact wpOp_run (.bool true) rfl (by kernel_rfl) (by kernel_rfl) ⟨_, by kernel_rfl, rfl, Below.refl _ _⟩
      · have e28 : x28 = .bool true := hpre 28 (by kernel_rfl)
        subst e28
        exact wpOp_run (.bool true) rfl (by kernel_rfl) (exec_move rfl (by kernel_rfl) w3) ⟨_, by kernel_rfl, rfl, Below.refl _ _⟩
      · have e29 : x29 = .bool true := hpre 29 (by kernel_rfl)
        subst e29
        exact wpOp_run (.bool true) rfl (by kernel_rfl) (by kernel_rfl) ⟨_, by kernel_rfl, rfl, Below.refl _ _⟩
      · have e29 : x29 = .bool true := hpre 29 (by kernel_rfl)
        subst e29
        have e30 : x30 = .bool true := hpre 30 (by kernel_rfl)
        subst e30
        exact wpOp_run (.bool true) rfl (by kernel_rfl) (by kernel_rfl) ⟨_, by kernel_rfl, rfl, Below.refl _ _⟩
      · have e31 : x31 = .bool true := hpre 31 (by kernel_rfl)
        subst e31
        exact wpOp_run (.bool true) rfl (by kernel_rfl) (exec_move rfl (by kernel_rfl) w3) ⟨_, by kernel_rfl, rfl, Below.refl _ _⟩
      · have e32 : x32 = .bool true := hpre 32 (by kernel_rfl)
        subst e32
        refine wpOp_callR (R := fun u w4 => u = .bool true ∧ Below w3.heap.size w3 w4) 8 #[] rfl (by kernel_rfl) (by kernel_rfl) ((wake_any w3).mono fun e w4 ⟨he, hb⟩ => ⟨_, he, rfl, hb⟩) ?_
        rintro u w4 ⟨hu, hb4⟩
        exact ⟨_, by kernel_rfl, hu, hb4⟩
      · have e32 : x32 = .bool true := hpre 32 (by kernel_rfl)
        subst e32
        have e33 : x33 = .bool true := hpre 33 (by kernel_rfl)
        subst e33
        exact wpOp_run (.bool true) rfl (by kernel_rfl) (by kernel_rfl) ⟨_, by kernel_rfl, rfl, Below.refl _ _⟩
      · have e34 : x34 = .bool true := hpre 34 (by kernel_rfl)
        subst e34
        exact wpOp_run (.bool true) rfl (by kernel_rfl) (by kernel_rfl) ⟨_, by kernel_rfl, rfl, Below.refl _ _⟩
    · intro xs w3 hxs hR hall
      obtain ⟨x0, x1, x2, x3, x4, x5, x6, x7, x8, x9, x10, x11, x12, x13, x14, x15, x16, x17, x18, x19, x20, x21, x22, x23, x24, x25, x26, x27, x28, x29, x30, x31, x32, x33, x34, x35, rfl⟩ := list36 xs hxs
      have e0 : x0 = .int .i64 0 := hall 0 (by omega)
      subst e0
      have e1 : x1 = .bool true := hall 1 (by omega)
      subst e1
      have e2 : x2 = .bool true := hall 2 (by omega)
      subst e2
      have e3 : x3 = .agg #[.int .u32 65536, .slice (some ⟨g1, 0, none⟩) 1 1] := hall 3 (by omega)
      subst e3
      have e4 : x4 = .int .u32 (D1 : Int) := hall 4 (by omega)
      subst e4
      have e5 : x5 = .slice (some ⟨bb, 0, none⟩) L cB := hall 5 (by omega)
      subst e5
      have e6 : x6 = .int .u32 (D1 : Int) := hall 6 (by omega)
      subst e6
      have e7 : x7 = .bool true := hall 7 (by omega)
      subst e7
      have e8 : x8 = .bool true := hall 8 (by omega)
      subst e8
      have e9 : x9 = .bool true := hall 9 (by omega)
      subst e9
      have e10 : x10 = .agg #[.int .u32 65536, .slice (some ⟨g1, 0, none⟩) 1 1] := hall 10 (by omega)
      subst e10
      have e11 : x11 = .int .u32 (D1 : Int) := hall 11 (by omega)
      subst e11
      have e12 : x12 = .agg #[.int .u32 65536, .slice (some ⟨g2, 0, none⟩) 1 1] := hall 12 (by omega)
      subst e12
      have e13 : x13 = .int .u32 (D1 : Int) := hall 13 (by omega)
      subst e13
      have e14 : x14 = .bool true := hall 14 (by omega)
      subst e14
      have e15 : x15 = .int .u8 0 := hall 15 (by omega)
      subst e15
      have e16 : x16 = .bool true := hall 16 (by omega)
      subst e16
      have e17 : x17 = .bool true := hall 17 (by omega)
      subst e17
      have e18 : x18 = .bool true := hall 18 (by omega)
      subst e18
      have e19 : x19 = .bool true := hall 19 (by omega)
      subst e19
      have e20 : x20 = .agg #[.int .u32 0, .slice none 0 0] := hall 20 (by omega)
      subst e20
      have e21 : x21 = .int .u32 0 := hall 21 (by omega)
      subst e21
      have e22 : x22 = .bool true := hall 22 (by omega)
      subst e22
      have e23 : x23 = .bool true := hall 23 (by omega)
      subst e23
      have e24 : x24 = .bool true := hall 24 (by omega)
      subst e24
      have e25 : x25 = .agg #[.int .u32 65536, .slice (some ⟨g2, 0, none⟩) 1 1] := hall 25 (by omega)
      subst e25
      have e26 : x26 = .int .i64 0 := hall 26 (by omega)
      subst e26
      have e27 : x27 = .bool true := hall 27 (by omega)
      subst e27
      have e28 : x28 = .bool true := hall 28 (by omega)
      subst e28
      have e29 : x29 = .bool true := hall 29 (by omega)
      subst e29
      have e30 : x30 = .bool true := hall 30 (by omega)
      subst e30
      have e31 : x31 = .bool true := hall 31 (by omega)
      subst e31
      have e32 : x32 = .bool true := hall 32 (by omega)
      subst e32
      have e33 : x33 = .bool true := hall 33 (by omega)
      subst e33
      have e34 : x34 = .bool true := hall 34 (by omega)
      subst e34
      have e35 : x35 = .bool true := hall 35 (by omega)
      subst e35
      have HR := hidden hR
      clear hall hR hxs
      simp only [slotsOn, putAll, List.set_cons_succ, List.set_cons_zero]
      go_wp2
      go_ret
      exact ⟨rfl, (Hid.out HBW).trans ((Hid.out HR).mono (Hid.out HSZ))⟩
  · have hD : ¬ (D1 : Int) = (D2 : Int) := fun e => hb0 ((Hid.out HDD).1 (by omega))
    have hby : ¬ (by8.toNat : Int) = 0 := fun e => hb0 (UInt8.toNat_inj.1 (by show by8.toNat = 0; omega))
    clear HDD hb0 hxor H16
    refine wp_region_on later_below [52, 53, 54, 55, 56, 57, 58, 59, 60, 61, 62, 63, 64, 65, 66, 67, 68, 69, 70, 71, 72, 73, 74, 75, 76, 77, 78, 79, 80, 81, 82, 83, 84, 85, 86, 6] 36 (phiLdF bb cB L p1 p2 g1 g2 D1 D2 by8) (by kernel_rfl) (by kernel_rfl) rfl rfl (phiLdF_mono bb cB L p1 p2 g1 g2 D1 D2 by8) ?_ ?_
    · intro j hj xs w3 hxs hR hpre
      obtain ⟨x0, x1, x2, x3, x4, x5, x6, x7, x8, x9, x10, x11, x12, x13, x14, x15, x16, x17, x18, x19, x20, x21, x22, x23, x24, x25, x26, x27, x28, x29, x30, x31, x32, x33, x34, x35, rfl⟩ := list36 xs hxs
      have h13 : Blk w3 p1 #[.int .u32 65536, .slice (some ⟨g1, 0, none⟩) 1 1] 25 := (Hid.out HP1).later hR
      have h23 : Blk w3 p2 #[.int .u32 65536, .slice (some ⟨g2, 0, none⟩) 1 1] 25 := (Hid.out HP2).later hR
      rcases (show j = 0 ∨ j = 1 ∨ j = 2 ∨ j = 3 ∨ j = 4 ∨ j = 5 ∨ j = 6 ∨ j = 7 ∨ j = 8 ∨ j = 9 ∨ j = 10 ∨ j = 11 ∨ j = 12 ∨ j = 13 ∨ j = 14 ∨ j = 15 ∨ j = 16 ∨ j = 17 ∨ j = 18 ∨ j = 19 ∨ j = 20 ∨ j = 21 ∨ j = 22 ∨ j = 23 ∨ j = 24 ∨ j = 25 ∨ j = 26 ∨ j = 27 ∨ j = 28 ∨ j = 29 ∨ j = 30 ∨ j = 31 ∨ j = 32 ∨ j = 33 ∨ j = 34 ∨ j = 35 by omega) with rfl | rfl | rfl | rfl | rfl | rfl | rfl | rfl | rfl | rfl | rfl | rfl | rfl | rfl | rfl | rfl | rfl | rfl | rfl | rfl | rfl | rfl | rfl | rfl | rfl | rfl | rfl | rfl | rfl | rfl | rfl | rfl | rfl | rfl | rfl | rfl
      · exact wpOp_run (.int .i64 0) rfl (by kernel_rfl) (exec_move rfl (by kernel_rfl) w3) ⟨_, by kernel_rfl, rfl, Below.refl _ _⟩
      · have e0 : x0 = .int .i64 0 := hpre 0 (by kernel_rfl)
        subst e0
        exact wpOp_run (.bool true) rfl (by kernel_rfl) (by kernel_rfl) ⟨_, by kernel_rfl, rfl, Below.refl _ _⟩
      · have e1 : x1 = .bool true := hpre 1 (by kernel_rfl)
        subst e1
        exact wpOp_run (.bool true) rfl (by kernel_rfl) (exec_move rfl (by kernel_rfl) w3) ⟨_, by kernel_rfl, rfl, Below.refl _ _⟩
      · have e2 : x2 = .bool true := hpre 2 (by kernel_rfl)
        subst e2
        exact wpOp_run (.agg #[.int .u32 65536, .slice (some ⟨g1, 0, none⟩) 1 1]) rfl (by kernel_rfl) (exec_load 25 rfl (by kernel_rfl) w3 (load25 h13)) ⟨_, by kernel_rfl, rfl, Below.refl _ _⟩
      · have e2 : x2 = .bool true := hpre 2 (by kernel_rfl)
        subst e2
        have e3 : x3 = .agg #[.int .u32 65536, .slice (some ⟨g1, 0, none⟩) 1 1] := hpre 3 (by kernel_rfl)
        subst e3
        refine wpOp_callR (R := fun u w4 => u = .int .u32 (D1 : Int) ∧ Below w3.heap.size w3 w4) 13 #[.agg #[.int .u32 65536, .slice (some ⟨g1, 0, none⟩) 1 1]] rfl (by kernel_rfl) (by kernel_rfl) ((Hid.out HD1 w3 hR).mono fun e w4 ⟨he, hb⟩ => ⟨_, he, rfl, hb⟩) ?_
        rintro u w4 ⟨hu, hb4⟩
        exact ⟨_, by kernel_rfl, hu, hb4⟩
      · have e2 : x2 = .bool true := hpre 2 (by kernel_rfl)
        subst e2
        exact wpOp_run (.slice (some ⟨bb, 0, none⟩) L cB) rfl (by kernel_rfl) (exec_move rfl (by kernel_rfl) w3) ⟨_, by kernel_rfl, rfl, Below.refl _ _⟩
      · have e2 : x2 = .bool true := hpre 2 (by kernel_rfl)
        subst e2
        have e5 : x5 = .slice (some ⟨bb, 0, none⟩) L cB := hpre 5 (by kernel_rfl)
        subst e5
        refine wpOp_callR (R := fun u w4 => u = .int .u32 (D1 : Int) ∧ Below w3.heap.size w3 w4) 22 #[.int .u32 0, .slice (some ⟨bb, 0, none⟩) L cB] rfl (by kernel_rfl) (by kernel_rfl) ((Hid.out HM w3 hR).mono fun e w4 ⟨he, hb⟩ => ⟨_, he, rfl, by rw [hb]; exact Below.refl _ _⟩) ?_
        rintro u w4 ⟨hu, hb4⟩
        exact ⟨_, by kernel_rfl, hu, hb4⟩
      · have e2 : x2 = .bool true := hpre 2 (by kernel_rfl)
        subst e2
        have e4 : x4 = .int .u32 (D1 : Int) := hpre 4 (by kernel_rfl)
        subst e4
        have e6 : x6 = .int .u32 (D1 : Int) := hpre 6 (by kernel_rfl)
        subst e6
        exact wpOp_run (.bool true) rfl (by kernel_rfl) (exec_eql (n := (D1 : Int)) 22 rfl Try.underlying22 (by kernel_rfl) (by kernel_rfl) w3) ⟨_, by kernel_rfl, rfl, Below.refl _ _⟩
      · have e2 : x2 = .bool true := hpre 2 (by kernel_rfl)
        subst e2
        have e7 : x7 = .bool true := hpre 7 (by kernel_rfl)
        subst e7
        exact wpOp_run (.bool true) rfl (by kernel_rfl) (by kernel_rfl) ⟨_, by kernel_rfl, rfl, Below.refl _ _⟩
      · have e8 : x8 = .bool true := hpre 8 (by kernel_rfl)
        subst e8
        exact wpOp_run (.bool true) rfl (by kernel_rfl) (exec_move rfl (by kernel_rfl) w3) ⟨_, by kernel_rfl, rfl, Below.refl _ _⟩
      · have e9 : x9 = .bool true := hpre 9 (by kernel_rfl)
        subst e9
        exact wpOp_run (.agg #[.int .u32 65536, .slice (some ⟨g1, 0, none⟩) 1 1]) rfl (by kernel_rfl) (exec_load 25 rfl (by kernel_rfl) w3 (load25 h13)) ⟨_, by kernel_rfl, rfl, Below.refl _ _⟩
      · have e9 : x9 = .bool true := hpre 9 (by kernel_rfl)
        subst e9
        have e10 : x10 = .agg #[.int .u32 65536, .slice (some ⟨g1, 0, none⟩) 1 1] := hpre 10 (by kernel_rfl)
        subst e10
        refine wpOp_callR (R := fun u w4 => u = .int .u32 (D1 : Int) ∧ Below w3.heap.size w3 w4) 13 #[.agg #[.int .u32 65536, .slice (some ⟨g1, 0, none⟩) 1 1]] rfl (by kernel_rfl) (by kernel_rfl) ((Hid.out HD1 w3 hR).mono fun e w4 ⟨he, hb⟩ => ⟨_, he, rfl, hb⟩) ?_
        rintro u w4 ⟨hu, hb4⟩
        exact ⟨_, by kernel_rfl, hu, hb4⟩
      · have e9 : x9 = .bool true := hpre 9 (by kernel_rfl)
        subst e9
        exact wpOp_run (.agg #[.int .u32 65536, .slice (some ⟨g2, 0, none⟩) 1 1]) rfl (by kernel_rfl) (exec_load 25 rfl (by kernel_rfl) w3 (load25 h23)) ⟨_, by kernel_rfl, rfl, Below.refl _ _⟩
      · have e9 : x9 = .bool true := hpre 9 (by kernel_rfl)
        subst e9
        have e12 : x12 = .agg #[.int .u32 65536, .slice (some ⟨g2, 0, none⟩) 1 1] := hpre 12 (by kernel_rfl)
        subst e12
        refine wpOp_callR (R := fun u w4 => u = .int .u32 (D2 : Int) ∧ Below w3.heap.size w3 w4) 13 #[.agg #[.int .u32 65536, .slice (some ⟨g2, 0, none⟩) 1 1]] rfl (by kernel_rfl) (by kernel_rfl) ((Hid.out HD2 w3 hR).mono fun e w4 ⟨he, hb⟩ => ⟨_, he, rfl, hb⟩) ?_
        rintro u w4 ⟨hu, hb4⟩
        exact ⟨_, by kernel_rfl, hu, hb4⟩
      · have e9 : x9 = .bool true := hpre 9 (by kernel_rfl)
        subst e9
        have e11 : x11 = .int .u32 (D1 : Int) := hpre 11 (by kernel_rfl)
        subst e11
        have e13 : x13 = .int .u32 (D2 : Int) := hpre 13 (by kernel_rfl)
        subst e13
        exact wpOp_run (.bool false) rfl (by kernel_rfl) (exec_eqlF (m := (D1 : Int)) (n := (D2 : Int)) 22 rfl Try.underlying22 (by kernel_rfl) (by kernel_rfl) hD w3) ⟨_, by kernel_rfl, rfl, Below.refl _ _⟩
      · have e9 : x9 = .bool true := hpre 9 (by kernel_rfl)
        subst e9
        exact wpOp_run (.int .u8 (by8.toNat : Int)) rfl (by kernel_rfl) (exec_move rfl (by kernel_rfl) w3) ⟨_, by kernel_rfl, rfl, Below.refl _ _⟩
      · have e9 : x9 = .bool true := hpre 9 (by kernel_rfl)
        subst e9
        have e15 : x15 = .int .u8 (by8.toNat : Int) := hpre 15 (by kernel_rfl)
        subst e15
        exact wpOp_run (.bool false) rfl (by kernel_rfl) (exec_eqlF (m := (by8.toNat : Int)) (n := 0) 5 rfl Try.underlying5 (by kernel_rfl) (by kernel_rfl) hby w3) ⟨_, by kernel_rfl, rfl, Below.refl _ _⟩
      · have e9 : x9 = .bool true := hpre 9 (by kernel_rfl)
        subst e9
        have e14 : x14 = .bool false := hpre 14 (by kernel_rfl)
        subst e14
        have e16 : x16 = .bool false := hpre 16 (by kernel_rfl)
        subst e16
        exact wpOp_run (.bool true) rfl (by kernel_rfl) (by kernel_rfl) ⟨_, by kernel_rfl, rfl, Below.refl _ _⟩
      · have e9 : x9 = .bool true := hpre 9 (by kernel_rfl)
        subst e9
        have e17 : x17 = .bool true := hpre 17 (by kernel_rfl)
        subst e17
        exact wpOp_run (.bool true) rfl (by kernel_rfl) (by kernel_rfl) ⟨_, by kernel_rfl, rfl, Below.refl _ _⟩
      · have e18 : x18 = .bool true := hpre 18 (by kernel_rfl)
        subst e18
        exact wpOp_run (.bool true) rfl (by kernel_rfl) (exec_move rfl (by kernel_rfl) w3) ⟨_, by kernel_rfl, rfl, Below.refl _ _⟩
      · have e19 : x19 = .bool true := hpre 19 (by kernel_rfl)
        subst e19
        exact wpOp_run (.agg #[.int .u32 0, .slice none 0 0]) rfl (by kernel_rfl) (exec_build 25 rfl (by kernel_rfl) w3 (build25z w3)) ⟨_, by kernel_rfl, rfl, Below.refl _ _⟩
      · have e19 : x19 = .bool true := hpre 19 (by kernel_rfl)
        subst e19
        have e20 : x20 = .agg #[.int .u32 0, .slice none 0 0] := hpre 20 (by kernel_rfl)
        subst e20
        refine wpOp_callR (R := fun u w4 => u = .int .u32 0 ∧ Below w3.heap.size w3 w4) 13 #[.agg #[.int .u32 0, .slice none 0 0]] rfl (by kernel_rfl) (by kernel_rfl) ((digest0_any w3).mono fun e w4 ⟨he, hb⟩ => ⟨_, he, rfl, hb⟩) ?_
        rintro u w4 ⟨hu, hb4⟩
        exact ⟨_, by kernel_rfl, hu, hb4⟩
      · have e19 : x19 = .bool true := hpre 19 (by kernel_rfl)
        subst e19
        have e21 : x21 = .int .u32 0 := hpre 21 (by kernel_rfl)
        subst e21
        exact wpOp_run (.bool true) rfl (by kernel_rfl) (by kernel_rfl) ⟨_, by kernel_rfl, rfl, Below.refl _ _⟩
      · have e19 : x19 = .bool true := hpre 19 (by kernel_rfl)
        subst e19
        have e22 : x22 = .bool true := hpre 22 (by kernel_rfl)
        subst e22
        exact wpOp_run (.bool true) rfl (by kernel_rfl) (by kernel_rfl) ⟨_, by kernel_rfl, rfl, Below.refl _ _⟩
      · have e23 : x23 = .bool true := hpre 23 (by kernel_rfl)
        subst e23
        exact wpOp_run (.bool true) rfl (by kernel_rfl) (exec_move rfl (by kernel_rfl) w3) ⟨_, by kernel_rfl, rfl, Below.refl _ _⟩
      · have e24 : x24 = .bool true := hpre 24 (by kernel_rfl)
        subst e24
        exact wpOp_run (.agg #[.int .u32 65536, .slice (some ⟨g2, 0, none⟩) 1 1]) rfl (by kernel_rfl) (exec_load 25 rfl (by kernel_rfl) w3 (load25 h23)) ⟨_, by kernel_rfl, rfl, Below.refl _ _⟩
      · have e24 : x24 = .bool true := hpre 24 (by kernel_rfl)
        subst e24
        have e25 : x25 = .agg #[.int .u32 65536, .slice (some ⟨g2, 0, none⟩) 1 1] := hpre 25 (by kernel_rfl)
        subst e25
        refine wpOp_callR (R := fun u w4 => u = .int .i64 0 ∧ Below w3.heap.size w3 w4) 23 #[.agg #[.int .u32 65536, .slice (some ⟨g2, 0, none⟩) 1 1]] rfl (by kernel_rfl) (by kernel_rfl) ((Hid.out HC2 w3 hR).mono fun e w4 ⟨he, hb⟩ => ⟨_, he, rfl, hb⟩) ?_
        rintro u w4 ⟨hu, hb4⟩
        exact ⟨_, by kernel_rfl, hu, hb4⟩
      · have e24 : x24 = .bool true := hpre 24 (by kernel_rfl)
        subst e24
        have e26 : x26 = .int .i64 0 := hpre 26 (by kernel_rfl)
        subst e26
        exact wpOp_run (.bool true) rfl (by kernel_rfl) (by kernel_rfl) ⟨_, by kernel_rfl, rfl, Below.refl _ _⟩
      · have e24 : x24 = .bool true := hpre 24 (by kernel_rfl)
        subst e24
        have e27 : x27 = .bool true := hpre 27 (by kernel_rfl)
        subst e27
        exact wpOp_run (.bool true) rfl (by kernel_rfl) (by kernel_rfl) ⟨_, by kernel_rfl, rfl, Below.refl _ _⟩
      · have e28 : x28 = .bool true := hpre 28 (by kernel_rfl)
        subst e28
        exact wpOp_run (.bool true) rfl (by kernel_rfl) (exec_move rfl (by kernel_rfl) w3) ⟨_, by kernel_rfl, rfl, Below.refl _ _⟩
      · have e29 : x29 = .bool true := hpre 29 (by kernel_rfl)
        subst e29
        exact wpOp_run (.bool true) rfl (by kernel_rfl) (by kernel_rfl) ⟨_, by kernel_rfl, rfl, Below.refl _ _⟩
      · have e29 : x29 = .bool true := hpre 29 (by kernel_rfl)
        subst e29
        have e30 : x30 = .bool true := hpre 30 (by kernel_rfl)
        subst e30
        exact wpOp_run (.bool true) rfl (by kernel_rfl) (by kernel_rfl) ⟨_, by kernel_rfl, rfl, Below.refl _ _⟩
      · have e31 : x31 = .bool true := hpre 31 (by kernel_rfl)
        subst e31
        exact wpOp_run (.bool true) rfl (by kernel_rfl) (exec_move rfl (by kernel_rfl) w3) ⟨_, by kernel_rfl, rfl, Below.refl _ _⟩
      · have e32 : x32 = .bool true := hpre 32 (by kernel_rfl)
        subst e32
        refine wpOp_callR (R := fun u w4 => u = .bool true ∧ Below w3.heap.size w3 w4) 8 #[] rfl (by kernel_rfl) (by kernel_rfl) ((wake_any w3).mono fun e w4 ⟨he, hb⟩ => ⟨_, he, rfl, hb⟩) ?_
        rintro u w4 ⟨hu, hb4⟩
        exact ⟨_, by kernel_rfl, hu, hb4⟩
      · have e32 : x32 = .bool true := hpre 32 (by kernel_rfl)
        subst e32
        have e33 : x33 = .bool true := hpre 33 (by kernel_rfl)
        subst e33
        exact wpOp_run (.bool true) rfl (by kernel_rfl) (by kernel_rfl) ⟨_, by kernel_rfl, rfl, Below.refl _ _⟩
      · have e34 : x34 = .bool true := hpre 34 (by kernel_rfl)
        subst e34
        exact wpOp_run (.bool true) rfl (by kernel_rfl) (by kernel_rfl) ⟨_, by kernel_rfl, rfl, Below.refl _ _⟩
    · intro xs w3 hxs hR hall
      obtain ⟨x0, x1, x2, x3, x4, x5, x6, x7, x8, x9, x10, x11, x12, x13, x14, x15, x16, x17, x18, x19, x20, x21, x22, x23, x24, x25, x26, x27, x28, x29, x30, x31, x32, x33, x34, x35, rfl⟩ := list36 xs hxs
      have e0 : x0 = .int .i64 0 := hall 0 (by omega)
      subst e0
      have e1 : x1 = .bool true := hall 1 (by omega)
      subst e1
      have e2 : x2 = .bool true := hall 2 (by omega)
      subst e2
      have e3 : x3 = .agg #[.int .u32 65536, .slice (some ⟨g1, 0, none⟩) 1 1] := hall 3 (by omega)
      subst e3
      have e4 : x4 = .int .u32 (D1 : Int) := hall 4 (by omega)
      subst e4
      have e5 : x5 = .slice (some ⟨bb, 0, none⟩) L cB := hall 5 (by omega)
      subst e5
      have e6 : x6 = .int .u32 (D1 : Int) := hall 6 (by omega)
      subst e6
      have e7 : x7 = .bool true := hall 7 (by omega)
      subst e7
      have e8 : x8 = .bool true := hall 8 (by omega)
      subst e8
      have e9 : x9 = .bool true := hall 9 (by omega)
      subst e9
      have e10 : x10 = .agg #[.int .u32 65536, .slice (some ⟨g1, 0, none⟩) 1 1] := hall 10 (by omega)
      subst e10
      have e11 : x11 = .int .u32 (D1 : Int) := hall 11 (by omega)
      subst e11
      have e12 : x12 = .agg #[.int .u32 65536, .slice (some ⟨g2, 0, none⟩) 1 1] := hall 12 (by omega)
      subst e12
      have e13 : x13 = .int .u32 (D2 : Int) := hall 13 (by omega)
      subst e13
      have e14 : x14 = .bool false := hall 14 (by omega)
      subst e14
      have e15 : x15 = .int .u8 (by8.toNat : Int) := hall 15 (by omega)
      subst e15
      have e16 : x16 = .bool false := hall 16 (by omega)
      subst e16
      have e17 : x17 = .bool true := hall 17 (by omega)
      subst e17
      have e18 : x18 = .bool true := hall 18 (by omega)
      subst e18
      have e19 : x19 = .bool true := hall 19 (by omega)
      subst e19
      have e20 : x20 = .agg #[.int .u32 0, .slice none 0 0] := hall 20 (by omega)
      subst e20
      have e21 : x21 = .int .u32 0 := hall 21 (by omega)
      subst e21
      have e22 : x22 = .bool true := hall 22 (by omega)
      subst e22
      have e23 : x23 = .bool true := hall 23 (by omega)
      subst e23
      have e24 : x24 = .bool true := hall 24 (by omega)
      subst e24
      have e25 : x25 = .agg #[.int .u32 65536, .slice (some ⟨g2, 0, none⟩) 1 1] := hall 25 (by omega)
      subst e25
      have e26 : x26 = .int .i64 0 := hall 26 (by omega)
      subst e26
      have e27 : x27 = .bool true := hall 27 (by omega)
      subst e27
      have e28 : x28 = .bool true := hall 28 (by omega)
      subst e28
      have e29 : x29 = .bool true := hall 29 (by omega)
      subst e29
      have e30 : x30 = .bool true := hall 30 (by omega)
      subst e30
      have e31 : x31 = .bool true := hall 31 (by omega)
      subst e31
      have e32 : x32 = .bool true := hall 32 (by omega)
      subst e32
      have e33 : x33 = .bool true := hall 33 (by omega)
      subst e33
      have e34 : x34 = .bool true := hall 34 (by omega)
      subst e34
      have e35 : x35 = .bool true := hall 35 (by omega)
      subst e35
      have HR := hidden hR
      clear hall hR hxs
      simp only [slotsOn, putAll, List.set_cons_succ, List.set_cons_zero]
      go_wp2
      go_ret
      exact ⟨rfl, (Hid.out HBW).trans ((Hid.out HR).mono (Hid.out HSZ))⟩
theorem loadDigests_any (w : World) (ao : Option Addr) (n cap : Nat) (vs : List Nat) (h : WdsA w ao vs) (hv : ∀ z ∈ vs, z < 4294967296) (hn : vs.length = n) (hcap : n ≤ cap) (hmax : cap ≤ 9223372036854775807) (v : Int) (by8 : UInt8) : Calls Try.prog 5 #[.slice ao n cap, .int .i64 v, .int .u8 (by8.toNat : Int)] w fun e w' => e = .returned (.bool true) ∧ Below w.heap.size w w' := by
  by_cases h5 : n ≤ 500
  · by_cases h1 : 1 ≤ n
    · exact ld_main w ao n cap vs h hv hn h1 h5 hcap hmax v by8
    · obtain rfl : n = 0 := by omega
      have H8 := hidden (wake_any w)
      clear h hv hn
      go_enter Try.func5, Try.ntmps5
      go_wp2_with (go_at_call 8; with_reducible refine (Hid.out H8).mono ?_; rintro e w2 ⟨rfl, hb2⟩; have HB2 := hidden hb2; clear hb2)
      go_ret
      exact ⟨rfl, Hid.out HB2⟩
  · have h52 : (500 : Int) < (n : Int) := by omega
    have H8 := hidden (wake_any w)
    clear h hv hn
    go_enter Try.func5, Try.ntmps5
    go_wp2_with (go_at_call 8; with_reducible refine (Hid.out H8).mono ?_; rintro e w2 ⟨rfl, hb2⟩; have HB2 := hidden hb2; clear hb2)
    go_ret
    exact ⟨rfl, Hid.out HB2⟩
end Go.Proofs.Ytpknppicamefgaa

/- load's bare and front, of a file of one segment. -/
import Derived.Test.YtpknppicamefgaaQMBF
import Derived.Maps.AppendAt
import Derived.Test.YtpknppicamefgaaQMAK
import Derived.WalkKit
import Derived.ProofKit
import Derived.OpenShut
import Derived.Handy
import Derived.Laws.BitsAllLaws
import Derived.Laws.ShiftsVarLaws
namespace Go.Proofs.Ytpknppicamefgaa
open Go.ChangeShapes Go.WideShapes Go.ChangeAt Go.RowKit
set_option linter.unusedVariables false
def bareS (s : Sg) : Sg := { s with data := [] }
set_option maxRecDepth 20000 in
set_option maxHeartbeats 1000000 in
theorem clone1_any (w : World) (b off cap : Nat) (s : Sg) (h : SegAt w b off s) : Calls Try.prog 82 #[.slice (some ⟨b, off, none⟩) 1 cap] w fun e w' => ∃ v, e = .returned v ∧ OutS w' w.heap.size v [s] ∧ Below w.heap.size w w' := by
  obtain ⟨i0, hi, hz0, hz1, hz2⟩ := info_parts info43
  have hlt := h.c0
  have hb0 := World.block_lt_of_cell? _ _ h.c0
  simp only at hb0
  obtain ⟨c0, c1, c2, c3, fit⟩ := h
  have HC : Hid (∀ o : Obj, ∀ j u, (segCells [s])[j]? = some u → (w.alloc o).cell? ((⟨b, off, none⟩ : Addr).add j) = some u) := by
    intro o j u hu
    have hc := (below_new w o).cell (p := (⟨b, off, none⟩ : Addr).add j) (by rw [Addr.add_lit]; exact hb0)
    rw [hc, Addr.add_lit]
    match j, hu with
    | 0, hu => cases hu; exact c0
    | 1, hu => cases hu; exact c1
    | 2, hu => cases hu; exact c2
    | 3, hu => cases hu; exact c3
    | j + 4, hu => simp [segCells] at hu
  have HB : Hid (∀ o, Below w.heap.size w (w.alloc o)) := fun o => below_new w o
  clear hlt c0 c1 c2 c3 fit
  have heq : ∀ u, (binOp .eql 23 (.slice (some ⟨b, off, none⟩) 1 cap) (.slice none 0 0)).run Try.prog u = .ok (.bool false) u := fun u => by kernel_rfl
  have HOW : Hid ((w.alloc (.cells #[] 44)).ownsRow w.heap.size 44 4 (.slice (some ⟨w.heap.size, 0, none⟩) 0 0) 0 []) := ⟨rfl, .inr ⟨w.heap.size, 0, #[], rfl, Nat.le_refl _, heap_alloc_new w _, Nat.le_refl _, by simp [maxLen], rfl, rfl⟩⟩
  have n1 : (0 : Nat) < 4 := by omega
  have n2 : 0 + 1 ≤ maxLen := by simp [maxLen]
  have n3 : (0 + 1) * 40 ≤ 140737488355328 := by omega
  have n4 : w.heap.size ≤ (w.alloc (.cells #[] 44)).heap.size := by simp
  have HB2 : Hid (∀ w', (w.alloc (.cells #[] 44)).grownBy w' (some w.heap.size) → Below w.heap.size w w') := fun w' hg => (below_new w (.cells #[] 44)).grown hg n4 fun k e => by cases e; exact Nat.le_refl _
  go_enter Try.func82, Try.ntmps82
  go_wp2_with (refine wpList_append_own_at _ rfl _ _ 23 rfl w.heap.size 44 i0 _ 4 40 Try.underlying23 hi hz0 hz1 hz2 rfl n1 (.slice (some ⟨w.heap.size, 0, none⟩) 0 0) 0 [] rfl (Hid.out HOW) ⟨b, off, none⟩ 1 cap (segCells [s]) rfl rfl (Hid.out HC _) (segCells_one _) n2 n3 n4 ?_; intro v' w1 hown hgrow _ _; have HO := hidden hown; have HG := hidden (Hid.out HB2 w1 hgrow); clear hown hgrow)
  go_ret
  exact ⟨v', rfl, Hid.out HO, Hid.out HG⟩
theorem outS_one {w : World} {base : Nat} {v : Value} {s : Sg} (h : OutS w base v [s]) : ∃ g cap tl, v = .slice (some ⟨g, 0, none⟩) 1 cap ∧ base ≤ g ∧ 1 ≤ cap ∧ cap ≤ 9223372036854775807 ∧ w.heap[g]? = some (.cells (segCells [s] ++ tl).toArray 44 (0, 0)) := by
  rcases h.2 with ⟨_, h0⟩ | ⟨g, cap, cur, e, hb, hg, hnc, hcm, hcs, htk⟩
  · simp at h0
  · refine ⟨g, cap, cur.toList.drop 4, e, hb, hnc, hcm, ?_⟩
    rw [hg]
    congr 2
    apply Array.ext'
    simp only
    have e2 : cur.toList = cur.toList.take 4 ++ cur.toList.drop 4 := (List.take_append_drop 4 _).symm
    have e3 : cur.toList.take 4 = segCells [s] := htk
    rw [e3] at e2
    exact e2
set_option maxRecDepth 20000 in
set_option maxHeartbeats 2000000 in
theorem bare1_any (w : World) (b off cap ent : Nat) (s : Sg) (h : SegAt w b off s) : Calls Try.prog 62 #[.agg #[.int .u32 (ent : Int), .slice (some ⟨b, off, none⟩) 1 cap]] w fun e w' => ∃ g cap', e = .returned (.agg #[.int .u32 (ent : Int), .slice (some ⟨g, 0, none⟩) 1 cap']) ∧ Segs w' (some ⟨g, 0, none⟩) [bareS s] ∧ 1 ≤ cap' ∧ cap' ≤ 9223372036854775807 ∧ Below w.heap.size w w' := by
  obtain ⟨n, hn⟩ : ∃ n, w.heap.size = n := ⟨_, rfl⟩
  obtain ⟨wa, hwa⟩ : ∃ wa, (w.alloc (.cells #[.int .u32 (ent : Int), .slice (some ⟨b, off, none⟩) 1 cap] 25)).alloc (.cells #[.int .u32 0, .slice none 0 0] 25) = wa := ⟨_, rfl⟩
  have hba : Below n w wa := by rw [← hwa, ← hn]; exact ((Below.refl _ w).alloc (Nat.le_refl _) _).alloc (by simp) _
  have k0 : Blk wa n #[.int .u32 (ent : Int), .slice (some ⟨b, off, none⟩) 1 cap] 25 := by rw [← hwa, ← hn]; exact (heap_alloc_old _ _ (by simp)).trans (Blk.new w _ _)
  have k1 : Blk wa (n + 1) #[.int .u32 0, .slice none 0 0] 25 := by
    have := Blk.new (w.alloc (.cells #[.int .u32 (ent : Int), .slice (some ⟨b, off, none⟩) 1 cap] 25)) #[.int .u32 0, .slice none 0 0] 25
    rw [World.size_alloc, hn] at this
    rw [← hwa]; exact this
  have hbl := World.block_lt_of_cell? _ _ h.c0
  simp only at hbl
  have q1 : wa.cell? ⟨n, 1, none⟩ = some (.slice (some ⟨b, off, none⟩) 1 cap) := k0.cell rfl
  have hfit := h.fit
  have H82 : Hid (Calls Try.prog 82 #[.slice (some ⟨b, off, none⟩) 1 cap] wa fun e w1 => ∃ g cap' tl, e = .returned (.slice (some ⟨g, 0, none⟩) 1 cap') ∧ n + 2 ≤ g ∧ 1 ≤ cap' ∧ cap' ≤ 9223372036854775807 ∧ w1.heap[g]? = some (.cells (segCells [s] ++ tl).toArray 44 (0, 0)) ∧ Below n w w1 ∧ Blk w1 n #[.int .u32 (ent : Int), .slice (some ⟨b, off, none⟩) 1 cap] 25 ∧ Blk w1 (n + 1) #[.int .u32 0, .slice none 0 0] 25) := by
    refine (clone1_any wa b off cap s (h.later hbl (by rw [hn]; exact hba))).mono ?_
    rintro e w1 ⟨v, he, ho, hb1⟩
    obtain ⟨g, cap', tl, hv, h1, h2, h3, h4⟩ := outS_one ho
    have hs := k1.lt
    exact ⟨g, cap', tl, by rw [he, hv], by omega, h2, h3, h4, hba.trans (hb1.mono (by omega)), k0.later hb1, k1.later hb1⟩
  clear h hba k0 k1 hbl
  go_enter Try.func62, Try.ntmps62
  go_wp2_with (go_at_call 82; with_reducible refine (Hid.out H82).mono ?_; rintro e w1 ⟨g, cap', tl, rfl, hg, hc1, hc2, hrow, hb1, hf1, hz1⟩; have HR := hidden hrow; have HB1 := hidden hb1; have HF1 := hidden hf1; have HZ1 := hidden hz1; clear hrow hb1 hf1 hz1)
  go_loopw [10] (fun x10 wr => ∃ (k : Nat) (t : Sg), k ≤ 1 ∧ x10 = .int .i64 (k : Int) ∧ (k = 1 → t = bareS s) ∧ t.at_ = s.at_ ∧ t.size = s.size ∧ t.perm = s.perm ∧ wr.heap[g]? = some (.cells (segCells [t] ++ tl).toArray 44 (0, 0)) ∧ Below n w wr ∧ Blk wr n #[.int .u32 (ent : Int), .slice (some ⟨b, off, none⟩) 1 cap] 25 ∧ Blk wr (n + 1) #[.int .u32 0, .slice none 0 0] 25) (fun x10 _ => 1 - (intOf x10).toNat)
  case atStart => exact ⟨0, s, by omega, rfl, by omega, rfl, rfl, rfl, Hid.out HR, Hid.out HB1, Hid.out HF1, Hid.out HZ1⟩
  case round =>
    obtain ⟨k, t, hk, rfl, ht, ta, ts, tp, hr, hb, hf, hz⟩ := hrel
    by_cases hk0 : k = 0
    · subst hk0
      have c1 : wr.cell? ⟨g, 1, none⟩ = some (.string ⟨t.data.toArray⟩) := cell_of_row _ _ _ _ _ _ hr
      have f1 : wr.frozen? ⟨g, 1, none⟩ = false := frozen_of_row _ _ _ _ _ hr
      have HR2 : Hid ((wr.setCell ⟨g, 1, none⟩ (.string ⟨#[]⟩)).heap[g]? = some (.cells (segCells [bareS s] ++ tl).toArray 44 (0, 0))) := by
        show (wr.setCell ⟨g, 1, none⟩ (.string ⟨#[]⟩)).heap[g]? = _
        rw [heap_setCell_same wr g 1 _ 44 _ hr]
        have e : (segCells [t] ++ tl).toArray.setIfInBounds 1 (.string ⟨#[]⟩) = (segCells [bareS s] ++ tl).toArray := by
          simp [segCells, bareS, ta, ts, tp]
        rw [e]
      have HB2 : Hid (Below n w (wr.setCell ⟨g, 1, none⟩ (.string ⟨#[]⟩))) := hb.setCell (p := ⟨g, 1, none⟩) (by show n ≤ g; omega) _
      have HF2 : Hid (Blk (wr.setCell ⟨g, 1, none⟩ (.string ⟨#[]⟩)) n #[.int .u32 (ent : Int), .slice (some ⟨b, off, none⟩) 1 cap] 25) := (Below.heap_setCell _ _ _ _ (by show n ≠ g; omega)).trans hf
      have HZ2 : Hid (Blk (wr.setCell ⟨g, 1, none⟩ (.string ⟨#[]⟩)) (n + 1) #[.int .u32 0, .slice none 0 0] 25) := (Below.heap_setCell _ _ _ _ (by show n + 1 ≠ g; omega)).trans hz
      clear hr hb hf hz ht
      go_wp2
      go_roundw
      case rel => first | exact ⟨1, bareS s, by omega, by simp, (fun _ => rfl), rfl, rfl, rfl, Hid.out HR2, Hid.out HB2, Hid.out HF2, Hid.out HZ2⟩ | ((repeat apply Exists.intro); exact ⟨⟨1, bareS s, by omega, by simp, (fun _ => rfl), rfl, rfl, rfl, Hid.out HR2, Hid.out HB2, Hid.out HF2, Hid.out HZ2⟩, rfl⟩)
      case measure => simp [intOf]
    · obtain rfl : k = 1 := by omega
      obtain rfl := ht rfl
      have r0 : wr.cell? ⟨n, 0, none⟩ = some (.int .u32 (ent : Int)) := hf.cell rfl
      obtain ⟨z0, z1, hzl, hzf⟩ := zero26 hz
      have HR := hidden hr
      have HB := hidden hb
      have HZ := hidden hz
      have hsg : Blk wr g (segCells [bareS s] ++ tl).toArray 44 := hr
      clear hr hb hf hz
      go_wp2
      have hz2 := (Hid.out HZ).set2 (a' := .int .u32 (ent : Int)) (b' := .slice (some ⟨g, 0, none⟩) 1 cap')
      have hb2 := below_set2 (a' := .int .u32 (ent : Int)) (b' := .slice (some ⟨g, 0, none⟩) 1 cap') (g := n + 1) (Hid.out HB) (by omega)
      have hr2 : Blk ((wr.setCell ⟨n + 1, 0, none⟩ (.int .u32 (ent : Int))).setCell ⟨n + 1, 1, none⟩ (.slice (some ⟨g, 0, none⟩) 1 cap')) g (segCells [bareS s] ++ tl).toArray 44 := (Below.heap_setCell _ _ _ _ (by show g ≠ n + 1; omega)).trans ((Below.heap_setCell _ _ _ _ (by show g ≠ n + 1; omega)).trans hsg)
      generalize World.setCell _ _ _ = wf at hz2 hb2 hr2 ⊢
      have g0 : wf.cell? ⟨n + 1, 0, none⟩ = some (.int .u32 (ent : Int)) := hz2.cell rfl
      have g1 : wf.cell? ⟨n + 1, 1, none⟩ = some (.slice (some ⟨g, 0, none⟩) 1 cap') := hz2.cell rfl
      refine bodyPost_ret (v := .agg #[.int .u32 (ent : Int), .slice (some ⟨g, 0, none⟩) 1 cap']) (by simp [results, Try.results62, go_sem, g0, g1]) rfl ⟨g, cap', rfl, .inr ⟨g, 0, rfl, hr2.lt, fun j hj => ?_⟩, hc1, hc2, by first | exact hb2 | (rw [hn]; exact hb2)⟩
      obtain rfl : j = 0 := by simpa using hj
      exact ⟨hr2.cell rfl, hr2.cell rfl, hr2.cell rfl, hr2.cell rfl, ⟨hfit.la, hfit.ls, by simp [bareS]⟩⟩
end Go.Proofs.Ytpknppicamefgaa
namespace Go.Proofs.Ytpknppicamefgaa
namespace Crc
def poly : Nat := 0xedb88320
/-- One bit: shifted down, turned by the polynomial if the bit that fell off was 1. -/
def bit1 (s : Nat) : Nat := if s % 2 = 1 then s / 2 ^^^ poly else s / 2
def bits : Nat → Nat → Nat
  | 0, s => s
  | k + 1, s => bits k (bit1 s)
def byte1 (c b : Nat) : Nat := bits 8 (c ^^^ b)
def fold (c : Nat) (l : List Nat) : Nat := l.foldl byte1 c
theorem xor_div2 (a b : Nat) : (a ^^^ b) / 2 = a / 2 ^^^ b / 2 := by
  apply Nat.eq_of_testBit_eq; intro i
  rw [Nat.testBit_div_two, Nat.testBit_xor, Nat.testBit_xor, Nat.testBit_div_two, Nat.testBit_div_two]
theorem xor_mod2 (a b : Nat) : (a ^^^ b) % 2 = (a % 2 + b % 2) % 2 := by
  have h := Nat.testBit_xor (x := a) (y := b) (i := 0)
  simp only [Nat.testBit_zero] at h
  have h1 : a % 2 = 0 ∨ a % 2 = 1 := by omega
  have h2 : b % 2 = 0 ∨ b % 2 = 1 := by omega
  have h3 : (a ^^^ b) % 2 = 0 ∨ (a ^^^ b) % 2 = 1 := by omega
  rcases h1 with h1 | h1 <;> rcases h2 with h2 | h2 <;> rcases h3 with h3 | h3 <;> simp [h1, h2, h3] at h ⊢
theorem bit1_xor (a b : Nat) : bit1 (a ^^^ b) = bit1 a ^^^ bit1 b := by
  unfold bit1
  rw [xor_mod2, xor_div2]
  have h1 : a % 2 = 0 ∨ a % 2 = 1 := by omega
  have h2 : b % 2 = 0 ∨ b % 2 = 1 := by omega
  rcases h1 with h1 | h1 <;> rcases h2 with h2 | h2 <;> simp [h1, h2]
  · rw [Nat.xor_assoc]
  · rw [Nat.xor_assoc, Nat.xor_assoc, Nat.xor_comm poly]
  · rw [Nat.xor_assoc, Nat.xor_comm poly, Nat.xor_assoc, Nat.xor_self, Nat.xor_zero]
theorem bits_xor : ∀ (k a b : Nat), bits k (a ^^^ b) = bits k a ^^^ bits k b
  | 0, _, _ => rfl
  | k + 1, a, b => by simp only [bits]; rw [bit1_xor, bits_xor k]
theorem bit1_double (a : Nat) : bit1 (2 * a) = a := by unfold bit1; rw [if_neg (by omega)]; omega
theorem bits_pow : ∀ (k a : Nat), bits k (2 ^ k * a) = a
  | 0, a => by simp [bits]
  | k + 1, a => by
    simp only [bits]
    rw [show 2 ^ (k + 1) * a = 2 * (2 ^ k * a) by rw [Nat.pow_succ, Nat.mul_comm (2 ^ k) 2, Nat.mul_assoc], bit1_double, bits_pow k]
theorem bits_zero : ∀ k, bits k 0 = 0
  | 0 => rfl
  | k + 1 => by simp only [bits]; rw [show bit1 0 = 0 by decide, bits_zero k]
theorem bits_add : ∀ (j k a : Nat), bits (j + k) a = bits k (bits j a)
  | 0, k, a => by rw [Nat.zero_add]; rfl
  | j + 1, k, a => by rw [Nat.add_right_comm]; simp only [bits]; exact bits_add j k (bit1 a)
theorem bit1_lt {a : Nat} (h : a < 4294967296) : bit1 a < 4294967296 := by
  unfold bit1
  split
  · have : a / 2 ^^^ poly < 2 ^ 32 := Nat.xor_lt_two_pow (by omega) (by decide)
    omega
  · omega
theorem bits_lt : ∀ (k : Nat) {a : Nat}, a < 4294967296 → bits k a < 4294967296
  | 0, _, h => h
  | k + 1, _, h => bits_lt k (bit1_lt h)
theorem bit1_ne {a : Nat} (h : a < 4294967296) (h0 : a ≠ 0) : bit1 a ≠ 0 := by
  unfold bit1
  split
  · intro e
    have e2 : a / 2 = poly := by
      have := congrArg (· ^^^ poly) e
      simpa [Nat.xor_assoc] using this
    have : poly = 3988292384 := by decide
    omega
  · omega
theorem bits_ne : ∀ (k : Nat) {a : Nat}, a < 4294967296 → a ≠ 0 → bits k a ≠ 0
  | 0, _, _, h0 => h0
  | k + 1, _, h, h0 => bits_ne k (bit1_lt h) (bit1_ne h h0)
/-- By a table of 256: the lowest byte by the table, turned by what is above it. -/
theorem split256 (s : Nat) : s = s % 256 ^^^ 2 ^ 8 * (s / 256) := by
  apply Nat.eq_of_testBit_eq
  intro i
  rw [Nat.testBit_xor, show (256 : Nat) = 2 ^ 8 by decide, Nat.testBit_mod_two_pow, Nat.testBit_two_pow_mul, Nat.testBit_div_two_pow]
  by_cases h : i < 8
  · have h2 : ¬ 8 ≤ i := by omega
    simp [h, h2]
  · have h2 : 8 ≤ i := by omega
    simp [h, h2]
theorem byte_table (s : Nat) : bits 8 s = bits 8 (s % 256) ^^^ s / 256 := by
  have e := split256 s
  conv => lhs; rw [e]
  rw [bits_xor, bits_pow]
theorem byte1_xor (c d b e : Nat) : byte1 (c ^^^ d) (b ^^^ e) = byte1 c b ^^^ byte1 d e := by
  unfold byte1
  rw [show c ^^^ d ^^^ (b ^^^ e) = (c ^^^ b) ^^^ (d ^^^ e) by rw [Nat.xor_assoc, Nat.xor_assoc, ← Nat.xor_assoc d b, Nat.xor_comm d b, Nat.xor_assoc], bits_xor]
theorem fold_nil (c : Nat) : fold c [] = c := rfl
theorem fold_cons (c b : Nat) (l : List Nat) : fold c (b :: l) = fold (byte1 c b) l := rfl
theorem fold_append (c : Nat) (l m : List Nat) : fold c (l ++ m) = fold (fold c l) m := by unfold fold; rw [List.foldl_append]
theorem fold_xor : ∀ (l m : List Nat) (c d : Nat), l.length = m.length → fold (c ^^^ d) (List.zipWith (· ^^^ ·) l m) = fold c l ^^^ fold d m
  | [], [], _, _, _ => rfl
  | [], _ :: _, _, _, h => by simp at h
  | _ :: _, [], _, _, h => by simp at h
  | b :: l, e :: m, c, d, h => by
    simp only [List.zipWith_cons_cons, fold_cons]
    rw [byte1_xor]
    exact fold_xor l m _ _ (by simpa using h)
theorem fold_zeros : ∀ (k c : Nat), fold c (List.replicate k 0) = bits (8 * k) c
  | 0, c => rfl
  | k + 1, c => by
    rw [List.replicate_succ, fold_cons, fold_zeros k, show 8 * (k + 1) = 8 + 8 * k by omega, bits_add]
    unfold byte1
    rw [Nat.xor_zero]
theorem byte1_lt {c b : Nat} (h : c < 4294967296) (hb : b < 256) : byte1 c b < 4294967296 := by
  apply bits_lt
  have : c ^^^ b < 2 ^ 32 := Nat.xor_lt_two_pow (by omega) (by omega)
  omega
theorem fold_lt : ∀ (l : List Nat) {c : Nat}, c < 4294967296 → (∀ b ∈ l, b < 256) → fold c l < 4294967296
  | [], _, h, _ => h
  | b :: l, c, h, hl => by
    rw [fold_cons]
    exact fold_lt l (byte1_lt h (hl b (by simp))) (fun x hx => hl x (by simp [hx]))
/-- So many bytes of a number, the lowest first. -/
def lows : Nat → Nat → List Nat
  | 0, _ => []
  | k + 1, x => x % 256 :: lows k (x / 256)
/-- Bytes of a number that has no more: as if it were shifted through as a whole. -/
theorem fold_lows : ∀ (k x c : Nat), x < 256 ^ k → fold c (lows k x) = bits (8 * k) (c ^^^ x)
  | 0, x, c, h => by
    have : x = 0 := by simpa using h
    subst this
    simp [lows, fold_nil, bits]
  | k + 1, x, c, h => by
    have hx : x / 256 < 256 ^ k := by
      rw [Nat.div_lt_iff_lt_mul (by omega)]
      rw [Nat.pow_succ] at h
      exact h
    have e : x = x % 256 ^^^ 2 ^ 8 * (x / 256) := split256 x
    rw [lows, fold_cons, fold_lows k _ _ hx, show 8 * (k + 1) = 8 + 8 * k by omega, bits_add]
    congr 1
    conv => rhs; rw [e]
    unfold byte1
    rw [← Nat.xor_assoc, bits_xor 8 (c ^^^ x % 256), bits_pow]
/-- What differs in 32 bits in a row, from bit r of a byte on, differs behind any further bytes. -/
theorem burst (n m r row : Nat) (hr : r < 8) (h0 : row ≠ 0) (hrow : row < 4294967296) :
    fold 0 (List.replicate n 0 ++ lows 5 (2 ^ r * row) ++ List.replicate m 0) ≠ 0 := by
  have hx : 2 ^ r * row < 256 ^ 5 := by
    have h1 : 2 ^ r ≤ 2 ^ 7 := Nat.pow_le_pow_right (by omega) (by omega)
    have h2 := Nat.mul_le_mul h1 (Nat.le_of_lt hrow)
    have h3 : (2 : Nat) ^ 7 = 128 := by decide
    have h4 : (256 : Nat) ^ 5 = 1099511627776 := by decide
    rw [h3] at h2
    omega
  rw [fold_append, fold_append, fold_zeros, fold_zeros, bits_zero, fold_lows 5 _ _ hx, Nat.zero_xor, show 8 * 5 = r + (40 - r) by omega, bits_add, bits_pow, ← bits_add]
  exact bits_ne _ hrow h0
/-- Two lists of one length that differ by such bits have unlike folds. -/
theorem unlike (c : Nat) (l : List Nat) (n m r row : Nat) (hr : r < 8) (h0 : row ≠ 0) (hrow : row < 4294967296) (hl : l.length = n + 5 + m) :
    fold c (List.zipWith (· ^^^ ·) l (List.replicate n 0 ++ lows 5 (2 ^ r * row) ++ List.replicate m 0)) ≠ fold c l := by
  have hlen : (List.replicate n 0 ++ lows 5 (2 ^ r * row) ++ List.replicate m 0).length = n + 5 + m := by simp [lows]; omega
  have h := fold_xor l (List.replicate n 0 ++ lows 5 (2 ^ r * row) ++ List.replicate m 0) c 0 (by rw [hl, hlen])
  rw [Nat.xor_zero] at h
  rw [h]
  have hb := burst n m r row hr h0 hrow
  generalize fold 0 (List.replicate n 0 ++ lows 5 (2 ^ r * row) ++ List.replicate m 0) = d at hb
  intro e
  apply hb
  have := congrArg (fold c l ^^^ ·) e
  simpa [← Nat.xor_assoc] using this
end Crc
end Go.Proofs.Ytpknppicamefgaa
namespace Go.Proofs.Ytpknppicamefgaa
open Go.ChangeShapes Go.WideShapes Go.ChangeAt Go.RowKit
set_option linter.unusedVariables false
theorem low1 (s : Nat) (h : s < 4294967296) : bits .and .u32 (s : Int) 1 = ((s % 2 : Nat) : Int) := by
  rw [u32_and _ _ (by omega) (by omega) (by omega) (by omega)]
  simp [Nat.and_one_is_mod]
theorem turned (s : Nat) (h : s < 4294967296) : bits .xor .u32 ((s : Int) / 2) 3988292384 = ((s / 2 ^^^ Crc.poly : Nat) : Int) := by
  rw [u32_xor _ _ (by omega) (by omega) (by omega) (by omega)]
  congr 1
set_option maxHeartbeats 1000000 in
theorem fall_any (a : Nat) (ha : a < 4294967296) (w : World) :
    Calls Try.prog 64 #[.int .u32 (a : Int), .int .i64 8] w fun e w' => e = .returned (.int .u32 ((Crc.bits 8 a : Nat) : Int)) ∧ w' = w := by
  go_enter Try.func64, Try.ntmps64
  go_wp2
  go_loop [0, 7] (fun h i => ∃ k s : Nat, k ≤ 8 ∧ i = .int .i64 (k : Int) ∧ h = .int .u32 (s : Int) ∧ s < 4294967296 ∧ Crc.bits (8 - k) s = Crc.bits 8 a) (fun _ i => 8 - (intOf i).toNat)
  case atStart => exact ⟨0, a, by omega, rfl, rfl, ha, rfl⟩
  case round =>
    obtain ⟨k, s, hk, rfl, rfl, hs, hb⟩ := hrel
    have hl := low1 s hs
    have ht := turned s hs
    have HB := hidden hb
    clear hb
    go_wp2
    · go_round
      case rel =>
        have h2 : s % 2 = 1 := by
          have h : ((s : Int) % 2 == 1) = true := by assumption
          have := beq_iff_eq.1 h
          omega
        have hk8 : k < 8 := by have h : (k : Int) < 8 := by assumption
                               omega
        refine ⟨k + 1, s / 2 ^^^ Crc.poly, by omega, by go_num, rfl, ?_, ?_⟩
        · have : s / 2 ^^^ Crc.poly < 2 ^ 32 := Nat.xor_lt_two_pow (by omega) (by decide)
          omega
        · have HB2 : Crc.bits (8 - k) s = Crc.bits 8 a := HB
          rw [← HB2, show 8 - k = (8 - (k + 1)) + 1 by omega]
          simp only [Crc.bits, Crc.bit1, if_pos h2]
      case measure => simp [intOf]; omega
    · go_round
      case rel =>
        have h2 : ¬ s % 2 = 1 := by
          have h : ((s : Int) % 2 == 1) = false := by assumption
          have := beq_eq_false_iff_ne.1 h
          omega
        have hk8 : k < 8 := by have h : (k : Int) < 8 := by assumption
                               omega
        refine ⟨k + 1, s / 2, by omega, by go_num, by go_num, by omega, ?_⟩
        have HB2 : Crc.bits (8 - k) s = Crc.bits 8 a := HB
        rw [← HB2, show 8 - k = (8 - (k + 1)) + 1 by omega]
        simp only [Crc.bits, Crc.bit1, if_neg h2]
      case measure => simp [intOf]; omega
    · have h8 : k = 8 := by have h : (8 : Int) ≤ (k : Int) := by assumption
                            omega
      subst h8
      go_ret
      have HB2 : Crc.bits (8 - 8) s = Crc.bits 8 a := HB
      exact ⟨ret_int (by rw [← HB2]; rfl), rfl⟩

theorem not32N (a : Nat) (h2 : a < 4294967296) : bits .xor .u32 IntKind.u32.max (a : Int) = ((4294967295 - a : Nat) : Int) := by
  rw [max_u32, u32_xor _ _ (by omega) (by omega) (by omega) (by omega)]
  have e : BitVec.allOnes 32 ^^^ BitVec.ofNat 32 a = ~~~ BitVec.ofNat 32 a := BitVec.allOnes_xor
  have e2 := congrArg BitVec.toNat e
  rw [BitVec.toNat_xor, BitVec.toNat_not, BitVec.toNat_allOnes, BitVec.toNat_ofNat, Nat.mod_eq_of_lt (by omega)] at e2
  simp only [Int.toNat_natCast]
  have e3 : (4294967295 : Int).toNat = 2 ^ 32 - 1 := by decide
  rw [e3, e2]
theorem xor8 (s b : Nat) (h : s < 4294967296) (hb : b < 256) : bits .xor .u32 (s : Int) (b : Int) = ((s ^^^ b : Nat) : Int) := by
  rw [u32_xor _ _ (by omega) (by omega) (by omega) (by omega)]
  simp
/-- The bytes ns lie where a slice of their number begins. -/
def RowN (w : World) (l : Option Addr) (ns : List Nat) : Prop :=
  ns = [] ∨ ∃ b off, l = some ⟨b, off, none⟩ ∧ ∀ j, j < ns.length → w.cell? ⟨b, off + j, none⟩ = some (.int .u8 ((ns.getD j 0 : Nat) : Int))
theorem below256 {ns : List Nat} (h : ∀ x ∈ ns, x < 256) (j : Nat) : ns.getD j 0 < 256 := by
  by_cases hj : j < ns.length
  · simp only [List.getD_eq_getElem?_getD, List.getElem?_eq_getElem hj, Option.getD_some]
    exact h _ (List.getElem_mem hj)
  · simp [List.getD_eq_getElem?_getD, List.getElem?_eq_none (by omega : ns.length ≤ j)]
theorem drop_get {ns : List Nat} {k : Nat} (h : k < ns.length) : ns.drop k = ns.getD k 0 :: ns.drop (k + 1) := by
  rw [List.drop_eq_getElem_cons h]
  simp [List.getD_eq_getElem?_getD, List.getElem?_eq_getElem h]
/-- The sum that goes on behind c. -/
def sumOf (c : Nat) (ns : List Nat) : Nat := 4294967295 - Crc.fold (4294967295 - c) ns
set_option maxHeartbeats 2000000 in
theorem more_any (c : Nat) (hc : c < 4294967296) (l : Option Addr) (cap : Nat) (ns : List Nat) (hns : Hid (∀ x ∈ ns, x < 256)) (w : World) (hr : RowN w l ns) (hlen : ns.length ≤ 140737488351232) :
    Calls Try.prog 40 #[.int .u32 (c : Int), .slice l ns.length cap] w fun e w' => e = .returned (.int .u32 ((sumOf c ns : Nat) : Int)) ∧ w' = w := by
  have hs0 : IntKind.u32.signed = false := rfl
  have hn := not32N c hc
  have Hr := hidden hr
  clear hr
  go_enter Try.func40, Try.ntmps40
  go_wp2
  go_loop [5, 12] (fun h i => ∃ k s : Nat, k ≤ ns.length ∧ i = .int .i64 (k : Int) ∧ h = .int .u32 (s : Int) ∧ s < 4294967296 ∧ Crc.fold s (ns.drop k) = Crc.fold (4294967295 - c) ns) (fun _ i => ns.length - (intOf i).toNat)
  case atStart => exact ⟨0, 4294967295 - c, by omega, rfl, rfl, by omega, rfl⟩
  case round =>
    obtain ⟨k, s, hk, rfl, rfl, hs, hb⟩ := hrel
    have HB := hidden hb
    clear hb
    by_cases hkl : k < ns.length
    · have HR : RowN w l ns := Hr
      rcases HR with hnil | ⟨b, off, rfl, hcell⟩
      · subst hnil; simp at hkl
      have hcl := hcell k hkl
      have hb8 := below256 hns k
      have hx := xor8 s (ns.getD k 0) hs hb8
      have Hc := hidden hcell
      clear hcell
      generalize hx0 : ns.getD k 0 = x at hcl hb8 hx
      have Hx := hidden hx0
      clear hx0
      have hlt : s ^^^ x < 4294967296 := by
        have : s ^^^ x < 2 ^ 32 := Nat.xor_lt_two_pow (by omega) (by omega)
        omega
      go_wp2_with (go_at_call 64; refine (fall_any _ hlt _).mono ?_; rintro e w' ⟨rfl, rfl⟩)
      go_round
      case rel =>
        have HB2 : Crc.fold s (ns.drop k) = Crc.fold (4294967295 - c) ns := HB
        have Hx2 : ns.getD k 0 = x := Hx
        refine ⟨k + 1, Crc.bits 8 (s ^^^ x), by omega, by go_num, rfl, Crc.bits_lt 8 hlt, ?_⟩
        rw [← HB2, drop_get hkl, Hx2, Crc.fold_cons]
        rfl
      case measure => simp [intOf]; omega
    · have hnot := not32N s hs
      go_wp2
      have hk2 : k = ns.length := by omega
      subst hk2
      have HB2 : Crc.fold s (ns.drop ns.length) = Crc.fold (4294967295 - c) ns := HB
      rw [List.drop_length] at HB2
      go_ret
      exact ⟨ret_int (by unfold sumOf; rw [← HB2]; rfl), rfl⟩
theorem of_any (l : Option Addr) (cap : Nat) (ns : List Nat) (hns : Hid (∀ x ∈ ns, x < 256)) (w : World) (hr : RowN w l ns) (hlen : ns.length ≤ 140737488351232) :
    Calls Try.prog 38 #[.slice l ns.length cap] w fun e w' => e = .returned (.int .u32 ((sumOf 0 ns : Nat) : Int)) ∧ w' = w := by
  have H := more_any 0 (by omega) l cap ns hns w hr hlen
  have HH := hidden hr
  clear hr
  go_enter Try.func38, Try.ntmps38
  go_wp2_with (go_at_call 40; refine H.mono ?_; rintro e w' ⟨rfl, rfl⟩)
  go_ret
  exact ⟨rfl, rfl⟩
theorem placeN_any (v n : Int) (h1 : 0 < n) (h2 : n ≤ 9223372036854775807) (h3 : -9223372036854775808 ≤ v) (h4 : v ≤ 9223372036854775807) (w : World) :
    Calls Try.prog 16 #[.int .i64 v, .int .i64 n] w fun e w' => e = .returned (.int .i64 (v % n)) ∧ w' = w := by
  have hz : (n == 0) = false := beq_eq_false_iff_ne.2 (by omega)
  have hne : ¬ n = 0 := by omega
  have ht1 : v.tmod n < n := Int.tmod_lt_of_pos v h1
  have ht2 : -n < v.tmod n := by have := Int.tmod_lt_of_pos (-v) h1; rw [Int.neg_tmod] at this; omega
  have he : v % n = if v.tmod n < 0 then v.tmod n + n else v.tmod n := by
    rcases Int.le_total 0 v with hv | hv
    · rw [Int.tmod_eq_emod_of_nonneg hv, if_neg (by have := Int.emod_nonneg v hne; omega)]
    · obtain ⟨u, rfl⟩ : ∃ u, v = -u := ⟨-v, by omega⟩
      have hu : 0 ≤ u := by omega
      rw [Int.neg_tmod, Int.tmod_eq_emod_of_nonneg hu]
      have h5 := Int.emod_nonneg u hne
      have h6 := Int.emod_lt_of_pos u h1
      by_cases hd : u % n = 0
      · rw [if_neg (by omega), hd]
        exact Int.emod_eq_zero_of_dvd (Int.dvd_neg.2 (Int.dvd_of_emod_eq_zero hd))
      · rw [if_pos (by omega)]
        have h7 : (-u) % n = (-(u % n) + n) % n := by
          have h8 : -u = -(u % n) + n * (-(u / n)) := by
            have := Int.emod_add_mul_ediv u n
            rw [Int.mul_neg]
            omega
          rw [h8, Int.add_mul_emod_self_left, Int.add_emod_right]
        rw [h7]
        exact Int.emod_eq_of_lt (by omega) (by omega)
  go_enter Try.func16, Try.ntmps16
  go_wp2
  · go_ret
    exact ⟨ret_int (by rw [he, if_pos (by assumption)]), rfl⟩
  · go_ret
    exact ⟨ret_int (by rw [he, if_neg (by omega)]), rfl⟩
theorem own : ownKnob Try.prog.godebug = none := by kernel_rfl
def cellsN (ns : List Nat) : List Value := ns.map fun (n : Nat) => Value.int .u8 (n : Int)
theorem cellsN_get (ns : List Nat) (j : Nat) (h : j < ns.length) : (cellsN ns)[j]? = some (Value.int .u8 ((ns.getD j 0 : Nat) : Int)) := by
  simp [cellsN, List.getD_eq_getElem?_getD, List.getElem?_eq_getElem h]
end Go.Proofs.Ytpknppicamefgaa

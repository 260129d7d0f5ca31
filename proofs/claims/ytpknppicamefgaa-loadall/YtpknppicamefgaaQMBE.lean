/- Bytes that are being made: rows of the call's own, what is put behind them, and what stays. -/
import Derived.Test.YtpknppicamefgaaQMBD
import Derived.Maps.AppendAt
import Derived.Lib.AppendZeros
import Derived.Lib.AppendStr
import Derived.Lib.SlBytesConst
namespace Go.Proofs.Ytpknppicamefgaa
open Go.ChangeShapes Go.WideShapes Go.ChangeAt Go.RowKit
set_option linter.unusedVariables false
/-- Nothing that was there below base has turned, and of what is no row of bytes nothing. -/
structure Grew (base : Nat) (w w' : World) : Prop where
  below : Below base w w'
  keep : ∀ k cs T, T ≠ 5 → Blk w k cs T → Blk w' k cs T
theorem Grew.refl (base : Nat) (w : World) : Grew base w w := ⟨Below.refl _ _, fun _ _ _ _ h => h⟩
theorem Grew.trans {base : Nat} {u v w : World} (h : Grew base u v) (k : Grew base v w) : Grew base u w := ⟨h.below.trans k.below, fun i cs T hT hb => k.keep i cs T hT (h.keep i cs T hT hb)⟩
theorem Grew.of {base : Nat} {w w' : World} (h : Below w.heap.size w w') (hb : base ≤ w.heap.size) : Grew base w w' := ⟨h.mono hb, fun _ _ _ _ hk => hk.later h⟩
theorem Grew.size {base : Nat} {w w' : World} (h : Grew base w w') : w.heap.size ≤ w'.heap.size := h.below.size
/-- A row of the bytes l, of the call's own. -/
def Out (w : World) (base : Nat) (v : Value) (l : List UInt8) : Prop := w.ownsRow base 5 1 v l.length (cellsU l)
theorem Out.later {w w' : World} {base : Nat} {v : Value} {l : List UInt8} (h : Out w base v l) (hb : Below w.heap.size w w') : Out w' base v l := by
  refine ⟨h.1, ?_⟩
  rcases h.2 with h | ⟨g, cap, cur, h1, h2, h3, h4⟩
  · exact .inl h
  · exact .inr ⟨g, cap, cur, h1, h2, (hb.block g (Array.getElem?_eq_some_iff.1 h3).1).trans h3, h4⟩
theorem Out.mono {w : World} {base base' : Nat} {v : Value} {l : List UInt8} (h : Out w base v l) (hb : base' ≤ base) : Out w base' v l := by
  refine ⟨h.1, ?_⟩
  rcases h.2 with h | ⟨g, cap, cur, h1, h2, h3⟩
  · exact .inl h
  · exact .inr ⟨g, cap, cur, h1, Nat.le_trans hb h2, h3⟩
theorem Out.row {w : World} {base : Nat} {v : Value} {l : List UInt8} (h : Out w base v l) : ∃ ao cap, v = .slice ao l.length cap ∧ Row w ao l cap := row_of_own rfl h
theorem grew_append {w w' : World} {base : Nat} {v : Value} {l : List UInt8} (h : Out w base v l) (hg : w.grownBy w' v.ownBlock) (hb : base ≤ w.heap.size) : Grew base w w' := by
  refine ⟨(Below.refl base w).grown hg hb fun k hk => (h.lt k hk).1, fun k cs T hT hk => ?_⟩
  refine (hg.block k hk.lt fun e => ?_).trans hk
  rcases h.2 with ⟨rfl, _⟩ | ⟨g, cap, cur, rfl, _, h3, _⟩
  · simp [Value.ownBlock] at e
  · simp only [Value.ownBlock, Option.some.injEq] at e
    subst e
    have := hk.symm.trans h3
    simp at this
    exact hT this.2
/-- Bytes put behind a row of the call's own. -/
theorem run_more {w : World} {base : Nat} {v : Value} {l : List UInt8} (h : Out w base v l) (hb : base ≤ w.heap.size) (ad : Addr) (c : Nat) (m : List UInt8) (hm : ∀ j u, (cellsU m)[j]? = some u → w.cell? (ad.add j) = some u) (hlen : l.length + m.length ≤ 1000000) :
    ∃ v' w', (Builtin.append_ #[51, 51] 51 #[v, .slice (some ad) m.length c]).run Try.prog w = .ok v' w' ∧ Out w' base v' (l ++ m) ∧ Grew base w w' := by
  obtain ⟨i0, hi, hz0, hz1, hz2⟩ := info_parts info5
  obtain ⟨v', w', hr, h1, h2, _, _⟩ := run_append_own_at (P := Try.prog) w base 51 51 5 i0 (.int .u8 0) 1 1 Try.underlying51 hi hz0 hz1 hz2 rfl (by decide) v l.length (cellsU l) h ad m.length c (cellsU m) (by simp [cellsU]) hm (cellsU_one _) (by unfold maxLen; omega) (by omega) hb
  refine ⟨v', w', hr, ?_, grew_append h h2 hb⟩
  rw [← cellsU_append] at h1
  unfold Out
  rw [List.length_append]
  exact h1
theorem run_more_str {w : World} {base : Nat} {v : Value} {l : List UInt8} (h : Out w base v l) (hb : base ≤ w.heap.size) (m : List UInt8) (hlen : l.length + m.length ≤ 1000000) :
    ∃ v' w', (Builtin.append_ #[51, 9] 51 #[v, .string ⟨m.toArray⟩]).run Try.prog w = .ok v' w' ∧ Out w' base v' (l ++ m) ∧ Grew base w w' := by
  obtain ⟨i0, hi, hz0, hz1, hz2⟩ := info_parts info5
  have hsz : (ByteArray.mk m.toArray).size = m.length := by simp [ByteArray.size]
  obtain ⟨v', w', hr, h1, h2, _⟩ := Lib.run_append_own_string (P := Try.prog) w base 51 9 51 5 i0 Try.underlying51 Try.underlying9 hi hz0 hz1 hz2 v l.length (cellsU l) h ⟨m.toArray⟩ (by unfold maxLen; omega) (by omega) hb
  refine ⟨v', w', hr, ?_, grew_append h h2 hb⟩
  have e : Lib.strCells ⟨m.toArray⟩ = cellsU m := by simp [Lib.strCells, cellsU]
  rw [e, hsz, ← cellsU_append] at h1
  unfold Out
  rw [List.length_append]
  exact h1
set_option maxHeartbeats 1000000 in
theorem bput_any (a : Int) (h1 : 0 ≤ a) (h2 : a < 4294967296) (w : World) :
    Calls Try.prog 72 #[.int .u32 a] w fun e w' => e = .returned (.agg #[.int .u8 (a / 16777216), .int .u8 (a / 65536 % 256), .int .u8 (a / 256 % 256), .int .u8 (a % 256)]) ∧ Below w.heap.size w w' := by
  go_enter Try.func72, Try.ntmps72
  go_wp2
  go_rounds 5
  exact bodyPost_ret (v := .agg #[.int .u8 (a / 16777216), .int .u8 (a / 65536 % 256), .int .u8 (a / 256 % 256), .int .u8 (a % 256)]) (by simp [results, Try.results72, go_sem]) rfl ⟨rfl, ((Below.refl _ _).alloc (Nat.le_refl _) _).alloc (by simp) _⟩
theorem cells_put32 (v : Nat) (h : v < 4294967296) : cellsU (put32 v) = [.int .u8 ((v : Int) / 16777216), .int .u8 ((v : Int) / 65536 % 256), .int .u8 ((v : Int) / 256 % 256), .int .u8 ((v : Int) % 256)] := by
  simp only [cellsU, put32, List.map_cons, List.map_nil]
  rw [byte_back (by omega), byte_back (by omega), byte_back (by omega), byte_back (by omega)]
  have e1 : ((v / 16777216 % 256 : Nat) : Int) = (v : Int) / 16777216 := by omega
  have e2 : ((v / 65536 % 256 : Nat) : Int) = (v : Int) / 65536 % 256 := by omega
  have e3 : ((v / 256 % 256 : Nat) : Int) = (v : Int) / 256 % 256 := by omega
  have e4 : ((v % 256 : Nat) : Int) = (v : Int) % 256 := by omega
  rw [e1, e2, e3, e4]
theorem cells_put16 (v : Nat) : cellsU (put16 v) = [.int .u8 ((v : Int) / 256 % 256), .int .u8 ((v : Int) % 256)] := by
  simp only [cellsU, put16, List.map_cons, List.map_nil]
  rw [byte_back (by omega), byte_back (by omega)]
  have e3 : ((v / 256 % 256 : Nat) : Int) = (v : Int) / 256 % 256 := by omega
  have e4 : ((v % 256 : Nat) : Int) = (v : Int) % 256 := by omega
  rw [e3, e4]
def wordsA (vs : List Nat) : Array Value := (vs.map fun x : Nat => Value.int .u32 (x : Int)).toArray
theorem wordsA_get {vs : List Nat} {k : Nat} (h : k < vs.length) : (wordsA vs)[k]? = some (.int .u32 ((vs.getD k 0 : Nat) : Int)) := by
  simp [wordsA, List.getD_eq_getElem?_getD, h]
theorem take_flat (f : Nat → List UInt8) (vs : List Nat) (k : Nat) (h : k < vs.length) : (vs.take (k + 1)).flatMap f = (vs.take k).flatMap f ++ f (vs.getD k 0) := by
  rw [List.take_add_one, List.flatMap_append, List.getElem?_eq_getElem h, List.getD_eq_getElem?_getD, List.getElem?_eq_getElem h]
  simp
theorem flat32_len (vs : List Nat) : (vs.flatMap put32).length = 4 * vs.length := by
  induction vs with
  | nil => rfl
  | cons x t ih => rw [List.flatMap_cons, List.length_append, ih, put32_len, List.length_cons]; omega
theorem flat16_len (vs : List Nat) : (vs.flatMap put16).length = 2 * vs.length := by
  induction vs with
  | nil => rfl
  | cons x t ih => rw [List.flatMap_cons, List.length_append, ih, put16_len, List.length_cons]; omega
set_option maxRecDepth 20000 in
set_option maxHeartbeats 1000000 in
theorem putWords_any (w : World) (base vb n : Nat) (v : Value) (l : List UInt8) (vs : List Nat) (hn : n = vs.length) (h : Out w base v l) (hb : base ≤ w.heap.size) (hvb : Blk w vb (wordsA vs) 22) (hv : ∀ x ∈ vs, x < 4294967296) (hlen : l.length + 4 * vs.length ≤ 100000) :
    Calls Try.prog 51 #[v, .slice (some ⟨vb, 0, none⟩) n n] w fun e w' => ∃ v', e = .returned v' ∧ Out w' base v' (l ++ vs.flatMap put32) ∧ Grew base w w' := by
  have hvs : vs.length ≤ 25000 := by omega
  have H := hidden h
  have HV := hidden hvb
  have HLT := hidden hv
  have HN := hidden hn
  have hn2 : n ≤ 25000 := by omega
  clear h hvb hv hn
  go_enter Try.func51, Try.ntmps51
  go_wp2
  go_loopw [0, 10] (fun x0 x10 wr => ∃ k : Nat, k ≤ n ∧ x10 = .int .i64 (k : Int) ∧ Out wr base x0 (l ++ (vs.take k).flatMap put32) ∧ Grew base w wr) (fun x0 x10 _ => n - (intOf x10).toNat)
  case atStart => exact ⟨0, by omega, rfl, by simpa using Hid.out H, Grew.refl _ _⟩
  case round =>
    obtain ⟨k, hk, rfl, ho, hg⟩ := hrel
    have HG := hidden hg
    by_cases hkn : k < n
    · have hkn2 : (k : Int) < (n : Int) := by omega
      obtain ⟨x, hx⟩ : ∃ x, x = vs.getD k 0 := ⟨_, rfl⟩
      have hkv : k < vs.length := by have := Hid.out HN; omega
      have hxm : x < 4294967296 := by
        rw [hx, List.getD_eq_getElem?_getD, List.getElem?_eq_getElem hkv, Option.getD_some]
        exact Hid.out HLT _ (List.getElem_mem hkv)
      have hvk := hg.keep _ _ _ (by decide) (Hid.out HV)
      have hvlt := hvk.lt
      have hc : wr.cell? ⟨vb, k, none⟩ = some (.int .u32 (x : Int)) := by
        have := hvk.cell (wordsA_get hkv)
        rw [← hx] at this
        exact this
      have hll : (l ++ (vs.take k).flatMap put32).length + 4 ≤ 1000000 := by
        rw [List.length_append, flat32_len, List.length_take]
        omega
      have HAP : Hid (∀ w1, Below wr.heap.size wr w1 → ∃ v' w', (Builtin.append_ #[51, 51] 51 #[u0, .slice (some ⟨w1.heap.size, 0, none⟩) 4 4]).run Try.prog (w1.alloc (.cells #[.int .u8 ((x : Int) / 16777216), .int .u8 ((x : Int) / 65536 % 256), .int .u8 ((x : Int) / 256 % 256), .int .u8 ((x : Int) % 256)] 112)) = .ok v' w' ∧ Out w' base v' (l ++ (vs.take (k + 1)).flatMap put32) ∧ Grew base w w') := by
        intro w1 hb1
        have hb2 := hb1.alloc hb1.size (.cells #[.int .u8 ((x : Int) / 16777216), .int .u8 ((x : Int) / 65536 % 256), .int .u8 ((x : Int) / 256 % 256), .int .u8 ((x : Int) % 256)] 112)
        have hbs : base ≤ (w1.alloc (.cells #[.int .u8 ((x : Int) / 16777216), .int .u8 ((x : Int) / 65536 % 256), .int .u8 ((x : Int) / 256 % 256), .int .u8 ((x : Int) % 256)] 112)).heap.size := Nat.le_trans hb (Nat.le_trans hg.size hb2.size)
        have hnew := Blk.new w1 #[.int .u8 ((x : Int) / 16777216), .int .u8 ((x : Int) / 65536 % 256), .int .u8 ((x : Int) / 256 % 256), .int .u8 ((x : Int) % 256)] 112
        obtain ⟨v', w', hr, h1, h2⟩ := run_more (ho.later hb2) hbs ⟨w1.heap.size, 0, none⟩ 4 (put32 x) (by
          intro j u hu
          rw [cells_put32 x hxm] at hu
          rw [Addr.add_lit]
          refine hnew.cell ?_
          rw [Nat.zero_add]
          simpa using hu) hll
        refine ⟨v', w', hr, ?_, hg.trans ((Grew.of hb2 (Nat.le_trans hb hg.size)).trans h2)⟩
        rw [take_flat _ _ _ hkv, ← hx, ← List.append_assoc]
        exact h1
      have H42 := fun w => hidden (bput_any (x : Int) (by omega) (by omega) w)
      clear ho hg hvk hx
      go_wp2_with (first | (go_at_call 72; with_reducible refine (Hid.out (H42 _)).mono ?_; rintro e w1 ⟨rfl, hb1⟩; obtain ⟨v', w', hr, ho1, hg1⟩ := Hid.out HAP w1 hb1; have HO1 := hidden ho1; have HG1 := hidden hg1; have HR := hidden hr; clear hb1 ho1 hg1 hr) | (at_builtin; refine wpList_append_run rfl _ _ 51 51 rfl rfl rfl (Hid.out HR) ?_))
      go_roundw
      case rel => first | exact ⟨k + 1, by omega, by simp, Hid.out HO1, Hid.out HG1⟩ | ((repeat apply Exists.intro); first | exact ⟨⟨k + 1, by omega, by simp, Hid.out HO1, Hid.out HG1⟩, rfl⟩ | exact ⟨⟨k + 1, by omega, by simp, Hid.out HO1, Hid.out HG1⟩, rfl, rfl⟩ | exact ⟨⟨k + 1, by omega, by simp, Hid.out HO1, Hid.out HG1⟩, rfl, rfl, rfl⟩)
      case measure => simp [intOf]; omega
    · have hkn2 : ¬ (k : Int) < (n : Int) := by omega
      have HO : Hid (Out wr base u0 (l ++ vs.flatMap put32)) := by
        have h2 := Hid.out HN
        rw [List.take_of_length_le (by omega)] at ho
        exact ho
      clear ho hg
      go_wp2
      go_ret
      exact ⟨_, rfl, Hid.out HO, Hid.out HG⟩
set_option maxRecDepth 20000 in
set_option maxHeartbeats 1000000 in
theorem putHalves_any (w : World) (base vb n : Nat) (v : Value) (l : List UInt8) (vs : List Nat) (hn : n = vs.length) (h : Out w base v l) (hb : base ≤ w.heap.size) (hvb : Blk w vb (wordsA vs) 22) (hv : ∀ x ∈ vs, x < 4294967296) (hlen : l.length + 2 * vs.length ≤ 100000) :
    Calls Try.prog 71 #[v, .slice (some ⟨vb, 0, none⟩) n n] w fun e w' => ∃ v', e = .returned v' ∧ Out w' base v' (l ++ vs.flatMap put16) ∧ Grew base w w' := by
  have hvs : vs.length ≤ 50000 := by omega
  have H := hidden h
  have HV := hidden hvb
  have HLT := hidden hv
  have HN := hidden hn
  have hn2 : n ≤ 50000 := by omega
  clear h hvb hv hn
  go_enter Try.func71, Try.ntmps71
  go_wp2
  go_loopw [0, 10] (fun x0 x10 wr => ∃ k : Nat, k ≤ n ∧ x10 = .int .i64 (k : Int) ∧ Out wr base x0 (l ++ (vs.take k).flatMap put16) ∧ Grew base w wr) (fun x0 x10 _ => n - (intOf x10).toNat)
  case atStart => exact ⟨0, by omega, rfl, by simpa using Hid.out H, Grew.refl _ _⟩
  case round =>
    obtain ⟨k, hk, rfl, ho, hg⟩ := hrel
    have HG := hidden hg
    by_cases hkn : k < n
    · have hkn2 : (k : Int) < (n : Int) := by omega
      obtain ⟨x, hx⟩ : ∃ x, x = vs.getD k 0 := ⟨_, rfl⟩
      have hkv : k < vs.length := by have := Hid.out HN; omega
      have hxm : x < 4294967296 := by
        rw [hx, List.getD_eq_getElem?_getD, List.getElem?_eq_getElem hkv, Option.getD_some]
        exact Hid.out HLT _ (List.getElem_mem hkv)
      have hvk := hg.keep _ _ _ (by decide) (Hid.out HV)
      have hvlt := hvk.lt
      have hc : wr.cell? ⟨vb, k, none⟩ = some (.int .u32 (x : Int)) := by
        have := hvk.cell (wordsA_get hkv)
        rw [← hx] at this
        exact this
      have hll : (l ++ (vs.take k).flatMap put16).length + 2 ≤ 1000000 := by
        rw [List.length_append, flat16_len, List.length_take]
        omega
      have HAP : Hid (∀ w1, Below wr.heap.size wr w1 → ∃ v' w', (Builtin.append_ #[51, 51] 51 #[u0, .slice (some ⟨w1.heap.size, 2, none⟩) 2 2]).run Try.prog (w1.alloc (.cells #[.int .u8 ((x : Int) / 16777216), .int .u8 ((x : Int) / 65536 % 256), .int .u8 ((x : Int) / 256 % 256), .int .u8 ((x : Int) % 256)] 112)) = .ok v' w' ∧ Out w' base v' (l ++ (vs.take (k + 1)).flatMap put16) ∧ Grew base w w') := by
        intro w1 hb1
        have hb2 := hb1.alloc hb1.size (.cells #[.int .u8 ((x : Int) / 16777216), .int .u8 ((x : Int) / 65536 % 256), .int .u8 ((x : Int) / 256 % 256), .int .u8 ((x : Int) % 256)] 112)
        have hbs : base ≤ (w1.alloc (.cells #[.int .u8 ((x : Int) / 16777216), .int .u8 ((x : Int) / 65536 % 256), .int .u8 ((x : Int) / 256 % 256), .int .u8 ((x : Int) % 256)] 112)).heap.size := Nat.le_trans hb (Nat.le_trans hg.size hb2.size)
        have hnew := Blk.new w1 #[.int .u8 ((x : Int) / 16777216), .int .u8 ((x : Int) / 65536 % 256), .int .u8 ((x : Int) / 256 % 256), .int .u8 ((x : Int) % 256)] 112
        obtain ⟨v', w', hr, h1, h2⟩ := run_more (ho.later hb2) hbs ⟨w1.heap.size, 2, none⟩ 2 (put16 x) (by
          intro j u hu
          rw [cells_put16 x] at hu
          rw [Addr.add_lit]
          refine hnew.cell ?_
          match j, hu with
          | 0, hu => exact hu
          | 1, hu => exact hu
          | j + 2, hu => simp at hu) hll
        refine ⟨v', w', hr, ?_, hg.trans ((Grew.of hb2 (Nat.le_trans hb hg.size)).trans h2)⟩
        rw [take_flat _ _ _ hkv, ← hx, ← List.append_assoc]
        exact h1
      have H42 := fun w => hidden (bput_any (x : Int) (by omega) (by omega) w)
      clear ho hg hvk hx
      go_wp2_with (first | (go_at_call 72; with_reducible refine (Hid.out (H42 _)).mono ?_; rintro e w1 ⟨rfl, hb1⟩; obtain ⟨v', w', hr, ho1, hg1⟩ := Hid.out HAP w1 hb1; have HO1 := hidden ho1; have HG1 := hidden hg1; have HR := hidden hr; clear hb1 ho1 hg1 hr) | (at_builtin; refine wpList_append_run rfl _ _ 51 51 rfl rfl rfl (Hid.out HR) ?_))
      go_roundw
      case rel => first | exact ⟨k + 1, by omega, by simp, Hid.out HO1, Hid.out HG1⟩ | ((repeat apply Exists.intro); first | exact ⟨⟨k + 1, by omega, by simp, Hid.out HO1, Hid.out HG1⟩, rfl⟩ | exact ⟨⟨k + 1, by omega, by simp, Hid.out HO1, Hid.out HG1⟩, rfl, rfl⟩ | exact ⟨⟨k + 1, by omega, by simp, Hid.out HO1, Hid.out HG1⟩, rfl, rfl, rfl⟩)
      case measure => simp [intOf]; omega
    · have hkn2 : ¬ (k : Int) < (n : Int) := by omega
      have HO : Hid (Out wr base u0 (l ++ vs.flatMap put16)) := by
        have h2 := Hid.out HN
        rw [List.take_of_length_le (by omega)] at ho
        exact ho
      clear ho hg
      go_wp2
      go_ret
      exact ⟨_, rfl, Hid.out HO, Hid.out HG⟩
end Go.Proofs.Ytpknppicamefgaa
namespace Go.Proofs.Ytpknppicamefgaa
open Go.ChangeShapes Go.WideShapes Go.ChangeAt Go.RowKit
set_option linter.unusedVariables false
set_option maxRecDepth 20000 in
theorem run_app9 (w : World) (g : Nat) (hc : ∀ j u, (cellsU (magicB ++ classB))[j]? = some u → w.cell? ((⟨g, 0, none⟩ : Addr).add j) = some u) :
    (Builtin.append_ #[51, 3] 51 #[.slice (some ⟨g, 0, none⟩) 7 7, .int .i64 9]).run Try.prog w = .ok (.slice (some ⟨w.heap.size, 0, none⟩) 16 (grownCap w 16 7 5)) (w.drew.alloc (.cells ((cellsU (magicB ++ classB ++ padB)).toArray ++ Builtin.zeroCells #[.int .u8 0] (grownCap w 16 7 5 - 16)) 5)) := by
  obtain ⟨i0, hi, hz0, hz1, hz2⟩ := info_parts info5
  have hfo := run_firstCells_some (P := Try.prog) w.drew i0.size 7 ⟨g, 0, none⟩ 7 7 (cellsU (magicB ++ classB)) (by rw [hz1]; rfl) (by simpa using hc)
  have hw : IntKind.i64.wrap 9 = 9 := by decide
  have hns : Builtin.nextslicecap 16 7 = 16 := by decide
  have hpad : Builtin.zeroCells #[Value.int .u8 0] 9 = (cellsU padB).toArray := by kernel_rfl
  have hmx : ¬ ((9223372036854775807 : Int) < 7 + max 9 0) := by omega
  rw [hz1] at hfo
  simp [Builtin.append_, run_underlying Try.underlying51, run_underlying Try.underlying3, sizeOf, typeInfo, zeroValue, hi, hz0, hz1, hz2, asInt, asIntOf, Question.forced, hfo, newRow, grownCap, hw, hns, Value.cells, hpad, hmx, cellsU_append]
  congr 2
  apply Array.ext'
  simp [List.append_assoc]
theorem out_16 (w : World) (base : Nat) (hb : base ≤ w.heap.size) : Out (w.drew.alloc (.cells ((cellsU (magicB ++ classB ++ padB)).toArray ++ Builtin.zeroCells #[.int .u8 0] (grownCap w 16 7 5 - 16)) 5)) base (.slice (some ⟨w.heap.size, 0, none⟩) 16 (grownCap w 16 7 5)) (magicB ++ classB ++ padB) := by
  have hge := grownCap_ge w 16 7 5
  have hcm : grownCap w 16 7 5 ≤ maxLen := grownCap_le_maxLen w 16 7 5 (by unfold maxLen; omega)
  refine ⟨rfl, .inr ⟨w.heap.size, _, _, rfl, hb, heap_alloc_new w.drew _, hge, hcm, ?_, ?_⟩⟩
  · have : (cellsU (magicB ++ classB ++ padB)).toArray.size = 16 := rfl
    rw [Array.size_append, size_zeroCells, this]
    show 16 + (grownCap w 16 7 5 - 16) * 1 = _
    omega
  · rw [Array.toList_append]
    exact List.take_left' rfl
theorem lit2 (a b : Nat) : (#[Value.int .u32 (a : Int), .int .u32 (b : Int)] : Array Value) = wordsA [a, b] := rfl
set_option maxRecDepth 20000 in
set_option maxHeartbeats 1000000 in
theorem header_any (w : World) (ent n : Nat) (he : ent < 4294967296) (hn : n ≤ 8) : Calls Try.prog 50 #[.int .u32 (ent : Int), .int .i64 (n : Int)] w fun e w' => ∃ v', e = .returned v' ∧ Out w' w.heap.size v' (headB ent n) ∧ Below w.heap.size w w' := by
  have hcv := Lib.run_convert_bytes_const (P := Try.prog) w 51 5 (cellsU (magicB ++ classB)).toArray 7 7 Try.underlying51 Try.underlying5
  obtain ⟨w1, hw1⟩ : ∃ w1, w1 = w.alloc (.cells (cellsU (magicB ++ classB)).toArray 5 ((cellsU (magicB ++ classB)).toArray.size, (cellsU (magicB ++ classB)).toArray.size + 1)) := ⟨_, rfl⟩
  have hb1 : Below w.heap.size w w1 := by rw [hw1]; exact below_new w _
  have hc1 : ∀ j u, (cellsU (magicB ++ classB))[j]? = some u → w1.cell? ((⟨w.heap.size, 0, none⟩ : Addr).add j) = some u := by
    intro j u hu
    rw [hw1, Addr.add_lit, Nat.zero_add]
    refine (World.cell?_alloc_mark w _ 5 _ j).trans ?_
    simpa using hu
  rw [← hw1] at hcv
  have hap := run_app9 w1 w.heap.size hc1
  have ho2 := out_16 w1 w.heap.size hb1.size
  have hb2 : Below w.heap.size w (w1.drew.alloc (.cells ((cellsU (magicB ++ classB ++ padB)).toArray ++ Builtin.zeroCells #[.int .u8 0] (grownCap w1 16 7 5 - 16)) 5)) := bthen hb1 ((Below.refl _ _).drew.alloc (by simp) _)
  generalize w1.drew.alloc (.cells ((cellsU (magicB ++ classB ++ padB)).toArray ++ Builtin.zeroCells #[.int .u8 0] (grownCap w1 16 7 5 - 16)) 5) = w2 at hap ho2 hb2
  generalize Value.slice (some ⟨w1.heap.size, 0, none⟩) 16 (grownCap w1 16 7 5) = v2 at hap ho2
  have HAP := hidden hap
  have HB2 := hidden hb2
  have hlits : (cellsU (magicB ++ classB)).toArray = #[.int .u8 127, .int .u8 69, .int .u8 76, .int .u8 70, .int .u8 1, .int .u8 2, .int .u8 1] := rfl
  rw [hlits] at hcv
  have H41 : Hid (Calls Try.prog 71 #[v2, .slice (some ⟨w2.heap.size, 0, none⟩) 2 2] (w2.alloc (.cells #[.int .u32 2, .int .u32 8] 22)) fun e w' => ∃ v', e = .returned v' ∧ Out w' w.heap.size v' (magicB ++ classB ++ padB ++ (put16 2 ++ put16 8)) ∧ Below w.heap.size w w') := by
    refine (putHalves_any _ w.heap.size w2.heap.size 2 v2 _ [2, 8] rfl (ho2.later (below_new w2 _)) (Nat.le_trans hb2.size (below_new w2 _).size) (Blk.new w2 _ 22) (by simp) (by simp [magicB, classB, padB])).mono ?_
    rintro e w' ⟨v', h1, h2, h3⟩
    exact ⟨v', h1, h2, (hb2.trans ((below_new w2 _).mono hb2.size)).trans h3.below⟩
  have H30 : Hid (∀ v3 w3, Out w3 w.heap.size v3 (magicB ++ classB ++ padB ++ (put16 2 ++ put16 8)) → Below w.heap.size w w3 → Calls Try.prog 51 #[v3, .slice (some ⟨w3.heap.size, 0, none⟩) 5 5] (w3.alloc (.cells #[.int .u32 1, .int .u32 (ent : Int), .int .u32 52, .int .u32 0, .int .u32 0] 22)) fun e w' => ∃ v', e = .returned v' ∧ Out w' w.heap.size v' (magicB ++ classB ++ padB ++ (put16 2 ++ put16 8) ++ (put32 1 ++ put32 ent ++ put32 52 ++ put32 0 ++ put32 0)) ∧ Below w.heap.size w w') := by
    intro v3 w3 ho3 hb3
    refine (putWords_any _ w.heap.size w3.heap.size 5 v3 _ [1, ent, 52, 0, 0] rfl (ho3.later (below_new w3 _)) (Nat.le_trans hb3.size (below_new w3 _).size) (Blk.new w3 _ 22) (by simp; omega) (by simp [magicB, classB, padB, put16])).mono ?_
    rintro e w' ⟨v', h1, h2, h3⟩
    refine ⟨v', h1, ?_, (hb3.trans ((below_new w3 _).mono hb3.size)).trans h3.below⟩
    have e1 : [1, ent, 52, 0, 0].flatMap put32 = put32 1 ++ put32 ent ++ put32 52 ++ put32 0 ++ put32 0 := by simp
    rw [e1] at h2
    exact h2
  have H41b : Hid (∀ v3 w3, Out w3 w.heap.size v3 (magicB ++ classB ++ padB ++ (put16 2 ++ put16 8) ++ (put32 1 ++ put32 ent ++ put32 52 ++ put32 0 ++ put32 0)) → Below w.heap.size w w3 → Calls Try.prog 71 #[v3, .slice (some ⟨w3.heap.size, 0, none⟩) 6 6] (w3.alloc (.cells #[.int .u32 52, .int .u32 32, .int .u32 (n : Int), .int .u32 0, .int .u32 0, .int .u32 0] 22)) fun e w' => ∃ v', e = .returned v' ∧ Out w' w.heap.size v' (headB ent n) ∧ Below w.heap.size w w') := by
    intro v3 w3 ho3 hb3
    refine (putHalves_any _ w.heap.size w3.heap.size 6 v3 _ [52, 32, n, 0, 0, 0] rfl (ho3.later (below_new w3 _)) (Nat.le_trans hb3.size (below_new w3 _).size) (Blk.new w3 _ 22) (by simp; omega) (by simp [magicB, classB, padB, put16, put32])).mono ?_
    rintro e w' ⟨v', h1, h2, h3⟩
    refine ⟨v', h1, ?_, (hb3.trans ((below_new w3 _).mono hb3.size)).trans h3.below⟩
    have e1 : [52, 32, n, 0, 0, 0].flatMap put16 = put16 52 ++ put16 32 ++ put16 n ++ put16 0 ++ put16 0 ++ put16 0 := by simp
    rw [e1] at h2
    exact h2
  clear hap ho2 hb2 hlits hc1 hw1 hb1
  have hn2 : (n : Int) % 4294967296 = (n : Int) := by omega
  go_enter Try.func50, Try.ntmps50
  go_wp2_with (first | (at_builtin; refine wpList_append_run rfl _ _ 51 3 rfl rfl rfl (Hid.out HAP) ?_) | (go_at_call 71; first | (with_reducible refine (Hid.out H41).mono ?_; rintro e w3 ⟨v3, rfl, ho3, hb3⟩; have HC := hidden (Hid.out H30 v3 w3 ho3 hb3); clear ho3 hb3 H41) | (with_reducible refine (Hid.out HD).mono ?_; rintro e w5 ⟨v5, rfl, ho5, hb5⟩; have HO5 := hidden ho5; have HB5 := hidden hb5; clear ho5 hb5)) | (go_at_call 51; with_reducible refine (Hid.out HC).mono ?_; rintro e w4 ⟨v4, rfl, ho4, hb4⟩; have HD := hidden (Hid.out H41b v4 w4 ho4 hb4); clear ho4 hb4))
  go_ret
  exact ⟨_, rfl, Hid.out HO5, Hid.out HB5⟩
end Go.Proofs.Ytpknppicamefgaa
namespace Go.Proofs.Ytpknppicamefgaa
open Go.ChangeShapes Go.WideShapes Go.ChangeAt Go.RowKit
set_option linter.unusedVariables false
theorem take_one (l : List Sg) (k : Nat) (h : k < l.length) : l.take (k + 1) = l.take k ++ [l.getD k nosg] := by
  rw [List.take_add_one, List.getElem?_eq_getElem h, List.getD_eq_getElem?_getD, List.getElem?_eq_getElem h]
  rfl
theorem datas_len {l : List Sg} (h : l.all okB = true) : ∀ k, k ≤ l.length → (datasB (l.take k)).length ≤ 16384 * k
  | 0, _ => by simp [datasB]
  | k + 1, hk => by
    have ih := datas_len h k (by omega)
    have := ok_size (all_get h (show k < l.length by omega))
    rw [take_one l k (by omega), datasB_snoc, List.length_append]
    omega
theorem out_nil (w : World) (base : Nat) : Out w base (.slice none 0 0) [] := World.ownsRow_nil w base 5 1
theorem grew_blk {base : Nat} {w w' : World} {n : Nat} {cs : Array Value} {T : TypeId} (h : Blk w n cs T) (g : Grew base w w') (hT : T ≠ 5) : Blk w' n cs T := g.keep n cs T hT h
set_option maxRecDepth 20000 in
set_option maxHeartbeats 4000000 in
theorem make_any (w : World) (ao : Option Addr) (cap ent : Nat) (l : List Sg) (h : Segs w ao l) (hcap : l.length ≤ cap) (hmax : cap ≤ 9223372036854775807) (he : ent < 4294967296) : Calls Try.prog 21 #[.agg #[.int .u32 (ent : Int), .slice ao l.length cap]] w fun e w' => ∃ v', e = .returned (.tuple #[v', .int .i64 ((makeE ent l).2 : Int)]) ∧ Out w' w.heap.size v' (makeE ent l).1 ∧ Below w.heap.size w w' := by
  have hb0 : Below w.heap.size w (w.alloc (.cells #[.int .u32 (ent : Int), .slice ao l.length cap] 25)) := below_new w _
  have hg0 := Blk.new w #[.int .u32 (ent : Int), .slice ao l.length cap] 25
  have H16 : Hid (Calls Try.prog 15 #[.agg #[.int .u32 (ent : Int), .slice ao l.length cap]] (w.alloc (.cells #[.int .u32 (ent : Int), .slice ao l.length cap] 25)) fun e w' => e = .returned (.int .i64 (checkE ent l : Int)) ∧ Below w.heap.size w w' ∧ Blk w' w.heap.size #[.int .u32 (ent : Int), .slice ao l.length cap] 25) := by
    refine (check_any _ ao cap ent l (h.later hb0) hcap hmax he).mono ?_
    rintro e w' ⟨h1, h2⟩
    exact ⟨h1, bthen hb0 h2, hg0.later h2⟩
  have H := hidden h
  clear h hb0 hg0
  by_cases hc : checkE ent l = 0
  case neg =>
    have HE : Hid (makeE ent l = ([], checkE ent l)) := by
      show makeE ent l = _
      unfold makeE
      rw [if_pos hc]
    rw [Hid.out HE]
    simp only
    have hc2 : ¬ ((checkE ent l : Nat) : Int) = 0 := by omega
    generalize checkE ent l = c at H16 hc2
    go_enter Try.func21, Try.ntmps21
    go_wp2_with (go_at_call 15; with_reducible refine (Hid.out H16).mono ?_; rintro e w1 ⟨rfl, hb1, hg1⟩; have HB1 := hidden hb1; clear hb1 hg1)
    go_ret2
    exact ⟨_, rfl, out_nil _ _, Hid.out HB1⟩
  rw [hc] at H16
  obtain ⟨h8, hok, _, _⟩ := check_zero hc
  have HOK := hidden hok
  have hdl := datas_len hok l.length (Nat.le_refl _)
  rw [List.take_length] at hdl
  have h82 : (l.length : Int) ≤ 8 := by omega
  have HM : Hid (makeE ent l = if 16384 < 52 + 32 * l.length + (datasB l).length then ([], 2) else (fileB ent l, 0)) := by
    show makeE ent l = _
    unfold makeE
    rw [if_neg (by omega), fileB_len]
  clear hok
  have H29 : Hid (∀ w1, Below w.heap.size w w1 → Blk w1 w.heap.size #[.int .u32 (ent : Int), .slice ao l.length cap] 25 → Calls Try.prog 50 #[.int .u32 (ent : Int), .int .i64 (l.length : Int)] w1 fun e w' => ∃ v', e = .returned v' ∧ Out w' w.heap.size v' (headB ent l.length) ∧ Grew w.heap.size w w' ∧ Blk w' w.heap.size #[.int .u32 (ent : Int), .slice ao l.length cap] 25) := by
    intro w1 hb1 hg1
    refine (header_any w1 ent l.length he h8).mono ?_
    rintro e w' ⟨v', h1, h2, h3⟩
    have hs : w.heap.size ≤ w1.heap.size := hb1.size
    refine ⟨v', h1, h2.mono hs, ⟨hb1.trans (h3.mono hs), ?_⟩, hg1.later h3⟩
    intro k cs T hT hk
    have hlt : k < w.heap.size := hk.lt
    exact ((hb1.trans (h3.mono hs)).block k hlt).trans hk
  go_enter Try.func21, Try.ntmps21
  go_wp2_with (first | (go_at_call 15; with_reducible refine (Hid.out H16).mono ?_; rintro e w1 ⟨rfl, hb1, hg1⟩; have hlt1 := Blk.lt hg1; have f0 : w1.cell? ⟨w.heap.size, 0, none⟩ = some (.int .u32 (ent : Int)) := Blk.cell hg1 rfl; have f1 : w1.cell? ⟨w.heap.size, 1, none⟩ = some (.slice ao l.length cap) := Blk.cell hg1 rfl; have HC := hidden (Hid.out H29 w1 hb1 hg1); clear hb1 hg1) | (go_at_call 50; with_reducible refine (Hid.out HC).mono ?_; rintro e w2 ⟨v2, rfl, ho2, hb2, hg2⟩; have k1 : w2.cell? ⟨w.heap.size, 1, none⟩ = some (.slice ao l.length cap) := Blk.cell hg2 rfl; have hlt2 := Blk.lt hg2; have HO2 := hidden ho2; have HB2 := hidden hb2; have HG2 := hidden hg2; clear ho2 hb2 hg2 f0 f1 hlt1))
  obtain ⟨n, hn⟩ : ∃ n, n = w.heap.size := ⟨_, rfl⟩
  have HNN := hidden hn
  rw [← hn] at HO2 HB2 HG2 ⊢
  clear hn hlt2 k1 H16 H29 HC
  go_loopw [5, 6, 30] (fun x5 x6 x30 wr => ∃ k : Nat, k ≤ l.length ∧ x30 = .int .i64 (k : Int) ∧ x6 = .int .i64 ((52 + 32 * l.length + (datasB (l.take k)).length : Nat) : Int) ∧ Out wr n x5 (headB ent l.length ++ rowsB (52 + 32 * l.length) (l.take k)) ∧ Grew n w wr ∧ Blk wr n #[.int .u32 (ent : Int), .slice ao l.length cap] 25) (fun x5 x6 x30 _ => l.length - (intOf x30).toNat)
  case atStart => exact ⟨0, by omega, rfl, by simp [datasB], by simpa [rowsB] using Hid.out HO2, Hid.out HB2, Hid.out HG2⟩
  case round =>
    obtain ⟨k, hk, rfl, rfl, ho, hg, hbk⟩ := hrel
    have HG := hidden hg
    have hnlt := hbk.lt
    have hdk := datas_len (Hid.out HOK) k hk
    by_cases hkl : k < l.length
    · have hbw : Below w.heap.size w wr := by have := hg.below; rw [Hid.out HNN] at this; exact this
      obtain ⟨b, off, rfl, hlt, hcs⟩ := ((Hid.out H).later hbw).at hkl
      have hts := take_one l k hkl
      have hsok := ok_size (all_get (Hid.out HOK) hkl)
      have hat := hcs k hkl
      generalize l.getD k nosg = s at hts hsok hat
      obtain ⟨at_, data, size, perm⟩ := s
      obtain ⟨z1, z2, z3, z4, z5, z6⟩ := hsok
      obtain ⟨c0, c1, c2, c3, _⟩ := hat
      simp only at z1 z2 z3 z4 z5 z6 c0 c1 c2 c3
      obtain ⟨p, rfl⟩ := Int.eq_ofNat_of_zero_le z5
      have hkl2 : (k : Int) < (l.length : Int) := by omega
      obtain ⟨E, hE⟩ : ∃ E, E = 52 + 32 * l.length + (datasB (l.take k)).length := ⟨_, rfl⟩
      have hE2 : E ≤ 200000 := by omega
      have hds : (ByteArray.mk data.toArray).size = data.length := by simp [ByteArray.size]
      have H30 : Hid (Calls Try.prog 51 #[u5, .slice (some ⟨wr.heap.size + 1, 0, none⟩) 8 8] ((wr.alloc (.cells #[.int .u32 (at_ : Int), .string ⟨data.toArray⟩, .int .u32 (size : Int), .int .i64 (p : Int)] 44)).alloc (.cells #[.int .u32 1, .int .u32 (E : Int), .int .u32 (at_ : Int), .int .u32 (at_ : Int), .int .u32 (data.length : Int), .int .u32 (size : Int), .int .u32 (p : Int), .int .u32 4] 22)) fun e w' => ∃ v', e = .returned v' ∧ Out w' n v' (headB ent l.length ++ rowsB (52 + 32 * l.length) (l.take (k + 1))) ∧ Grew n w w' ∧ Blk w' n #[.int .u32 (ent : Int), .slice (some ⟨b, off, none⟩) l.length cap] 25 ∧ Blk w' wr.heap.size #[.int .u32 (at_ : Int), .string ⟨data.toArray⟩, .int .u32 (size : Int), .int .i64 (p : Int)] 44) := by
        have hb1 := below_new wr (.cells #[.int .u32 (at_ : Int), .string ⟨data.toArray⟩, .int .u32 (size : Int), .int .i64 (p : Int)] 44)
        have hb2 := bthen hb1 (below_new (wr.alloc (.cells #[.int .u32 (at_ : Int), .string ⟨data.toArray⟩, .int .u32 (size : Int), .int .i64 (p : Int)] 44)) (.cells #[.int .u32 1, .int .u32 (E : Int), .int .u32 (at_ : Int), .int .u32 (at_ : Int), .int .u32 (data.length : Int), .int .u32 (size : Int), .int .u32 (p : Int), .int .u32 4] 22))
        have hnw : n ≤ wr.heap.size := Nat.le_of_lt hnlt
        have hS := (Blk.new wr #[.int .u32 (at_ : Int), .string ⟨data.toArray⟩, .int .u32 (size : Int), .int .i64 (p : Int)] 44).later (below_new _ (.cells #[.int .u32 1, .int .u32 (E : Int), .int .u32 (at_ : Int), .int .u32 (at_ : Int), .int .u32 (data.length : Int), .int .u32 (size : Int), .int .u32 (p : Int), .int .u32 4] 22))
        have hW := Blk.new (wr.alloc (.cells #[.int .u32 (at_ : Int), .string ⟨data.toArray⟩, .int .u32 (size : Int), .int .i64 (p : Int)] 44)) #[.int .u32 1, .int .u32 (E : Int), .int .u32 (at_ : Int), .int .u32 (at_ : Int), .int .u32 (data.length : Int), .int .u32 (size : Int), .int .u32 (p : Int), .int .u32 4] 22
        rw [World.size_alloc] at hW
        refine (putWords_any _ n _ 8 u5 _ [1, E, at_, at_, data.length, size, p, 4] rfl (ho.later hb2) (Nat.le_trans hnw hb2.size) hW (by simp; omega) ?_).mono ?_
        · rw [List.length_append, headB_len, rowsB_len, List.length_take]
          simp
          omega
        · rintro e w' ⟨v', h1, h2, h3⟩
          refine ⟨v', h1, ?_, hg.trans ((Grew.of hb2 hnw).trans h3), h3.keep _ _ _ (by decide) (hbk.later hb2), h3.keep _ _ _ (by decide) hS⟩
          rw [hts, rowsB_snoc, ← hE, ← List.append_assoc]
          have e1 : [1, E, at_, at_, data.length, size, p, 4].flatMap put32 = rowB E ⟨at_, data, size, (p : Int)⟩ := by simp [rowB]
          rw [e1] at h2
          exact h2
      have HE : Hid ((datasB (l.take (k + 1))).length = (datasB (l.take k)).length + data.length) := by
        show _ = _
        rw [hts, datasB_snoc, List.length_append]
      have HEE := hidden hE
      rw [← hE]
      clear ho hg hbk hts hcs hbw hE hdk
      have q1 : (E : Int) % 4294967296 = (E : Int) := by omega
      have q2 : (data.length : Int) % 4294967296 = (data.length : Int) := by omega
      have q3 : (p : Int) % 4294967296 = (p : Int) := by omega
      go_wp2_with (go_at_call 51; with_reducible refine (Hid.out H30).mono ?_; rintro e w3 ⟨v3, rfl, ho3, hg3, hbk3, hS3⟩; have s1 : w3.cell? ⟨wr.heap.size, 1, none⟩ = some (.string ⟨data.toArray⟩) := Blk.cell hS3 rfl; have hS3l := Blk.lt hS3; have HO3 := hidden ho3; have HG3 := hidden hg3; have HBK3 := hidden hbk3; clear ho3 hg3 hbk3 hS3)
      go_roundw
      case rel => first | exact ⟨k + 1, by omega, by simp, by rw [Hid.out HE, Hid.out HEE]; congr 1; omega, Hid.out HO3, Hid.out HG3, Hid.out HBK3⟩ | ((repeat apply Exists.intro); first | exact ⟨⟨k + 1, by omega, by simp, by rw [Hid.out HE, Hid.out HEE]; congr 1; omega, Hid.out HO3, Hid.out HG3, Hid.out HBK3⟩, rfl⟩ | exact ⟨⟨k + 1, by omega, by simp, by rw [Hid.out HE, Hid.out HEE]; congr 1; omega, Hid.out HO3, Hid.out HG3, Hid.out HBK3⟩, rfl, rfl⟩ | exact ⟨⟨k + 1, by omega, by simp, by rw [Hid.out HE, Hid.out HEE]; congr 1; omega, Hid.out HO3, Hid.out HG3, Hid.out HBK3⟩, rfl, rfl, rfl⟩)
      case measure => simp [intOf]; omega
    · have hkl2 : ¬ (k : Int) < (l.length : Int) := by omega
      obtain rfl : k = l.length := by omega
      rw [List.take_length] at ho hdk
      rw [List.take_length]
      obtain ⟨E, hE⟩ : ∃ E, E = 52 + 32 * l.length + (datasB l).length := ⟨_, rfl⟩
      have HT : Hid (Out wr n u5 (tableB ent l)) := ho
      rw [← hE] at HM ⊢
      have HE := hidden hE
      have j1 : wr.cell? ⟨n, 1, none⟩ = some (.slice ao l.length cap) := hbk.cell rfl
      have HBK := hidden hbk
      by_cases hbig : 16384 < E
      · have hbig2 : (16384 : Int) < (E : Int) := by omega
        rw [if_pos hbig] at HM
        have HBW : Hid (Below w.heap.size w wr) := by have := hg.below; rw [Hid.out HNN] at this; exact this
        clear hE hdk ho hg hbk
        go_wp2
        go_ret2
        exact ⟨_, by rw [Hid.out HM]; rfl, by rw [Hid.out HM]; exact out_nil _ _, Hid.out HBW⟩
      · have hbig2 : ¬ (16384 : Int) < (E : Int) := by omega
        rw [if_neg hbig] at HM
        clear hE hdk ho hg hbk
        go_wp2
        go_loopw [5, 63] (fun x5 x63 wr2 => ∃ k : Nat, k ≤ l.length ∧ x63 = .int .i64 (k : Int) ∧ Out wr2 n x5 (tableB ent l ++ datasB (l.take k)) ∧ Grew n w wr2) (fun x5 x63 _ => l.length - (intOf x63).toNat)
        case atStart => exact ⟨0, by omega, rfl, by simpa [datasB] using Hid.out HT, Hid.out HG⟩
        case round =>
          obtain ⟨k, hk, rfl, ho, hg⟩ := hrel
          have HG2 := hidden hg
          have hdk := datas_len (Hid.out HOK) k hk
          have hbw : Below w.heap.size w wr := by have := hg.below; rw [Hid.out HNN] at this; exact this
          by_cases hkl : k < l.length
          · obtain ⟨b, off, rfl, hlt, hcs⟩ := ((Hid.out H).later hbw).at hkl
            have hts := take_one l k hkl
            have hsok := ok_size (all_get (Hid.out HOK) hkl)
            have hat := hcs k hkl
            generalize l.getD k nosg = s at hts hsok hat
            obtain ⟨at_, data, size, perm⟩ := s
            obtain ⟨z1, z2, z3, z4, z5, z6⟩ := hsok
            obtain ⟨c0, c1, c2, c3, _⟩ := hat
            simp only at z1 z2 z3 z4 z5 z6 c0 c1 c2 c3
            obtain ⟨p, rfl⟩ := Int.eq_ofNat_of_zero_le z5
            have hkl3 : (k : Int) < (l.length : Int) := by omega
            have hnw : n ≤ wr.heap.size := by rw [Hid.out HNN]; exact hbw.size
            have hb1 := below_new wr (.cells #[.int .u32 (at_ : Int), .string ⟨data.toArray⟩, .int .u32 (size : Int), .int .i64 (p : Int)] 44)
            obtain ⟨v', w', hr, ho', hg'⟩ := run_more_str (ho.later hb1) (Nat.le_trans hnw hb1.size) data (by rw [List.length_append, tableB_len]; omega)
            have HR := hidden hr
            have HO3 : Hid (Out w' n v' (tableB ent l ++ datasB (l.take (k + 1)))) := by
              show Out _ _ _ _
              rw [hts, datasB_snoc, ← List.append_assoc]
              exact ho'
            have HG3 := hidden (hg.trans ((Grew.of hb1 hnw).trans hg'))
            clear hr ho' hg' ho hg hts hcs hbw hdk hb1
            go_wp2_with (at_builtin; refine wpList_append_run rfl _ _ 51 9 rfl rfl rfl (Hid.out HR) ?_)
            go_roundw
            case rel => first | exact ⟨k + 1, by omega, by simp, Hid.out HO3, Hid.out HG3⟩ | ((repeat apply Exists.intro); first | exact ⟨⟨k + 1, by omega, by simp, Hid.out HO3, Hid.out HG3⟩, rfl⟩ | exact ⟨⟨k + 1, by omega, by simp, Hid.out HO3, Hid.out HG3⟩, rfl, rfl⟩ | exact ⟨⟨k + 1, by omega, by simp, Hid.out HO3, Hid.out HG3⟩, rfl, rfl, rfl⟩)
            case measure => simp [intOf]; omega
          · have hkl3 : ¬ (k : Int) < (l.length : Int) := by omega
            obtain rfl : k = l.length := by omega
            rw [List.take_length] at ho
            have HO3 : Hid (Out wr n u5 (fileB ent l)) := ho
            have HBW := hidden hbw
            clear ho hg hbw hdk
            go_wp2
            go_ret2
            refine ⟨_, by rw [Hid.out HM]; rfl, ?_, Hid.out HBW⟩
            rw [Hid.out HM]
            have := Hid.out HO3
            rw [Hid.out HNN] at this
            exact this
end Go.Proofs.Ytpknppicamefgaa

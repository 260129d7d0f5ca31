/- Bytes that are being made: rows of the call's own, what is put behind them, and what stays. -/
import Derived.Test.YtjpmagekianpdaaEnter
import Derived.Maps.AppendAt
import Derived.Lib.AppendZeros
import Derived.Lib.AppendStr
import Derived.Lib.SlBytesConst
namespace Go.Proofs.Ytjpmagekianpdaa
open Go.ChangeShapes Go.WideShapes Go.ChangeAt Go.RowKit
set_option linter.unusedVariables false
/-- Nothing that was there below base has turned, and of what is no row of bytes nothing. -/
structure Grew (base : Nat) (w w' : World) : Prop where
  below : Below base w w'
  keep : ∀ k cs T, T ≠ 5 → Blk w k cs T → Blk w' k cs T
theorem Grew.refl (base : Nat) (w : World) : Grew base w w := ⟨Below.refl _ _, fun _ _ _ _ h => h⟩
theorem Grew.trans {base : Nat} {u v w : World} (h : Grew base u v) (k : Grew base v w) : Grew base u w := ⟨h.below.trans k.below, fun i cs T hT hb => k.keep i cs T hT (h.keep i cs T hT hb)⟩
theorem Grew.of {base : Nat} {w w' : World} (h : Below w.heap.size w w') (hb : base ≤ w.heap.size) : Grew base w w' := ⟨h.mono hb, fun _ _ _ _ hk => hk.later h⟩
theorem Grew.size {base : Nat} {w w' : World} (h : Grew base w w') : w.heap.size ≤ w'.heap.size := h.below.size
/-- A row of the bytes l, of the call's own. -/
def Out (w : World) (base : Nat) (v : Value) (l : List UInt8) : Prop := w.ownsRow base 5 1 v l.length (cellsU l)
theorem Out.later {w w' : World} {base : Nat} {v : Value} {l : List UInt8} (h : Out w base v l) (hb : Below w.heap.size w w') : Out w' base v l := by
  refine ⟨h.1, ?_⟩
  rcases h.2 with h | ⟨g, cap, cur, h1, h2, h3, h4⟩
  · exact .inl h
  · exact .inr ⟨g, cap, cur, h1, h2, (hb.block g (Array.getElem?_eq_some_iff.1 h3).1).trans h3, h4⟩
theorem Out.mono {w : World} {base base' : Nat} {v : Value} {l : List UInt8} (h : Out w base v l) (hb : base' ≤ base) : Out w base' v l := by
  refine ⟨h.1, ?_⟩
  rcases h.2 with h | ⟨g, cap, cur, h1, h2, h3⟩
  · exact .inl h
  · exact .inr ⟨g, cap, cur, h1, Nat.le_trans hb h2, h3⟩
theorem Out.row {w : World} {base : Nat} {v : Value} {l : List UInt8} (h : Out w base v l) : ∃ ao cap, v = .slice ao l.length cap ∧ Row w ao l cap := row_of_own rfl h
theorem grew_append {w w' : World} {base : Nat} {v : Value} {l : List UInt8} (h : Out w base v l) (hg : w.grownBy w' v.ownBlock) (hb : base ≤ w.heap.size) : Grew base w w' := by
  refine ⟨(Below.refl base w).grown hg hb fun k hk => (h.lt k hk).1, fun k cs T hT hk => ?_⟩
  refine (hg.block k hk.lt fun e => ?_).trans hk
  rcases h.2 with ⟨rfl, _⟩ | ⟨g, cap, cur, rfl, _, h3, _⟩
  · simp [Value.ownBlock] at e
  · simp only [Value.ownBlock, Option.some.injEq] at e
    subst e
    have := hk.symm.trans h3
    simp at this
    exact hT this.2
/-- Bytes put behind a row of the call's own. -/
theorem run_more {w : World} {base : Nat} {v : Value} {l : List UInt8} (h : Out w base v l) (hb : base ≤ w.heap.size) (ad : Addr) (c : Nat) (m : List UInt8) (hm : ∀ j u, (cellsU m)[j]? = some u → w.cell? (ad.add j) = some u) (hlen : l.length + m.length ≤ 1000000) :
    ∃ v' w', (Builtin.append_ #[22, 22] 22 #[v, .slice (some ad) m.length c]).run Try.prog w = .ok v' w' ∧ Out w' base v' (l ++ m) ∧ Grew base w w' := by
  obtain ⟨i0, hi, hz0, hz1, hz2⟩ := info_parts info5
  obtain ⟨v', w', hr, h1, h2, _, _⟩ := run_append_own_at (P := Try.prog) w base 22 22 5 i0 (.int .u8 0) 1 1 Try.underlying22 hi hz0 hz1 hz2 rfl (by decide) v l.length (cellsU l) h ad m.length c (cellsU m) (by simp [cellsU]) hm (cellsU_one _) (by unfold maxLen; omega) (by omega) hb
  refine ⟨v', w', hr, ?_, grew_append h h2 hb⟩
  rw [← cellsU_append] at h1
  unfold Out
  rw [List.length_append]
  exact h1
theorem run_more_str {w : World} {base : Nat} {v : Value} {l : List UInt8} (h : Out w base v l) (hb : base ≤ w.heap.size) (m : List UInt8) (hlen : l.length + m.length ≤ 1000000) :
    ∃ v' w', (Builtin.append_ #[22, 9] 22 #[v, .string ⟨m.toArray⟩]).run Try.prog w = .ok v' w' ∧ Out w' base v' (l ++ m) ∧ Grew base w w' := by
  obtain ⟨i0, hi, hz0, hz1, hz2⟩ := info_parts info5
  have hsz : (ByteArray.mk m.toArray).size = m.length := by simp [ByteArray.size]
  obtain ⟨v', w', hr, h1, h2, _⟩ := Lib.run_append_own_string (P := Try.prog) w base 22 9 22 5 i0 Try.underlying22 Try.underlying9 hi hz0 hz1 hz2 v l.length (cellsU l) h ⟨m.toArray⟩ (by unfold maxLen; omega) (by omega) hb
  refine ⟨v', w', hr, ?_, grew_append h h2 hb⟩
  have e : Lib.strCells ⟨m.toArray⟩ = cellsU m := by simp [Lib.strCells, cellsU]
  rw [e, hsz, ← cellsU_append] at h1
  unfold Out
  rw [List.length_append]
  exact h1
set_option maxHeartbeats 1000000 in
theorem bput_any (a : Int) (h1 : 0 ≤ a) (h2 : a < 4294967296) (w : World) :
    Calls Try.prog 42 #[.int .u32 a] w fun e w' => e = .returned (.agg #[.int .u8 (a / 16777216), .int .u8 (a / 65536 % 256), .int .u8 (a / 256 % 256), .int .u8 (a % 256)]) ∧ Below w.heap.size w w' := by
  go_enter Try.func42, Try.ntmps42
  go_wp2
  go_rounds 5
  exact bodyPost_ret (v := .agg #[.int .u8 (a / 16777216), .int .u8 (a / 65536 % 256), .int .u8 (a / 256 % 256), .int .u8 (a % 256)]) (by simp [results, Try.results42, go_sem]) rfl ⟨rfl, ((Below.refl _ _).alloc (Nat.le_refl _) _).alloc (by simp) _⟩
theorem cells_put32 (v : Nat) (h : v < 4294967296) : cellsU (put32 v) = [.int .u8 ((v : Int) / 16777216), .int .u8 ((v : Int) / 65536 % 256), .int .u8 ((v : Int) / 256 % 256), .int .u8 ((v : Int) % 256)] := by
  simp only [cellsU, put32, List.map_cons, List.map_nil]
  rw [byte_back (by omega), byte_back (by omega), byte_back (by omega), byte_back (by omega)]
  have e1 : ((v / 16777216 % 256 : Nat) : Int) = (v : Int) / 16777216 := by omega
  have e2 : ((v / 65536 % 256 : Nat) : Int) = (v : Int) / 65536 % 256 := by omega
  have e3 : ((v / 256 % 256 : Nat) : Int) = (v : Int) / 256 % 256 := by omega
  have e4 : ((v % 256 : Nat) : Int) = (v : Int) % 256 := by omega
  rw [e1, e2, e3, e4]
theorem cells_put16 (v : Nat) : cellsU (put16 v) = [.int .u8 ((v : Int) / 256 % 256), .int .u8 ((v : Int) % 256)] := by
  simp only [cellsU, put16, List.map_cons, List.map_nil]
  rw [byte_back (by omega), byte_back (by omega)]
  have e3 : ((v / 256 % 256 : Nat) : Int) = (v : Int) / 256 % 256 := by omega
  have e4 : ((v % 256 : Nat) : Int) = (v : Int) % 256 := by omega
  rw [e3, e4]
def words (vs : List Nat) : Array Value := (vs.map fun x : Nat => Value.int .u32 (x : Int)).toArray
theorem words_get {vs : List Nat} {k : Nat} (h : k < vs.length) : (words vs)[k]? = some (.int .u32 ((vs.getD k 0 : Nat) : Int)) := by
  simp [words, List.getD_eq_getElem?_getD, h]
theorem take_flat (f : Nat → List UInt8) (vs : List Nat) (k : Nat) (h : k < vs.length) : (vs.take (k + 1)).flatMap f = (vs.take k).flatMap f ++ f (vs.getD k 0) := by
  rw [List.take_add_one, List.flatMap_append, List.getElem?_eq_getElem h, List.getD_eq_getElem?_getD, List.getElem?_eq_getElem h]
  simp
theorem flat32_len (vs : List Nat) : (vs.flatMap put32).length = 4 * vs.length := by
  induction vs with
  | nil => rfl
  | cons x t ih => rw [List.flatMap_cons, List.length_append, ih, put32_len, List.length_cons]; omega
theorem flat16_len (vs : List Nat) : (vs.flatMap put16).length = 2 * vs.length := by
  induction vs with
  | nil => rfl
  | cons x t ih => rw [List.flatMap_cons, List.length_append, ih, put16_len, List.length_cons]; omega
set_option maxRecDepth 20000 in
set_option maxHeartbeats 1000000 in
theorem putWords_any (w : World) (base vb n : Nat) (v : Value) (l : List UInt8) (vs : List Nat) (hn : n = vs.length) (h : Out w base v l) (hb : base ≤ w.heap.size) (hvb : Blk w vb (words vs) 23) (hv : ∀ x ∈ vs, x < 4294967296) (hlen : l.length + 4 * vs.length ≤ 100000) :
    Calls Try.prog 30 #[v, .slice (some ⟨vb, 0, none⟩) n n] w fun e w' => ∃ v', e = .returned v' ∧ Out w' base v' (l ++ vs.flatMap put32) ∧ Grew base w w' := by
  have hvs : vs.length ≤ 25000 := by omega
  have H := hidden h
  have HV := hidden hvb
  have HLT := hidden hv
  have HN := hidden hn
  have hn2 : n ≤ 25000 := by omega
  clear h hvb hv hn
  go_enter Try.func30, Try.ntmps30
  go_wp2
  go_loopw [0, 10] (fun x0 x10 wr => ∃ k : Nat, k ≤ n ∧ x10 = .int .i64 (k : Int) ∧ Out wr base x0 (l ++ (vs.take k).flatMap put32) ∧ Grew base w wr) (fun x0 x10 _ => n - (intOf x10).toNat)
  case atStart => exact ⟨0, by omega, rfl, by simpa using Hid.out H, Grew.refl _ _⟩
  case round =>
    obtain ⟨k, hk, rfl, ho, hg⟩ := hrel
    have HG := hidden hg
    by_cases hkn : k < n
    · have hkn2 : (k : Int) < (n : Int) := by omega
      obtain ⟨x, hx⟩ : ∃ x, x = vs.getD k 0 := ⟨_, rfl⟩
      have hkv : k < vs.length := by have := Hid.out HN; omega
      have hxm : x < 4294967296 := by
        rw [hx, List.getD_eq_getElem?_getD, List.getElem?_eq_getElem hkv, Option.getD_some]
        exact Hid.out HLT _ (List.getElem_mem hkv)
      have hvk := hg.keep _ _ _ (by decide) (Hid.out HV)
      have hvlt := hvk.lt
      have hc : wr.cell? ⟨vb, k, none⟩ = some (.int .u32 (x : Int)) := by
        have := hvk.cell (words_get hkv)
        rw [← hx] at this
        exact this
      have hll : (l ++ (vs.take k).flatMap put32).length + 4 ≤ 1000000 := by
        rw [List.length_append, flat32_len, List.length_take]
        omega
      have HAP : Hid (∀ w1, Below wr.heap.size wr w1 → ∃ v' w', (Builtin.append_ #[22, 22] 22 #[u0, .slice (some ⟨w1.heap.size, 0, none⟩) 4 4]).run Try.prog (w1.alloc (.cells #[.int .u8 ((x : Int) / 16777216), .int .u8 ((x : Int) / 65536 % 256), .int .u8 ((x : Int) / 256 % 256), .int .u8 ((x : Int) % 256)] 64)) = .ok v' w' ∧ Out w' base v' (l ++ (vs.take (k + 1)).flatMap put32) ∧ Grew base w w') := by
        intro w1 hb1
        have hb2 := hb1.alloc hb1.size (.cells #[.int .u8 ((x : Int) / 16777216), .int .u8 ((x : Int) / 65536 % 256), .int .u8 ((x : Int) / 256 % 256), .int .u8 ((x : Int) % 256)] 64)
        have hbs : base ≤ (w1.alloc (.cells #[.int .u8 ((x : Int) / 16777216), .int .u8 ((x : Int) / 65536 % 256), .int .u8 ((x : Int) / 256 % 256), .int .u8 ((x : Int) % 256)] 64)).heap.size := Nat.le_trans hb (Nat.le_trans hg.size hb2.size)
        have hnew := Blk.new w1 #[.int .u8 ((x : Int) / 16777216), .int .u8 ((x : Int) / 65536 % 256), .int .u8 ((x : Int) / 256 % 256), .int .u8 ((x : Int) % 256)] 64
        obtain ⟨v', w', hr, h1, h2⟩ := run_more (ho.later hb2) hbs ⟨w1.heap.size, 0, none⟩ 4 (put32 x) (by
          intro j u hu
          rw [cells_put32 x hxm] at hu
          rw [Addr.add_lit]
          refine hnew.cell ?_
          rw [Nat.zero_add]
          simpa using hu) hll
        refine ⟨v', w', hr, ?_, hg.trans ((Grew.of hb2 (Nat.le_trans hb hg.size)).trans h2)⟩
        rw [take_flat _ _ _ hkv, ← hx, ← List.append_assoc]
        exact h1
      have H42 := fun w => hidden (bput_any (x : Int) (by omega) (by omega) w)
      clear ho hg hvk hx
      go_wp2_with (first | (go_at_call 42; with_reducible refine (Hid.out (H42 _)).mono ?_; rintro e w1 ⟨rfl, hb1⟩; obtain ⟨v', w', hr, ho1, hg1⟩ := Hid.out HAP w1 hb1; have HO1 := hidden ho1; have HG1 := hidden hg1; have HR := hidden hr; clear hb1 ho1 hg1 hr) | (at_builtin; refine wpList_append_run rfl _ _ 22 22 rfl rfl rfl (Hid.out HR) ?_))
      go_roundw
      case rel => first | exact ⟨k + 1, by omega, by simp, Hid.out HO1, Hid.out HG1⟩ | ((repeat apply Exists.intro); first | exact ⟨⟨k + 1, by omega, by simp, Hid.out HO1, Hid.out HG1⟩, rfl⟩ | exact ⟨⟨k + 1, by omega, by simp, Hid.out HO1, Hid.out HG1⟩, rfl, rfl⟩ | exact ⟨⟨k + 1, by omega, by simp, Hid.out HO1, Hid.out HG1⟩, rfl, rfl, rfl⟩)
      case measure => simp [intOf]; omega
    · have hkn2 : ¬ (k : Int) < (n : Int) := by omega
      have HO : Hid (Out wr base u0 (l ++ vs.flatMap put32)) := by
        have h2 := Hid.out HN
        rw [List.take_of_length_le (by omega)] at ho
        exact ho
      clear ho hg
      go_wp2
      go_ret
      exact ⟨_, rfl, Hid.out HO, Hid.out HG⟩
set_option maxRecDepth 20000 in
set_option maxHeartbeats 1000000 in
theorem putHalves_any (w : World) (base vb n : Nat) (v : Value) (l : List UInt8) (vs : List Nat) (hn : n = vs.length) (h : Out w base v l) (hb : base ≤ w.heap.size) (hvb : Blk w vb (words vs) 23) (hv : ∀ x ∈ vs, x < 4294967296) (hlen : l.length + 2 * vs.length ≤ 100000) :
    Calls Try.prog 41 #[v, .slice (some ⟨vb, 0, none⟩) n n] w fun e w' => ∃ v', e = .returned v' ∧ Out w' base v' (l ++ vs.flatMap put16) ∧ Grew base w w' := by
  have hvs : vs.length ≤ 50000 := by omega
  have H := hidden h
  have HV := hidden hvb
  have HLT := hidden hv
  have HN := hidden hn
  have hn2 : n ≤ 50000 := by omega
  clear h hvb hv hn
  go_enter Try.func41, Try.ntmps41
  go_wp2
  go_loopw [0, 10] (fun x0 x10 wr => ∃ k : Nat, k ≤ n ∧ x10 = .int .i64 (k : Int) ∧ Out wr base x0 (l ++ (vs.take k).flatMap put16) ∧ Grew base w wr) (fun x0 x10 _ => n - (intOf x10).toNat)
  case atStart => exact ⟨0, by omega, rfl, by simpa using Hid.out H, Grew.refl _ _⟩
  case round =>
    obtain ⟨k, hk, rfl, ho, hg⟩ := hrel
    have HG := hidden hg
    by_cases hkn : k < n
    · have hkn2 : (k : Int) < (n : Int) := by omega
      obtain ⟨x, hx⟩ : ∃ x, x = vs.getD k 0 := ⟨_, rfl⟩
      have hkv : k < vs.length := by have := Hid.out HN; omega
      have hxm : x < 4294967296 := by
        rw [hx, List.getD_eq_getElem?_getD, List.getElem?_eq_getElem hkv, Option.getD_some]
        exact Hid.out HLT _ (List.getElem_mem hkv)
      have hvk := hg.keep _ _ _ (by decide) (Hid.out HV)
      have hvlt := hvk.lt
      have hc : wr.cell? ⟨vb, k, none⟩ = some (.int .u32 (x : Int)) := by
        have := hvk.cell (words_get hkv)
        rw [← hx] at this
        exact this
      have hll : (l ++ (vs.take k).flatMap put16).length + 2 ≤ 1000000 := by
        rw [List.length_append, flat16_len, List.length_take]
        omega
      have HAP : Hid (∀ w1, Below wr.heap.size wr w1 → ∃ v' w', (Builtin.append_ #[22, 22] 22 #[u0, .slice (some ⟨w1.heap.size, 2, none⟩) 2 2]).run Try.prog (w1.alloc (.cells #[.int .u8 ((x : Int) / 16777216), .int .u8 ((x : Int) / 65536 % 256), .int .u8 ((x : Int) / 256 % 256), .int .u8 ((x : Int) % 256)] 64)) = .ok v' w' ∧ Out w' base v' (l ++ (vs.take (k + 1)).flatMap put16) ∧ Grew base w w') := by
        intro w1 hb1
        have hb2 := hb1.alloc hb1.size (.cells #[.int .u8 ((x : Int) / 16777216), .int .u8 ((x : Int) / 65536 % 256), .int .u8 ((x : Int) / 256 % 256), .int .u8 ((x : Int) % 256)] 64)
        have hbs : base ≤ (w1.alloc (.cells #[.int .u8 ((x : Int) / 16777216), .int .u8 ((x : Int) / 65536 % 256), .int .u8 ((x : Int) / 256 % 256), .int .u8 ((x : Int) % 256)] 64)).heap.size := Nat.le_trans hb (Nat.le_trans hg.size hb2.size)
        have hnew := Blk.new w1 #[.int .u8 ((x : Int) / 16777216), .int .u8 ((x : Int) / 65536 % 256), .int .u8 ((x : Int) / 256 % 256), .int .u8 ((x : Int) % 256)] 64
        obtain ⟨v', w', hr, h1, h2⟩ := run_more (ho.later hb2) hbs ⟨w1.heap.size, 2, none⟩ 2 (put16 x) (by
          intro j u hu
          rw [cells_put16 x] at hu
          rw [Addr.add_lit]
          refine hnew.cell ?_
          match j, hu with
          | 0, hu => exact hu
          | 1, hu => exact hu
          | j + 2, hu => simp at hu) hll
        refine ⟨v', w', hr, ?_, hg.trans ((Grew.of hb2 (Nat.le_trans hb hg.size)).trans h2)⟩
        rw [take_flat _ _ _ hkv, ← hx, ← List.append_assoc]
        exact h1
      have H42 := fun w => hidden (bput_any (x : Int) (by omega) (by omega) w)
      clear ho hg hvk hx
      go_wp2_with (first | (go_at_call 42; with_reducible refine (Hid.out (H42 _)).mono ?_; rintro e w1 ⟨rfl, hb1⟩; obtain ⟨v', w', hr, ho1, hg1⟩ := Hid.out HAP w1 hb1; have HO1 := hidden ho1; have HG1 := hidden hg1; have HR := hidden hr; clear hb1 ho1 hg1 hr) | (at_builtin; refine wpList_append_run rfl _ _ 22 22 rfl rfl rfl (Hid.out HR) ?_))
      go_roundw
      case rel => first | exact ⟨k + 1, by omega, by simp, Hid.out HO1, Hid.out HG1⟩ | ((repeat apply Exists.intro); first | exact ⟨⟨k + 1, by omega, by simp, Hid.out HO1, Hid.out HG1⟩, rfl⟩ | exact ⟨⟨k + 1, by omega, by simp, Hid.out HO1, Hid.out HG1⟩, rfl, rfl⟩ | exact ⟨⟨k + 1, by omega, by simp, Hid.out HO1, Hid.out HG1⟩, rfl, rfl, rfl⟩)
      case measure => simp [intOf]; omega
    · have hkn2 : ¬ (k : Int) < (n : Int) := by omega
      have HO : Hid (Out wr base u0 (l ++ vs.flatMap put16)) := by
        have h2 := Hid.out HN
        rw [List.take_of_length_le (by omega)] at ho
        exact ho
      clear ho hg
      go_wp2
      go_ret
      exact ⟨_, rfl, Hid.out HO, Hid.out HG⟩
end Go.Proofs.Ytjpmagekianpdaa

/- A file's first bytes. -/
import Derived.Test.YtjpmagekianpdaaOuts
namespace Go.Proofs.Ytjpmagekianpdaa
open Go.ChangeShapes Go.WideShapes Go.ChangeAt Go.RowKit
set_option linter.unusedVariables false
theorem run_app9 (w : World) (g : Nat) (hc : ∀ j u, (cellsU (magicB ++ classB))[j]? = some u → w.cell? ((⟨g, 0, none⟩ : Addr).add j) = some u) :
    (Builtin.append_ #[22, 3] 22 #[.slice (some ⟨g, 0, none⟩) 7 7, .int .i64 9]).run Try.prog w = .ok (.slice (some ⟨w.heap.size, 0, none⟩) 16 (grownCap w 16 7 5)) (w.drew.alloc (.cells ((cellsU (magicB ++ classB ++ padB)).toArray ++ Builtin.zeroCells #[.int .u8 0] (grownCap w 16 7 5 - 16)) 5)) := by
  obtain ⟨i0, hi, hz0, hz1, hz2⟩ := info_parts info5
  have hfo := run_firstCells_some (P := Try.prog) w.drew i0.size 7 ⟨g, 0, none⟩ 7 7 (cellsU (magicB ++ classB)) (by rw [hz1]; rfl) (by simpa using hc)
  have hw : IntKind.i64.wrap 9 = 9 := by decide
  have hns : Builtin.nextslicecap 16 7 = 16 := by decide
  have hpad : Builtin.zeroCells #[Value.int .u8 0] 9 = (cellsU padB).toArray := by kernel_rfl
  have hmx : ¬ ((9223372036854775807 : Int) < 7 + max 9 0) := by omega
  rw [hz1] at hfo
  simp [Builtin.append_, run_underlying Try.underlying22, run_underlying Try.underlying3, sizeOf, typeInfo, zeroValue, hi, hz0, hz1, hz2, asInt, asIntOf, Question.forced, hfo, newRow, grownCap, hw, hns, Value.cells, hpad, hmx, cellsU_append]
  congr 2
  apply Array.ext'
  simp [List.append_assoc]
theorem out_16 (w : World) (base : Nat) (hb : base ≤ w.heap.size) : Out (w.drew.alloc (.cells ((cellsU (magicB ++ classB ++ padB)).toArray ++ Builtin.zeroCells #[.int .u8 0] (grownCap w 16 7 5 - 16)) 5)) base (.slice (some ⟨w.heap.size, 0, none⟩) 16 (grownCap w 16 7 5)) (magicB ++ classB ++ padB) := by
  have hge := grownCap_ge w 16 7 5
  have hcm : grownCap w 16 7 5 ≤ maxLen := grownCap_le_maxLen w 16 7 5 (by unfold maxLen; omega)
  refine ⟨rfl, .inr ⟨w.heap.size, _, _, rfl, hb, heap_alloc_new w.drew _, hge, hcm, ?_, ?_⟩⟩
  · have : (cellsU (magicB ++ classB ++ padB)).toArray.size = 16 := rfl
    rw [Array.size_append, size_zeroCells, this]
    show 16 + (grownCap w 16 7 5 - 16) * 1 = _
    omega
  · rw [Array.toList_append]
    exact List.take_left' rfl
theorem lit2 (a b : Nat) : (#[Value.int .u32 (a : Int), .int .u32 (b : Int)] : Array Value) = words [a, b] := rfl
set_option maxRecDepth 20000 in
set_option maxHeartbeats 1000000 in
theorem header_any (w : World) (ent n : Nat) (he : ent < 4294967296) (hn : n ≤ 8) : Calls Try.prog 29 #[.int .u32 (ent : Int), .int .i64 (n : Int)] w fun e w' => ∃ v', e = .returned v' ∧ Out w' w.heap.size v' (headB ent n) ∧ Below w.heap.size w w' := by
  have hcv := Lib.run_convert_bytes_const (P := Try.prog) w 22 5 (cellsU (magicB ++ classB)).toArray 7 7 Try.underlying22 Try.underlying5
  obtain ⟨w1, hw1⟩ : ∃ w1, w1 = w.alloc (.cells (cellsU (magicB ++ classB)).toArray 5 ((cellsU (magicB ++ classB)).toArray.size, (cellsU (magicB ++ classB)).toArray.size + 1)) := ⟨_, rfl⟩
  have hb1 : Below w.heap.size w w1 := by rw [hw1]; exact below_new w _
  have hc1 : ∀ j u, (cellsU (magicB ++ classB))[j]? = some u → w1.cell? ((⟨w.heap.size, 0, none⟩ : Addr).add j) = some u := by
    intro j u hu
    rw [hw1, Addr.add_lit, Nat.zero_add]
    refine (World.cell?_alloc_mark w _ 5 _ j).trans ?_
    simpa using hu
  rw [← hw1] at hcv
  have hap := run_app9 w1 w.heap.size hc1
  have ho2 := out_16 w1 w.heap.size hb1.size
  have hb2 : Below w.heap.size w (w1.drew.alloc (.cells ((cellsU (magicB ++ classB ++ padB)).toArray ++ Builtin.zeroCells #[.int .u8 0] (grownCap w1 16 7 5 - 16)) 5)) := bthen hb1 ((Below.refl _ _).drew.alloc (by simp) _)
  generalize w1.drew.alloc (.cells ((cellsU (magicB ++ classB ++ padB)).toArray ++ Builtin.zeroCells #[.int .u8 0] (grownCap w1 16 7 5 - 16)) 5) = w2 at hap ho2 hb2
  generalize Value.slice (some ⟨w1.heap.size, 0, none⟩) 16 (grownCap w1 16 7 5) = v2 at hap ho2
  have HAP := hidden hap
  have HB2 := hidden hb2
  have hlits : (cellsU (magicB ++ classB)).toArray = #[.int .u8 127, .int .u8 69, .int .u8 76, .int .u8 70, .int .u8 1, .int .u8 2, .int .u8 1] := rfl
  rw [hlits] at hcv
  have H41 : Hid (Calls Try.prog 41 #[v2, .slice (some ⟨w2.heap.size, 0, none⟩) 2 2] (w2.alloc (.cells #[.int .u32 2, .int .u32 8] 23)) fun e w' => ∃ v', e = .returned v' ∧ Out w' w.heap.size v' (magicB ++ classB ++ padB ++ (put16 2 ++ put16 8)) ∧ Below w.heap.size w w') := by
    refine (putHalves_any _ w.heap.size w2.heap.size 2 v2 _ [2, 8] rfl (ho2.later (below_new w2 _)) (Nat.le_trans hb2.size (below_new w2 _).size) (Blk.new w2 _ 23) (by simp) (by simp [magicB, classB, padB])).mono ?_
    rintro e w' ⟨v', h1, h2, h3⟩
    exact ⟨v', h1, h2, (hb2.trans ((below_new w2 _).mono hb2.size)).trans h3.below⟩
  have H30 : Hid (∀ v3 w3, Out w3 w.heap.size v3 (magicB ++ classB ++ padB ++ (put16 2 ++ put16 8)) → Below w.heap.size w w3 → Calls Try.prog 30 #[v3, .slice (some ⟨w3.heap.size, 0, none⟩) 5 5] (w3.alloc (.cells #[.int .u32 1, .int .u32 (ent : Int), .int .u32 52, .int .u32 0, .int .u32 0] 23)) fun e w' => ∃ v', e = .returned v' ∧ Out w' w.heap.size v' (magicB ++ classB ++ padB ++ (put16 2 ++ put16 8) ++ (put32 1 ++ put32 ent ++ put32 52 ++ put32 0 ++ put32 0)) ∧ Below w.heap.size w w') := by
    intro v3 w3 ho3 hb3
    refine (putWords_any _ w.heap.size w3.heap.size 5 v3 _ [1, ent, 52, 0, 0] rfl (ho3.later (below_new w3 _)) (Nat.le_trans hb3.size (below_new w3 _).size) (Blk.new w3 _ 23) (by simp; omega) (by simp [magicB, classB, padB, put16])).mono ?_
    rintro e w' ⟨v', h1, h2, h3⟩
    refine ⟨v', h1, ?_, (hb3.trans ((below_new w3 _).mono hb3.size)).trans h3.below⟩
    have e1 : [1, ent, 52, 0, 0].flatMap put32 = put32 1 ++ put32 ent ++ put32 52 ++ put32 0 ++ put32 0 := by simp
    rw [e1] at h2
    exact h2
  have H41b : Hid (∀ v3 w3, Out w3 w.heap.size v3 (magicB ++ classB ++ padB ++ (put16 2 ++ put16 8) ++ (put32 1 ++ put32 ent ++ put32 52 ++ put32 0 ++ put32 0)) → Below w.heap.size w w3 → Calls Try.prog 41 #[v3, .slice (some ⟨w3.heap.size, 0, none⟩) 6 6] (w3.alloc (.cells #[.int .u32 52, .int .u32 32, .int .u32 (n : Int), .int .u32 0, .int .u32 0, .int .u32 0] 23)) fun e w' => ∃ v', e = .returned v' ∧ Out w' w.heap.size v' (headB ent n) ∧ Below w.heap.size w w') := by
    intro v3 w3 ho3 hb3
    refine (putHalves_any _ w.heap.size w3.heap.size 6 v3 _ [52, 32, n, 0, 0, 0] rfl (ho3.later (below_new w3 _)) (Nat.le_trans hb3.size (below_new w3 _).size) (Blk.new w3 _ 23) (by simp; omega) (by simp [magicB, classB, padB, put16, put32])).mono ?_
    rintro e w' ⟨v', h1, h2, h3⟩
    refine ⟨v', h1, ?_, (hb3.trans ((below_new w3 _).mono hb3.size)).trans h3.below⟩
    have e1 : [52, 32, n, 0, 0, 0].flatMap put16 = put16 52 ++ put16 32 ++ put16 n ++ put16 0 ++ put16 0 ++ put16 0 := by simp
    rw [e1] at h2
    exact h2
  clear hap ho2 hb2 hlits hc1 hw1 hb1
  have hn2 : (n : Int) % 4294967296 = (n : Int) := by omega
  go_enter Try.func29, Try.ntmps29
  go_wp2_with (first | (at_builtin; refine wpList_append_run rfl _ _ 22 3 rfl rfl rfl (Hid.out HAP) ?_) | (go_at_call 41; first | (with_reducible refine (Hid.out H41).mono ?_; rintro e w3 ⟨v3, rfl, ho3, hb3⟩; have HC := hidden (Hid.out H30 v3 w3 ho3 hb3); clear ho3 hb3 H41) | (with_reducible refine (Hid.out HD).mono ?_; rintro e w5 ⟨v5, rfl, ho5, hb5⟩; have HO5 := hidden ho5; have HB5 := hidden hb5; clear ho5 hb5)) | (go_at_call 30; with_reducible refine (Hid.out HC).mono ?_; rintro e w4 ⟨v4, rfl, ho4, hb4⟩; have HD := hidden (Hid.out H41b v4 w4 ho4 hb4); clear ho4 hb4))
  go_ret
  exact ⟨_, rfl, Hid.out HO5, Hid.out HB5⟩
end Go.Proofs.Ytjpmagekianpdaa

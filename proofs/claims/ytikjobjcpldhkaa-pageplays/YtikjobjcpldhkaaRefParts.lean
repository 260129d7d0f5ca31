/- Some bytes of a page, by chapter 4's own answer. -/
import Derived.Test.YtikjobjcpldhkaaParts
namespace Go.Proofs.Ytikjobjcpldhkaa
open Go.ChangeShapes Go.WideShapes Go.ChangeAt Go.RowKit
set_option linter.unusedVariables false
theorem wpList_append_run {P : Program} {w : World} {ops : Array Oper} {rest : List Oper} {o : Oper} {a : Act} {Q : Exit → Act → World → Prop} (hgd : o.guard = none) (s x : Operand) (t tx : TypeId)
    (ho : o.op = .call { callee := .builtin .append, args := #[s, x], argTypes := #[t, tx] }) {vs vx v' : Value} {w' : World} (hs : a.eval s = vs) (hx : a.eval x = vx)
    (hr : (Builtin.append_ #[t, tx] o.type #[vs, vx]).run P w = .ok v' w') (h : wpList P ops Q rest (a.put o.dst v') w') : wpList P ops Q (o :: rest) a w :=
  wpList_plain hgd fun _ hK => by
    unfold Oper.wp execOp
    simp only [ho, resolve, invoke, builtin, Sem.run_bind, Sem.run_pure, Result.andThen_ok, List.map_toArray, List.map_cons, List.map_nil, hs, hx, hr]
    exact hK _ _ h
theorem run_taken {w : World} {b : Nat} {l : List UInt8} {p c : Int} (h : Pg 33 w b l p c) (i M : Int) (S : Nat) (h0 : 0 ≤ i) (h1 : 0 < M) (h2 : i + M ≤ 256) (hS : S = M.toNat) :
    ∃ ao cap w2, (Builtin.append_ #[38, 38] 38 #[.slice none 0 0, .slice (some ⟨b, i.toNat, none⟩) S (256 - i.toNat)]).run Try.prog w = .ok (.slice ao M.toNat cap) w2 ∧ Row w2 ao (partB l i M) cap ∧ Below w.heap.size w w2 := by
  obtain ⟨i0, hi, hz0, hz1, hz2⟩ := info_parts info5
  subst hS
  have hpl := partB_len l i M h.len h0 (by omega) h2
  have hcl := part_cells h i M h0 (by omega) h2
  have hr := run_append_nil (P := Try.prog) w 38 38 5 i0 (.int .u8 0) Try.underlying38 hi hz0 ⟨b, i.toNat, none⟩ M.toNat (256 - i.toNat) (cellsU (partB l i M)) (by rw [cellsU_len, hz1, Nat.mul_one, hpl]) hcl (by omega) (by omega) (by rw [hz2]; omega)
  refine ⟨_, _, _, hr, ?_, (Below.refl _ _).drew.alloc (by simp) _⟩
  refine ⟨by rw [hpl]; exact grownCap_ge w M.toNat 0 5, grownCap_le_maxLen w _ _ _ (by simp only [maxLen]; omega), by simp, .inr ⟨w.heap.size, 0, rfl, fun j hj => ?_⟩⟩
  refine (World.cell?_alloc_mark w.drew _ 5 (0, 0) (0 + j)).trans ?_
  rw [Nat.zero_add, Array.getElem?_append_left (by rw [List.size_toArray, cellsU_len]; exact hj), List.getElem?_toArray]
  exact cellsU_get _ _ hj
set_option maxRecDepth 20000 in
set_option maxHeartbeats 1000000 in
theorem refBytes_a (w : World) (b : Nat) (l : List UInt8) (p c i n : Int) (h : Pg 33 w b l p c) (hi : 0 ≤ i) (hi2 : i < 256) (hn : 0 < n) (hs : n ≤ 256 - i) :
    Calls Try.prog 18 #[.pointer (some ⟨b, 0, none⟩), .int .i64 i, .int .i64 n] w fun e w' => ∃ ao cap, e = .returned (.slice ao (partB l (i) (n)).length cap) ∧ Row w' ao (partB l (i) (n)) cap ∧ Below w.heap.size w w' := by
  have hsl := sliced_any b (i) (i + n) (by omega) (by omega) (by omega) (by omega)
  have hpl := partB_len l (i) (n) h.len (by omega) (by omega) (by omega)
  rw [hpl]
  obtain ⟨ao, cap, w2, hcp, hrow, hbel⟩ := run_taken h (i) (n) ((i + n : Int).toNat - (i : Int).toNat) (by omega) (by omega) (by omega) (by omega)
  have HR := hidden hrow
  have HB := hidden hbel
  have hdn : decide (n ≤ 0) = false := by simp; omega
  clear h hpl hrow hbel
  go_enter Try.func18, Try.ntmps18
  go_wp2_with (at_builtin; refine wpList_append_run rfl (.const (.slice none 0 0)) (.tmp 26) 38 38 rfl rfl rfl hcp ?_)
  go_ret
  exact ⟨_, _, rfl, Hid.out HR, Hid.out HB⟩
set_option maxRecDepth 20000 in
set_option maxHeartbeats 1000000 in
theorem refBytes_b (w : World) (b : Nat) (l : List UInt8) (p c i n : Int) (h : Pg 33 w b l p c) (hi : 0 ≤ i) (hi2 : i < 256) (hn : 256 - i < n) :
    Calls Try.prog 18 #[.pointer (some ⟨b, 0, none⟩), .int .i64 i, .int .i64 n] w fun e w' => ∃ ao cap, e = .returned (.slice ao (partB l (i) (256 - i)).length cap) ∧ Row w' ao (partB l (i) (256 - i)) cap ∧ Below w.heap.size w w' := by
  have hsl := sliced_any b (i) (i + (256 - i)) (by omega) (by omega) (by omega) (by omega)
  have hpl := partB_len l (i) (256 - i) h.len (by omega) (by omega) (by omega)
  rw [hpl]
  obtain ⟨ao, cap, w2, hcp, hrow, hbel⟩ := run_taken h (i) (256 - i) ((i + (256 - i) : Int).toNat - (i : Int).toNat) (by omega) (by omega) (by omega) (by omega)
  have HR := hidden hrow
  have HB := hidden hbel
  have hdn : decide (n ≤ 0) = false := by simp; omega
  clear h hpl hrow hbel
  go_enter Try.func18, Try.ntmps18
  go_wp2_with (at_builtin; refine wpList_append_run rfl (.const (.slice none 0 0)) (.tmp 26) 38 38 rfl rfl rfl hcp ?_)
  go_ret
  exact ⟨_, _, rfl, Hid.out HR, Hid.out HB⟩
set_option maxRecDepth 20000 in
set_option maxHeartbeats 1000000 in
theorem refBytes_c (w : World) (b : Nat) (l : List UInt8) (p c i n : Int) (h : Pg 33 w b l p c) (hi : i < 0) (hn : 0 < n) (hs : n ≤ 256) :
    Calls Try.prog 18 #[.pointer (some ⟨b, 0, none⟩), .int .i64 i, .int .i64 n] w fun e w' => ∃ ao cap, e = .returned (.slice ao (partB l (0) (n)).length cap) ∧ Row w' ao (partB l (0) (n)) cap ∧ Below w.heap.size w w' := by
  have hsl := sliced_any b (0) (n) (by omega) (by omega) (by omega) (by omega)
  have hpl := partB_len l (0) (n) h.len (by omega) (by omega) (by omega)
  rw [hpl]
  obtain ⟨ao, cap, w2, hcp, hrow, hbel⟩ := run_taken h (0) (n) ((n : Int).toNat - (0 : Int).toNat) (by omega) (by omega) (by omega) (by omega)
  have HR := hidden hrow
  have HB := hidden hbel
  have hdn : decide (n ≤ 0) = false := by simp; omega
  simp only [Int.toNat_zero, Nat.sub_zero] at hsl hcp
  clear h hpl hrow hbel
  go_enter Try.func18, Try.ntmps18
  go_wp2_with (at_builtin; refine wpList_append_run rfl (.const (.slice none 0 0)) (.tmp 26) 38 38 rfl rfl rfl hcp ?_)
  go_ret
  exact ⟨_, _, rfl, Hid.out HR, Hid.out HB⟩
set_option maxRecDepth 20000 in
set_option maxHeartbeats 1000000 in
theorem refBytes_d (w : World) (b : Nat) (l : List UInt8) (p c i n : Int) (h : Pg 33 w b l p c) (hi : i < 0) (hn : 256 < n) :
    Calls Try.prog 18 #[.pointer (some ⟨b, 0, none⟩), .int .i64 i, .int .i64 n] w fun e w' => ∃ ao cap, e = .returned (.slice ao (partB l (0) (256)).length cap) ∧ Row w' ao (partB l (0) (256)) cap ∧ Below w.heap.size w w' := by
  have hsl := sliced_any b (0) (256) (by omega) (by omega) (by omega) (by omega)
  have hpl := partB_len l (0) (256) h.len (by omega) (by omega) (by omega)
  rw [hpl]
  obtain ⟨ao, cap, w2, hcp, hrow, hbel⟩ := run_taken h (0) (256) ((256 : Int).toNat - (0 : Int).toNat) (by omega) (by omega) (by omega) (by omega)
  have HR := hidden hrow
  have HB := hidden hbel
  have hdn : decide (n ≤ 0) = false := by simp; omega
  simp only [Int.toNat_zero, Nat.sub_zero, Int.reduceToNat] at hsl hcp ⊢
  clear h hpl hrow hbel
  go_enter Try.func18, Try.ntmps18
  go_wp2_with (at_builtin; refine wpList_append_run rfl (.const (.slice none 0 0)) (.tmp 26) 38 38 rfl rfl rfl hcp ?_)
  go_ret
  exact ⟨_, _, rfl, Hid.out HR, Hid.out HB⟩
theorem refBytes_e (w : World) (b : Nat) (i n : Int) (hn : n ≤ 0) :
    Calls Try.prog 18 #[.pointer (some ⟨b, 0, none⟩), .int .i64 i, .int .i64 n] w fun e w' => e = .returned (.slice none 0 0) ∧ w' = w := by
  by_cases hi : i < 0
  all_goals
    go_enter Try.func18, Try.ntmps18
    go_wp2
    go_ret
    exact ⟨rfl, rfl⟩
theorem refBytes_f (w : World) (b : Nat) (i n : Int) (hn : 0 < n) (hi : 256 ≤ i) :
    Calls Try.prog 18 #[.pointer (some ⟨b, 0, none⟩), .int .i64 i, .int .i64 n] w fun e w' => e = .returned (.slice none 0 0) ∧ w' = w := by
  have hi0 : ¬ i < 0 := by omega
  have hd : decide (n ≤ 0) = false := by simp; omega
  go_enter Try.func18, Try.ntmps18
  go_wp2
  go_ret
  exact ⟨rfl, rfl⟩
theorem refBytes_any (w : World) (b : Nat) (l : List UInt8) (p c i n : Int) (h : Pg 33 w b l p c) :
    Calls Try.prog 18 #[.pointer (some ⟨b, 0, none⟩), .int .i64 i, .int .i64 n] w fun e w' => ∃ ao cap, e = .returned (.slice ao (partB l i n).length cap) ∧ Row w' ao (partB l i n) cap ∧ Below w.heap.size w w' := by
  have hnil : partB l i n = [] → ∀ (e : Ending) (w' : World), (e = .returned (.slice none 0 0) ∧ w' = w) → ∃ ao cap, e = .returned (.slice ao (partB l i n).length cap) ∧ Row w' ao (partB l i n) cap ∧ Below w.heap.size w w' := by
    rintro h0 e w' ⟨rfl, rfl⟩
    rw [h0]
    exact ⟨none, 0, rfl, Row.none _, Below.refl _ _⟩
  have hl := h.len
  by_cases hn : n ≤ 0
  · refine (refBytes_e w b i n hn).mono (hnil ?_)
    have : n.toNat = 0 := by omega
    simp [partB, this]
  · by_cases hi : 256 ≤ i
    · refine (refBytes_f w b i n (by omega) hi).mono (hnil ?_)
      unfold partB
      rw [List.drop_eq_nil_of_le (by omega), List.take_nil]
    · by_cases h0 : i < 0
      · have e0 : partB l i n = partB l 0 n := by
          have : i.toNat = 0 := by omega
          simp [partB, this]
        rw [e0]
        by_cases h1 : n ≤ 256
        · exact refBytes_c w b l p c i n h h0 (by omega) h1
        · have e1 : partB l 0 n = partB l 0 256 := by
            unfold partB
            rw [List.take_of_length_le (by rw [List.length_drop]; omega), List.take_of_length_le (by rw [List.length_drop, hl]; decide)]
          rw [e1]
          exact refBytes_d w b l p c i n h h0 (by omega)
      · by_cases h1 : n ≤ 256 - i
        · exact refBytes_a w b l p c i n h (by omega) (by omega) (by omega) h1
        · have e1 : partB l i n = partB l i (256 - i) := by
            unfold partB
            rw [List.take_of_length_le (by rw [List.length_drop]; omega), List.take_of_length_le (by rw [List.length_drop, hl]; omega)]
          rw [e1]
          exact refBytes_b w b l p c i n h (by omega) (by omega) (by omega)
end Go.Proofs.Ytikjobjcpldhkaa

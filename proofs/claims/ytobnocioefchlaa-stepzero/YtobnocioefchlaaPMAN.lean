/- The row of an Op, and its kind, as the code says them. -/
import Derived.Test.YtobnocioefchlaaPMAM
import Derived.Test.YtobnocioefchlaaPMAJ
namespace Go.Proofs.Ytobnocioefchlaa
open Go.ChangeShapes Go.WideShapes Go.ChangeAt Go.RowKit
set_option linter.unusedVariables false
theorem shape_any (f : Int) (h0 : 0 ≤ f) (h1 : f ≤ 17) (w : World) : Calls Try.prog 90 #[.int .i64 f] w fun e w' => e = .returned (.agg (shC (shOf f))) ∧ Below w.heap.size w w' := by
  rcases (show f = 0 ∨ f = 1 ∨ f = 2 ∨ f = 3 ∨ f = 4 ∨ f = 5 ∨ f = 6 ∨ f = 7 ∨ f = 8 ∨ f = 9 ∨ f = 10 ∨ f = 11 ∨ f = 12 ∨ f = 13 ∨ f = 14 ∨ f = 15 ∨ f = 16 ∨ f = 17 by omega) with rfl | rfl | rfl | rfl | rfl | rfl | rfl | rfl | rfl | rfl | rfl | rfl | rfl | rfl | rfl | rfl | rfl | rfl
  · exact shape_0 w
  · exact shape_1 w
  · exact shape_2 w
  · exact shape_3 w
  · exact shape_4 w
  · exact shape_5 w
  · exact shape_6 w
  · exact shape_7 w
  · exact shape_8 w
  · exact shape_9 w
  · exact shape_10 w
  · exact shape_11 w
  · exact shape_12 w
  · exact shape_13 w
  · exact shape_14 w
  · exact shape_15 w
  · exact shape_16 w
  · exact shape_17 w
theorem linL_forms : linL.all (fun l => decide (0 ≤ l.form) && (decide (l.form ≤ 17) && (decide (0 ≤ l.num) && (decide (l.num < 64) && (decide (0 ≤ (shOf l.form).nat) && decide (0 ≤ (shOf l.form).rowAt)))))) = true := by kernel_rfl
theorem linL_at {k : Nat} (hk : k < 69) : 0 ≤ (linL.getD k noLn).form ∧ (linL.getD k noLn).form ≤ 17 ∧ 0 ≤ (linL.getD k noLn).num ∧ (linL.getD k noLn).num < 64 ∧ 0 ≤ (shOf (linL.getD k noLn).form).nat ∧ 0 ≤ (shOf (linL.getD k noLn).form).rowAt := by
  have h := List.all_eq_true.1 linL_forms (linL.getD k noLn) (by
    rw [List.getD_eq_getElem?_getD, List.getElem?_eq_getElem (by rw [linL_len]; exact hk)]
    exact List.getElem_mem _)
  simpa using h
/-- The row of a line. -/
def rowL (l : Ln) : Array Value := rowV l (shOf l.form)
theorem lineRow_at {k : Nat} (hk : k < 69) (w : World) : Calls Try.prog 67 #[.agg (lineA k)] w fun e w' => e = .returned (.agg (rowL (linL.getD k noLn))) ∧ Below w.heap.size w w' := by
  obtain ⟨h0, h1, _, _, h2, h3⟩ := linL_at hk
  exact lineRow_any _ _ h2 h3 (shape_any _ h0 h1) w
theorem flatL_cut : ∀ (l : List Ln) (k : Nat), k < l.length → ((flatL l).drop (k * 4)).take 4 = lineC (l.getD k noLn)
  | [], k, h => by simp at h
  | r :: l, 0, _ => rfl
  | r :: l, k + 1, h => by
    have := flatL_cut l k (by simpa using h)
    have e : (flatL (r :: l)).drop ((k + 1) * 4) = (flatL l).drop (k * 4) := by
      rw [show (k + 1) * 4 = 4 + k * 4 by omega, ← List.drop_drop]
      rfl
    rw [e]
    exact this
theorem linC_cut {k : Nat} (hk : k < 69) : linC.extract (k * 4) (k * 4 + 4) = lineA k := by
  have h := flatL_cut linL k (by rw [linL_len]; exact hk)
  apply Array.toList_inj.1
  rw [Array.toList_extract, List.extract_eq_take_drop]
  rw [show k * 4 + 4 - k * 4 = 4 by omega]
  exact h
theorem index_line {k : Nat} (hk : k < 69) (w : World) : (Instr.index 131 (.agg linC) (.int .i64 (k : Int))).run Try.prog w = .ok (.agg (lineA k)) w := by
  have h1 : (0 : Int) ≤ (k : Int) ∧ (k : Int) < ((69 : Nat) : Int) := by omega
  have hz : (sizeOf 130).run Try.prog w = .ok 4 w := by kernel_rfl
  rw [← linC_cut hk]
  simp [Instr.index, part, Sem.run_bind, run_underlying Try.underlying131, asIntOf, hk, hz, go_sem]
theorem row0_build (w : World) : (Instr.build 99 #[]).run Try.prog w = .ok (.agg row0) w := by kernel_rfl
def isOpB (op : Int) : Bool := decide (1 ≤ op) && decide (op ≤ 69)
theorem isOp_any (op : Int) (w : World) : Calls Try.prog 93 #[.int .i64 op] w fun e w' => e = .returned (.bool (isOpB op)) ∧ w' = w := by
  unfold isOpB
  by_cases h1 : 1 ≤ op
  · have d1 : decide (1 ≤ op) = true := decide_eq_true h1
    by_cases h2 : op ≤ 69
    · have d2 : decide (op ≤ 69) = true := decide_eq_true h2
      go_enter Try.func93, Try.ntmps93
      go_wp2
      go_ret
      exact ⟨ret_bool (by rw [d1, d2]; rfl), rfl⟩
    · have d2 : decide (op ≤ 69) = false := decide_eq_false h2
      go_enter Try.func93, Try.ntmps93
      go_wp2
      go_ret
      exact ⟨ret_bool rfl, rfl⟩
  · have d1 : decide (1 ≤ op) = false := decide_eq_false h1
    go_enter Try.func93, Try.ntmps93
    go_wp2
    go_ret
    exact ⟨ret_bool rfl, rfl⟩
/-- The row of an Op. -/
def rowP (op : Int) : Array Value := if isOpB op = true then rowL (linL.getD (op - 1).toNat noLn) else row0
theorem row_zero (w : World) : Blk (w.alloc (.cells row0 99)) w.heap.size row0 99 := Blk.new w _ _
set_option maxRecDepth 20000 in
theorem rowOf_no (op : Int) (h : isOpB op = false) (w : World) : Calls Try.prog 70 #[.int .i64 op] w fun e w' => e = .returned (.agg row0) ∧ Below w.heap.size w w' := by
  have HO := hidden (fun u => isOp_any op u)
  rw [h] at HO
  go_enter Try.func70, Try.ntmps70
  go_wp2_with (go_at_call 93; refine (HO.out _).mono ?_; rintro e w1 ⟨rfl, hww⟩; rw [hww]; clear hww w1)
  exact bodyPost_ret (results_cell_row rfl _ _ w.heap.size 99 row0 (0, 0) _ rfl (row_zero w) Try.underlying99 rfl sizeRow) rfl ⟨rfl, below_new w _⟩
set_option maxRecDepth 20000 in
set_option maxHeartbeats 1000000 in
theorem rowOf_yes {k : Nat} (hk : k < 69) (w : World) : Calls Try.prog 70 #[.int .i64 ((k : Int) + 1)] w fun e w' => e = .returned (.agg (rowL (linL.getD k noLn))) ∧ Below w.heap.size w w' := by
  have HO := hidden (fun u => isOp_any ((k : Int) + 1) u)
  rw [show isOpB ((k : Int) + 1) = true by unfold isOpB; rw [decide_eq_true (by omega), decide_eq_true (by omega)]; rfl] at HO
  have HL := hidden (fun u => lines_any u)
  have HR := hidden (fun u => lineRow_at hk u)
  have hix := fun u => index_line hk u
  obtain ⟨l, hl⟩ : ∃ l, linL.getD k noLn = l := ⟨_, rfl⟩
  rw [hl] at HR ⊢
  obtain ⟨rn, hrn⟩ : ∃ rn, w.heap.size = rn := ⟨_, rfl⟩
  obtain ⟨wb, hwb⟩ : ∃ wb, w.alloc (.cells #[.string ⟨#[]⟩, .int .i64 0, .int .u32 0, .int .u32 0, .int .u32 0, .int .i64 0, .int .u32 0, .int .i64 0, .int .i64 0, .bool false, .int .i64 0, .bool false] 99) = wb := ⟨_, rfl⟩
  have hRb : Blk wb rn row0 99 := by rw [← hwb, ← hrn]; exact Blk.new w _ _
  have hBb : Below w.heap.size w wb := by rw [← hwb]; exact below_new w _
  have HRB := hidden hRb
  have HBB := hidden hBb
  have hle : w.heap.size ≤ rn := by omega
  have HLE := hidden hle
  have e1 : (k : Int) + 1 - 1 = (k : Int) := by omega
  clear hRb hBb hle
  go_enter Try.func70, Try.ntmps70
  go_wp2_with (first | (go_at_call 93; refine (HO.out _).mono ?_; rintro e w1 ⟨rfl, hww⟩; rw [hww]; clear hww w1) | (go_at_call 66; refine (HL.out _).mono ?_; rintro e w1 ⟨rfl, hb1⟩; have HB1 := hidden hb1; clear hb1) | (go_at_call 67; refine (HR.out _).mono ?_; rintro e w2 ⟨rfl, hb2⟩; have HB2 := hidden hb2; clear hb2) | (refine wpList_storeRow (l := l) (s := shOf l.form) rfl rfl rfl rn rfl rfl ((HRB.out.later HB1.out).later HB2.out) ?_; rintro w5 hk5 hb5; have HK5 := hidden hk5; have HB5 := hidden hb5; clear hk5 hb5))
  have hb1 := HBB.out.trans (HB1.out.mono HBB.out.size)
  have hb2 := hb1.trans (HB2.out.mono hb1.size)
  exact bodyPost_ret (results_cell_row rfl _ _ rn 99 (rowL l) (0, 0) _ rfl HK5.out Try.underlying99 rfl sizeRow) rfl ⟨rfl, HB5.out w.heap.size w hb2 HLE.out⟩
/-- The kind of an Op. -/
def kindP (op : Int) : Int := if isOpB op = true then (linL.getD (op - 1).toNat noLn).kind else 0
theorem insKind_any (op : Int) (w : World) : Calls Try.prog 43 #[.int .i64 op] w fun e w' => e = .returned (.int .i64 (kindP op)) ∧ Below w.heap.size w w' := by
  unfold kindP
  cases h : isOpB op with
  | false =>
    rw [if_neg (by decide)]
    have HN := hidden (fun u => rowOf_no op h u)
    have hf : ∀ u, (Instr.field 99 (.agg row0) 1).run Try.prog u = .ok (.int .i64 0) u := fun u => by kernel_rfl
    go_enter Try.func43, Try.ntmps43
    go_wp2_with (go_at_call 70; refine (HN.out _).mono ?_; rintro e w1 ⟨rfl, hb1⟩; have HB1 := hidden hb1; clear hb1)
    go_ret
    exact ⟨rfl, HB1.out⟩
  | true =>
    rw [if_pos rfl]
    obtain ⟨k, rfl⟩ : ∃ k : Nat, op = (k : Int) + 1 := ⟨(op - 1).toNat, by unfold isOpB at h; simp only [Bool.and_eq_true, decide_eq_true_eq] at h; omega⟩
    have hk : k < 69 := by unfold isOpB at h; simp only [Bool.and_eq_true, decide_eq_true_eq] at h; omega
    have e1 : ((k : Int) + 1 - 1).toNat = k := by omega
    rw [e1]
    have HY := hidden (fun u => rowOf_yes hk u)
    obtain ⟨l, hl⟩ : ∃ l, linL.getD k noLn = l := ⟨_, rfl⟩
    rw [hl] at HY ⊢
    have hf : ∀ u, (Instr.field 99 (.agg (rowL l)) 1).run Try.prog u = .ok (.int .i64 l.kind) u := fun u => by kernel_rfl
    clear h e1
    go_enter Try.func43, Try.ntmps43
    go_wp2_with (go_at_call 70; refine (HY.out _).mono ?_; rintro e w1 ⟨rfl, hb1⟩; have HB1 := hidden hb1; clear hb1)
    go_ret
    exact ⟨rfl, HB1.out⟩
theorem kinds_all : (List.range 69).all (fun k => (linL.getD k noLn).kind == (if k < 47 then (linL.getD k noLn).kind else if k < 54 then 4 else if k < 59 then 5 else 2) && (decide (47 ≤ k) || ((linL.getD k noLn).kind != 4 && (linL.getD k noLn).kind != 5))) = true := by kernel_rfl
theorem kind_at {k : Nat} (hk : k < 69) : ((47 ≤ k ∧ k < 54) → (linL.getD k noLn).kind = 4) ∧ ((54 ≤ k ∧ k < 59) → (linL.getD k noLn).kind = 5) ∧ ((k < 47 ∨ 59 ≤ k) → (linL.getD k noLn).kind ≠ 4 ∧ (linL.getD k noLn).kind ≠ 5) := by
  have h := List.all_eq_true.1 kinds_all k (List.mem_range.2 hk)
  simp only [Bool.and_eq_true, beq_iff_eq, Bool.or_eq_true, decide_eq_true_eq, bne_iff_ne] at h
  obtain ⟨h1, h2⟩ := h
  refine ⟨fun h => ?_, fun h => ?_, fun h => ?_⟩
  · rw [if_neg (by omega), if_pos (by omega)] at h1; exact h1
  · rw [if_neg (by omega), if_neg (by omega), if_pos (by omega)] at h1; exact h1
  · rcases h with h | h
    · rcases h2 with h2 | h2
      · omega
      · exact h2
    · rw [if_neg (by omega), if_neg (by omega), if_neg (by omega)] at h1
      rw [h1]
      exact ⟨by decide, by decide⟩
theorem kindP_reads {op : Int} (h : 48 ≤ op ∧ op ≤ 54) : kindP op = 4 := by
  unfold kindP
  rw [if_pos (by unfold isOpB; rw [decide_eq_true (by omega), decide_eq_true (by omega)]; rfl)]
  exact (kind_at (by omega)).1 (by omega)
theorem kindP_writes {op : Int} (h : 55 ≤ op ∧ op ≤ 59) : kindP op = 5 := by
  unfold kindP
  rw [if_pos (by unfold isOpB; rw [decide_eq_true (by omega), decide_eq_true (by omega)]; rfl)]
  exact (kind_at (by omega)).2.1 (by omega)
theorem kindP_else {op : Int} (h : op < 48 ∨ 59 < op) : kindP op ≠ 4 ∧ kindP op ≠ 5 := by
  unfold kindP
  cases hb : isOpB op with
  | false =>
    rw [if_neg (by decide)]
    exact ⟨by decide, by decide⟩
  | true =>
    rw [if_pos rfl]
    unfold isOpB at hb
    simp only [Bool.and_eq_true, decide_eq_true_eq] at hb
    exact (kind_at (k := (op - 1).toNat) (by omega)).2.2 (by omega)
end Go.Proofs.Ytobnocioefchlaa
namespace Go.Proofs.Ytobnocioefchlaa
open Go.ChangeShapes Go.WideShapes Go.ChangeAt Go.RowKit
set_option linter.unusedVariables false
/-- Behind the bytes L of s stands s'. -/
def PokesTo : MS → List (Nat × UInt8) → MS → Prop
  | s, [], s' => s' = s
  | s, x :: L, s' => ∃ tv, PokesTo (s.pokeAt x.1 x.2 tv) L s'
theorem PokesTo.snoc : ∀ {L : List (Nat × UInt8)} {s s' : MS}, PokesTo s L s' → ∀ (x : Nat × UInt8) (tv : Value), PokesTo s (L ++ [x]) (s'.pokeAt x.1 x.2 tv)
  | [], s, s', h, x, tv => by
    have e : s' = s := h
    subst e
    exact ⟨tv, rfl⟩
  | y :: L, s, s', ⟨tv0, h⟩, x, tv => ⟨tv0, PokesTo.snoc h x tv⟩
theorem PokesTo.mb : ∀ {L : List (Nat × UInt8)} {s s' : MS}, PokesTo s L s' → s'.mb = s.mb
  | [], s, s', h => by rw [show s' = s from h]
  | x :: L, s, s', ⟨tv, h⟩ => (PokesTo.mb h).trans (pokeAt_mb s x.1 x.2 tv)
theorem PokesTo.ks : ∀ {L : List (Nat × UInt8)} {s s' : MS}, PokesTo s L s' → s'.ks = s.ks
  | [], s, s', h => by rw [show s' = s from h]
  | x :: L, s, s', ⟨tv, h⟩ => (PokesTo.ks h).trans (pokeAt_ks s x.1 x.2 tv)
theorem PokesTo.pm : ∀ {L : List (Nat × UInt8)} {s s' : MS}, PokesTo s L s' → s'.pm = s.pm
  | [], s, s', h => by rw [show s' = s from h]
  | x :: L, s, s', ⟨tv, h⟩ => (PokesTo.pm h).trans (pokeAt_pm s x.1 x.2 tv)
theorem PokesTo.on : ∀ {L : List (Nat × UInt8)} {s s' : MS}, PokesTo s L s' → s'.on = s.on
  | [], s, s', h => by rw [show s' = s from h]
  | x :: L, s, s', ⟨tv, h⟩ => (PokesTo.on h).trans (pokeAt_on s x.1 x.2 tv)
theorem PokesTo.most : ∀ {L : List (Nat × UInt8)} {s s' : MS}, PokesTo s L s' → s'.most = s.most
  | [], s, s', h => by rw [show s' = s from h]
  | x :: L, s, s', ⟨tv, h⟩ => (PokesTo.most h).trans (pokeAt_most s x.1 x.2 tv)
theorem PokesTo.c : ∀ {L : List (Nat × UInt8)} {s s' : MS}, PokesTo s L s' → s'.c ≤ s.c + L.length
  | [], s, s', h => by rw [show s' = s from h]; simp
  | x :: L, s, s', ⟨tv, h⟩ => by
    have h1 := PokesTo.c h
    have h2 := pokeAt_c s x.1 x.2 tv
    rw [List.length_cons]
    omega
/-- The plain pages behind bytes. -/
def pokesA : List (Nat × UInt8) → AM → AM
  | [], f => f
  | x :: L, f => pokesA L (apoke f x.1 x.2)
theorem PokesTo.abs : ∀ {L : List (Nat × UInt8)} {s s' : MS}, PokesTo s L s' → s'.abs = pokesA L s.abs
  | [], s, s', h => by rw [show s' = s from h]; rfl
  | x :: L, s, s', ⟨tv, h⟩ => by
    rw [PokesTo.abs h, abs_pokeAt]
    rfl
/-- Bytes from a place on. -/
def placesL (a : Nat) (bl : List UInt8) : List (Nat × UInt8) := (List.range bl.length).map fun j => (wrapAt a j, bl.getD j 0)
theorem placesL_len (a : Nat) (bl : List UInt8) : (placesL a bl).length = bl.length := by simp [placesL]
theorem placesL_take (a : Nat) (bl : List UInt8) (k : Nat) (hk : k < bl.length) : (placesL a bl).take (k + 1) = (placesL a bl).take k ++ [(wrapAt a k, bl.getD k 0)] := by
  rw [List.take_add_one]
  congr 1
  simp [placesL, hk]
theorem placesL_all (a : Nat) (bl : List UInt8) : (placesL a bl).take bl.length = placesL a bl := by
  rw [← placesL_len a bl, List.take_length]
end Go.Proofs.Ytobnocioefchlaa
namespace Go.Proofs.Ytobnocioefchlaa
open Go.ChangeShapes Go.WideShapes Go.ChangeAt Go.RowKit
set_option linter.unusedVariables false
/-- An instruction's value. -/
abbrev insC (op S T D A imm : Int) : Array Value := #[.int .i64 op, .int .i64 S, .int .i64 T, .int .i64 D, .int .i64 A, .int .u32 imm]
/-- Whether a place may not be, by its number. -/
def astrayB (op : Int) (a : Nat) : Bool := if op = 51 ∨ op = 58 then decide (a % 4 ≠ 0) else if op = 49 ∨ op = 53 ∨ op = 56 then decide (a % 2 ≠ 0) else false
theorem bne_t {x : Int} (h : (x == 0) = false) : (x != 0) = true := by unfold bne; rw [h]; rfl
theorem bne_f {x : Int} (h : (x == 0) = true) : (x != 0) = false := by unfold bne; rw [h]; rfl
set_option maxRecDepth 20000 in
theorem astray_w (op : Int) (h : op = 51 ∨ op = 58) (a : Nat) (ha : a < 4294967296) (w : World) : Calls Try.prog 94 #[.int .i64 op, .int .u32 (a : Int)] w fun e w' => e = .returned (.bool (decide (a % 4 ≠ 0))) ∧ w' = w := by
  by_cases h1 : a / 2 % 2 ≠ 0
  · rw [decide_eq_true (show a % 4 ≠ 0 by omega)]
    have f1 : ((a : Int) / 2 % 2 == 0) = false := beq_eq_false_iff_ne.2 (by omega)
    rcases h with rfl | rfl
    · go_enter Try.func94, Try.ntmps94
      go_wp2
      go_ret
      exact ⟨rfl, rfl⟩
    · go_enter Try.func94, Try.ntmps94
      go_wp2
      go_ret
      exact ⟨rfl, rfl⟩
  · have f1 : ((a : Int) / 2 % 2 == 0) = true := beq_iff_eq.2 (by omega)
    by_cases h2 : a % 2 ≠ 0
    · rw [decide_eq_true (show a % 4 ≠ 0 by omega)]
      have f2 : ((a : Int) % 2 == 0) = false := beq_eq_false_iff_ne.2 (by omega)
      rcases h with rfl | rfl
      · go_enter Try.func94, Try.ntmps94
        go_wp2
        go_ret
        exact ⟨ret_bool (bne_t f2), rfl⟩
      · go_enter Try.func94, Try.ntmps94
        go_wp2
        go_ret
        exact ⟨ret_bool (bne_t f2), rfl⟩
    · rw [decide_eq_false (show ¬ a % 4 ≠ 0 by omega)]
      have f2 : ((a : Int) % 2 == 0) = true := beq_iff_eq.2 (by omega)
      rcases h with rfl | rfl
      · go_enter Try.func94, Try.ntmps94
        go_wp2
        go_ret
        exact ⟨ret_bool (bne_f f2), rfl⟩
      · go_enter Try.func94, Try.ntmps94
        go_wp2
        go_ret
        exact ⟨ret_bool (bne_f f2), rfl⟩
set_option maxRecDepth 20000 in
theorem astray_h (op : Int) (h : op = 49 ∨ op = 53 ∨ op = 56) (a : Nat) (ha : a < 4294967296) (w : World) : Calls Try.prog 94 #[.int .i64 op, .int .u32 (a : Int)] w fun e w' => e = .returned (.bool (decide (a % 2 ≠ 0))) ∧ w' = w := by
  by_cases h2 : a % 2 ≠ 0
  · rw [decide_eq_true h2]
    have f2 : ((a : Int) % 2 == 0) = false := beq_eq_false_iff_ne.2 (by omega)
    rcases h with rfl | rfl | rfl
    · go_enter Try.func94, Try.ntmps94
      go_wp2
      go_ret
      exact ⟨ret_bool (bne_t f2), rfl⟩
    · go_enter Try.func94, Try.ntmps94
      go_wp2
      go_ret
      exact ⟨ret_bool (bne_t f2), rfl⟩
    · go_enter Try.func94, Try.ntmps94
      go_wp2
      go_ret
      exact ⟨ret_bool (bne_t f2), rfl⟩
  · rw [decide_eq_false h2]
    have f2 : ((a : Int) % 2 == 0) = true := beq_iff_eq.2 (by omega)
    rcases h with rfl | rfl | rfl
    · go_enter Try.func94, Try.ntmps94
      go_wp2
      go_ret
      exact ⟨ret_bool (bne_f f2), rfl⟩
    · go_enter Try.func94, Try.ntmps94
      go_wp2
      go_ret
      exact ⟨ret_bool (bne_f f2), rfl⟩
    · go_enter Try.func94, Try.ntmps94
      go_wp2
      go_ret
      exact ⟨ret_bool (bne_f f2), rfl⟩
set_option maxRecDepth 20000 in
theorem astray_o (op : Int) (h1 : (op == 51) = false) (h2 : (op == 58) = false) (h3 : (op == 49) = false) (h4 : (op == 53) = false) (h5 : (op == 56) = false) (a : Nat) (w : World) : Calls Try.prog 94 #[.int .i64 op, .int .u32 (a : Int)] w fun e w' => e = .returned (.bool false) ∧ w' = w := by
  go_enter Try.func94, Try.ntmps94
  go_wp2
  go_ret
  exact ⟨rfl, rfl⟩
theorem astray_any (op : Int) (a : Nat) (ha : a < 4294967296) (w : World) : Calls Try.prog 94 #[.int .i64 op, .int .u32 (a : Int)] w fun e w' => e = .returned (.bool (astrayB op a)) ∧ w' = w := by
  unfold astrayB
  by_cases h1 : op = 51 ∨ op = 58
  · rw [if_pos h1]
    exact astray_w op h1 a ha w
  · rw [if_neg h1]
    by_cases h2 : op = 49 ∨ op = 53 ∨ op = 56
    · rw [if_pos h2]
      exact astray_h op h2 a ha w
    · rw [if_neg h2]
      exact astray_o op (beq_eq_false_iff_ne.2 (by omega)) (beq_eq_false_iff_ne.2 (by omega)) (beq_eq_false_iff_ne.2 (by omega)) (beq_eq_false_iff_ne.2 (by omega)) (beq_eq_false_iff_ne.2 (by omega)) a w
/-- What a need says of a place. -/
def faultV (s : MS) (pm al pg : Int) (op : Int) (a : Nat) : Int := if astrayB op a = true then al else if bits .and .i64 (s.perm a) pm = 0 then pg else 0
theorem MemW.alloc {w : World} {s : MS} (h : MemW w s) (o : Obj) : MemW (w.alloc o) s := h.later (below_new w o)
set_option maxRecDepth 20000 in
theorem fault_any (w : World) (s : MS) (h : MemW w s) (pm al pg : Int) (op : Int) (a : Nat) (ha : a < 4294967296) : Calls Try.prog 74 #[.agg #[.int .i64 pm, .int .i64 al, .int .i64 pg], .pointer (some ⟨s.mb, 0, none⟩), .int .i64 op, .int .u32 (a : Int)] w fun e w' => e = .returned (.int .i64 (faultV s pm al pg op a)) ∧ Below w.heap.size w w' := by
  have HA := hidden (fun u => astray_any op a ha u)
  have hB := hidden (below_new w (.cells #[.int .i64 pm, .int .i64 al, .int .i64 pg] 139))
  have HM := hidden (h.alloc (.cells #[.int .i64 pm, .int .i64 al, .int .i64 pg] 139))
  unfold faultV
  clear h
  cases hs : astrayB op a with
  | true =>
    rw [hs] at HA
    rw [if_pos rfl]
    clear hs
    go_enter Try.func74, Try.ntmps74
    go_wp2_with (go_at_call 94; refine (HA.out _).mono ?_; rintro e w1 ⟨rfl, hww⟩; rw [hww]; clear hww w1)
    go_ret
    exact ⟨rfl, hB.out⟩
  | false =>
    rw [hs] at HA
    rw [if_neg (by decide)]
    clear hs
    have HP := hidden (fun m => permOf_any _ s a (HM.out.drewN m) ha)
    generalize s.perm a = p at HP ⊢
    by_cases hz : bits .and .i64 p pm = 0
    · have f1 : (bits .and .i64 p pm == 0) = true := beq_iff_eq.2 hz
      rw [if_pos hz]
      clear hz
      go_enter Try.func74, Try.ntmps74
      go_wp2_with (go_at_call 94; refine (HA.out _).mono ?_; rintro e w1 ⟨rfl, hww⟩; rw [hww]; clear hww w1)
      go_quiet ((go_at_call 39; exact Calls.quiet_of (HP.out _)))
      go_wp2
      go_ret
      exact ⟨rfl, below_drewN hB.out _⟩
    · have f1 : (bits .and .i64 p pm == 0) = false := beq_eq_false_iff_ne.2 hz
      rw [if_neg hz]
      clear hz
      go_enter Try.func74, Try.ntmps74
      go_wp2_with (go_at_call 94; refine (HA.out _).mono ?_; rintro e w1 ⟨rfl, hww⟩; rw [hww]; clear hww w1)
      go_quiet ((go_at_call 39; exact Calls.quiet_of (HP.out _)))
      go_wp2
      go_ret
      exact ⟨rfl, below_drewN hB.out _⟩
/-- The fault's kind of an instruction at a place. -/
def faultK (s : MS) (op : Int) (a : Nat) : Int := if kindP op = 4 then faultV s 4 2 5 op a else if kindP op = 5 then faultV s 2 3 6 op a else 0
set_option maxRecDepth 20000 in
theorem accKind_any (w : World) (s : MS) (h : MemW w s) (op S T D A imm : Int) (a : Nat) (ha : a < 4294967296) : Calls Try.prog 46 #[.pointer (some ⟨s.mb, 0, none⟩), .agg (insC op S T D A imm), .int .u32 (a : Int)] w fun e w' => e = .returned (.int .i64 (faultK s op a)) ∧ Below w.heap.size w w' := by
  have HK := hidden (fun u => insKind_any op u)
  have hB := hidden (below_new w (.cells (insC op S T D A imm) 62))
  have hI := Blk.new w (insC op S T D A imm) 62
  have HI := hidden hI
  have HM := hidden (h.alloc (.cells (insC op S T D A imm) 62))
  have HF := hidden (fun (u : World) (hm : MemW u s) (pm al pg : Int) => fault_any u s hm pm al pg op a ha)
  unfold faultK
  clear h hI
  obtain ⟨kd, hkd⟩ : ∃ kd, kindP op = kd := ⟨_, rfl⟩
  rw [hkd] at HK ⊢
  clear hkd
  by_cases h4 : kd = 4
  · rw [if_pos h4]
    subst h4
    go_enter Try.func46, Try.ntmps46
    go_wp2_with (first | (go_at_call 43; refine (HK.out _).mono ?_; rintro e w1 ⟨rfl, hb1⟩; have c1 : w1.cell? ⟨w.heap.size, 0, none⟩ = some (.int .i64 op) := (HI.out.later hb1).cell rfl; have HM1 := hidden (HM.out.later hb1); have HB1 := hidden (hB.out.trans (hb1.mono hB.out.size)); clear hb1) | (go_at_call 74; refine (HF.out _ HM1.out 4 2 5).mono ?_; rintro e w2 ⟨rfl, hb2⟩; have HB2 := hidden hb2; clear hb2))
    go_ret
    exact ⟨rfl, HB1.out.trans (HB2.out.mono HB1.out.size)⟩
  · rw [if_neg h4]
    have g4 : (kd == 4) = false := beq_eq_false_iff_ne.2 h4
    by_cases h5 : kd = 5
    · rw [if_pos h5]
      subst h5
      clear h4 g4
      go_enter Try.func46, Try.ntmps46
      go_wp2_with (first | (go_at_call 43; refine (HK.out _).mono ?_; rintro e w1 ⟨rfl, hb1⟩; have c1 : w1.cell? ⟨w.heap.size, 0, none⟩ = some (.int .i64 op) := (HI.out.later hb1).cell rfl; have HM1 := hidden (HM.out.later hb1); have HB1 := hidden (hB.out.trans (hb1.mono hB.out.size)); clear hb1) | (go_at_call 74; refine (HF.out _ HM1.out 2 3 6).mono ?_; rintro e w2 ⟨rfl, hb2⟩; have HB2 := hidden hb2; clear hb2))
      go_ret
      exact ⟨rfl, HB1.out.trans (HB2.out.mono HB1.out.size)⟩
    · rw [if_neg h5]
      have g5 : (kd == 5) = false := beq_eq_false_iff_ne.2 h5
      clear h4 h5
      go_enter Try.func46, Try.ntmps46
      go_wp2_with (go_at_call 43; refine (HK.out _).mono ?_; rintro e w1 ⟨rfl, hb1⟩; have HB1 := hidden (hB.out.trans (hb1.mono hB.out.size)); clear hb1)
      go_ret
      exact ⟨rfl, HB1.out⟩
/-- An instruction's word: its number, its fault's kind. -/
def fetchV (s : MS) (a : Nat) : Int × Int := if a % 4 ≠ 0 then (0, 1) else if bits .and .i64 (s.perm a) 1 = 0 then (0, 4) else ((preW s a 4 : Nat), 0)
set_option maxRecDepth 20000 in
theorem accFetch_any (w : World) (s : MS) (h : MemW w s) (a : Nat) (ha : a < 4294967296) : Calls Try.prog 23 #[.pointer (some ⟨s.mb, 0, none⟩), .int .u32 (a : Int)] w fun e w' => e = .returned (.tuple #[.int .u32 (fetchV s a).1, .int .i64 (fetchV s a).2]) ∧ ∃ n, w' = w.drewN n := by
  have HP := hidden (permOf_any w s a h ha)
  have HW := hidden (fun m => word_any (w.drewN m) s a (h.drewN m) ha)
  clear h
  by_cases h4 : a % 4 ≠ 0
  · have f1 : ((a : Int) % 4 == 0) = false := beq_eq_false_iff_ne.2 (by omega)
    rw [show fetchV s a = (0, 1) from if_pos h4]
    go_enter Try.func23, Try.ntmps23
    go_wp2
    go_ret2
    exact ⟨rfl, 0, rfl⟩
  · have f1 : ((a : Int) % 4 == 0) = true := beq_iff_eq.2 (by omega)
    unfold fetchV
    rw [if_neg h4]
    generalize s.perm a = p at HP ⊢
    by_cases hz : bits .and .i64 p 1 = 0
    · have f2 : (bits .and .i64 p 1 == 0) = true := beq_iff_eq.2 hz
      rw [if_pos hz]
      clear hz
      go_enter Try.func23, Try.ntmps23
      go_wp2_with (go_at_call 39; refine HP.out.mono ?_; rintro e w1 ⟨rfl, n, hww⟩; rw [hww]; clear hww w1)
      go_ret2
      exact ⟨rfl, n, rfl⟩
    · have f2 : (bits .and .i64 p 1 == 0) = false := beq_eq_false_iff_ne.2 hz
      rw [if_neg hz]
      clear hz
      go_enter Try.func23, Try.ntmps23
      go_wp2_with (first | (go_at_call 39; refine HP.out.mono ?_; rintro e w1 ⟨rfl, n, hww⟩; rw [hww]; clear hww w1) | (go_at_call 40; refine (HW.out _).mono ?_; rintro e w2 ⟨rfl, n2, hww2⟩; rw [hww2]; clear hww2 w2))
      go_ret2
      exact ⟨rfl, n + n2, rfl⟩
end Go.Proofs.Ytobnocioefchlaa

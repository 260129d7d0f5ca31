/- What the calls of layer 2 answer, walked over the text of the program. -/
import Derived.Test.YtcogepndninkeaaRows
import Derived.Test.YtcogepndninkeaaMath
import Derived.WalkKit
import Derived.ProofKit
import Derived.OpenShut
import Derived.Handy
import Derived.Laws.BitsAllLaws
import Derived.Laws.ShiftsVarLaws
namespace Go.Proofs.Ytcogepndninkeaa
open Go.ChangeShapes Go.WideShapes Go.ChangeAt Go.RowKit
set_option linter.unusedVariables false
theorem ret_int {k : IntKind} {a b : Int} (h : a = b) : Ending.returned (.int k a) = .returned (.int k b) := by rw [h]
theorem hidden {p : Prop} (h : p) : Hid p := h
theorem ret_bool {a b : Bool} (h : a = b) : Ending.returned (.bool a) = .returned (.bool b) := by rw [h]
theorem low1 (s : Nat) (h : s < 4294967296) : bits .and .u32 (s : Int) 1 = ((s % 2 : Nat) : Int) := by
  rw [u32_and _ _ (by omega) (by omega) (by omega) (by omega)]
  simp [Nat.and_one_is_mod]
theorem turned (s : Nat) (h : s < 4294967296) : bits .xor .u32 ((s : Int) / 2) 3988292384 = ((s / 2 ^^^ Crc.poly : Nat) : Int) := by
  rw [u32_xor _ _ (by omega) (by omega) (by omega) (by omega)]
  congr 1
set_option maxHeartbeats 1000000 in
theorem fall_any (a : Nat) (ha : a < 4294967296) (w : World) :
    Calls Try.prog 9 #[.int .u32 (a : Int), .int .i64 8] w fun e w' => e = .returned (.int .u32 ((Crc.bits 8 a : Nat) : Int)) ∧ w' = w := by
  go_enter Try.func9, Try.ntmps9
  go_wp2
  go_loop [0, 7] (fun h i => ∃ k s : Nat, k ≤ 8 ∧ i = .int .i64 (k : Int) ∧ h = .int .u32 (s : Int) ∧ s < 4294967296 ∧ Crc.bits (8 - k) s = Crc.bits 8 a) (fun _ i => 8 - (intOf i).toNat)
  case atStart => exact ⟨0, a, by omega, rfl, rfl, ha, rfl⟩
  case round =>
    obtain ⟨k, s, hk, rfl, rfl, hs, hb⟩ := hrel
    have hl := low1 s hs
    have ht := turned s hs
    have HB := hidden hb
    clear hb
    go_wp2
    · go_round
      case rel =>
        have h2 : s % 2 = 1 := by
          have h : ((s : Int) % 2 == 1) = true := by assumption
          have := beq_iff_eq.1 h
          omega
        have hk8 : k < 8 := by have h : (k : Int) < 8 := by assumption
                               omega
        refine ⟨k + 1, s / 2 ^^^ Crc.poly, by omega, by go_num, rfl, ?_, ?_⟩
        · have : s / 2 ^^^ Crc.poly < 2 ^ 32 := Nat.xor_lt_two_pow (by omega) (by decide)
          omega
        · have HB2 : Crc.bits (8 - k) s = Crc.bits 8 a := HB
          rw [← HB2, show 8 - k = (8 - (k + 1)) + 1 by omega]
          simp only [Crc.bits, Crc.bit1, if_pos h2]
      case measure => simp [intOf]; omega
    · go_round
      case rel =>
        have h2 : ¬ s % 2 = 1 := by
          have h : ((s : Int) % 2 == 1) = false := by assumption
          have := beq_eq_false_iff_ne.1 h
          omega
        have hk8 : k < 8 := by have h : (k : Int) < 8 := by assumption
                               omega
        refine ⟨k + 1, s / 2, by omega, by go_num, by go_num, by omega, ?_⟩
        have HB2 : Crc.bits (8 - k) s = Crc.bits 8 a := HB
        rw [← HB2, show 8 - k = (8 - (k + 1)) + 1 by omega]
        simp only [Crc.bits, Crc.bit1, if_neg h2]
      case measure => simp [intOf]; omega
    · have h8 : k = 8 := by have h : (8 : Int) ≤ (k : Int) := by assumption
                            omega
      subst h8
      go_ret
      have HB2 : Crc.bits (8 - 8) s = Crc.bits 8 a := HB
      exact ⟨ret_int (by rw [← HB2]; rfl), rfl⟩

theorem max_u32 : IntKind.u32.max = 4294967295 := by decide
theorem not32 (a : Nat) (h2 : a < 4294967296) : bits .xor .u32 IntKind.u32.max (a : Int) = ((4294967295 - a : Nat) : Int) := by
  rw [max_u32, u32_xor _ _ (by omega) (by omega) (by omega) (by omega)]
  have e : BitVec.allOnes 32 ^^^ BitVec.ofNat 32 a = ~~~ BitVec.ofNat 32 a := BitVec.allOnes_xor
  have e2 := congrArg BitVec.toNat e
  rw [BitVec.toNat_xor, BitVec.toNat_not, BitVec.toNat_allOnes, BitVec.toNat_ofNat, Nat.mod_eq_of_lt (by omega)] at e2
  simp only [Int.toNat_natCast]
  have e3 : (4294967295 : Int).toNat = 2 ^ 32 - 1 := by decide
  rw [e3, e2]
theorem xor8 (s b : Nat) (h : s < 4294967296) (hb : b < 256) : bits .xor .u32 (s : Int) (b : Int) = ((s ^^^ b : Nat) : Int) := by
  rw [u32_xor _ _ (by omega) (by omega) (by omega) (by omega)]
  simp
/-- The bytes ns lie where a slice of their number begins. -/
def RowN (w : World) (l : Option Addr) (ns : List Nat) : Prop :=
  ns = [] ∨ ∃ b off, l = some ⟨b, off, none⟩ ∧ ∀ j, j < ns.length → w.cell? ⟨b, off + j, none⟩ = some (.int .u8 ((ns.getD j 0 : Nat) : Int))
theorem below256 {ns : List Nat} (h : ∀ x ∈ ns, x < 256) (j : Nat) : ns.getD j 0 < 256 := by
  by_cases hj : j < ns.length
  · simp only [List.getD_eq_getElem?_getD, List.getElem?_eq_getElem hj, Option.getD_some]
    exact h _ (List.getElem_mem hj)
  · simp [List.getD_eq_getElem?_getD, List.getElem?_eq_none (by omega : ns.length ≤ j)]
theorem drop_get {ns : List Nat} {k : Nat} (h : k < ns.length) : ns.drop k = ns.getD k 0 :: ns.drop (k + 1) := by
  rw [List.drop_eq_getElem_cons h]
  simp [List.getD_eq_getElem?_getD, List.getElem?_eq_getElem h]
/-- The sum that goes on behind c. -/
def sumOf (c : Nat) (ns : List Nat) : Nat := 4294967295 - Crc.fold (4294967295 - c) ns
set_option maxHeartbeats 2000000 in
theorem more_any (c : Nat) (hc : c < 4294967296) (l : Option Addr) (cap : Nat) (ns : List Nat) (hns : Hid (∀ x ∈ ns, x < 256)) (w : World) (hr : RowN w l ns) (hlen : ns.length ≤ 140737488351232) :
    Calls Try.prog 8 #[.int .u32 (c : Int), .slice l ns.length cap] w fun e w' => e = .returned (.int .u32 ((sumOf c ns : Nat) : Int)) ∧ w' = w := by
  have hs0 : IntKind.u32.signed = false := rfl
  have hn := not32 c hc
  have Hr := hidden hr
  clear hr
  go_enter Try.func8, Try.ntmps8
  go_wp2
  go_loop [5, 12] (fun h i => ∃ k s : Nat, k ≤ ns.length ∧ i = .int .i64 (k : Int) ∧ h = .int .u32 (s : Int) ∧ s < 4294967296 ∧ Crc.fold s (ns.drop k) = Crc.fold (4294967295 - c) ns) (fun _ i => ns.length - (intOf i).toNat)
  case atStart => exact ⟨0, 4294967295 - c, by omega, rfl, rfl, by omega, rfl⟩
  case round =>
    obtain ⟨k, s, hk, rfl, rfl, hs, hb⟩ := hrel
    have HB := hidden hb
    clear hb
    by_cases hkl : k < ns.length
    · have HR : RowN w l ns := Hr
      rcases HR with hnil | ⟨b, off, rfl, hcell⟩
      · subst hnil; simp at hkl
      have hcl := hcell k hkl
      have hb8 := below256 hns k
      have hx := xor8 s (ns.getD k 0) hs hb8
      have Hc := hidden hcell
      clear hcell
      generalize hx0 : ns.getD k 0 = x at hcl hb8 hx
      have Hx := hidden hx0
      clear hx0
      have hlt : s ^^^ x < 4294967296 := by
        have : s ^^^ x < 2 ^ 32 := Nat.xor_lt_two_pow (by omega) (by omega)
        omega
      go_wp2_with (go_at_call 9; refine (fall_any _ hlt _).mono ?_; rintro e w' ⟨rfl, rfl⟩)
      go_round
      case rel =>
        have HB2 : Crc.fold s (ns.drop k) = Crc.fold (4294967295 - c) ns := HB
        have Hx2 : ns.getD k 0 = x := Hx
        refine ⟨k + 1, Crc.bits 8 (s ^^^ x), by omega, by go_num, rfl, Crc.bits_lt 8 hlt, ?_⟩
        rw [← HB2, drop_get hkl, Hx2, Crc.fold_cons]
        rfl
      case measure => simp [intOf]; omega
    · have hnot := not32 s hs
      go_wp2
      have hk2 : k = ns.length := by omega
      subst hk2
      have HB2 : Crc.fold s (ns.drop ns.length) = Crc.fold (4294967295 - c) ns := HB
      rw [List.drop_length] at HB2
      go_ret
      exact ⟨ret_int (by unfold sumOf; rw [← HB2]; rfl), rfl⟩
theorem of_any (l : Option Addr) (cap : Nat) (ns : List Nat) (hns : Hid (∀ x ∈ ns, x < 256)) (w : World) (hr : RowN w l ns) (hlen : ns.length ≤ 140737488351232) :
    Calls Try.prog 7 #[.slice l ns.length cap] w fun e w' => e = .returned (.int .u32 ((sumOf 0 ns : Nat) : Int)) ∧ w' = w := by
  have H := more_any 0 (by omega) l cap ns hns w hr hlen
  have HH := hidden hr
  clear hr
  go_enter Try.func7, Try.ntmps7
  go_wp2_with (go_at_call 8; refine H.mono ?_; rintro e w' ⟨rfl, rfl⟩)
  go_ret
  exact ⟨rfl, rfl⟩
theorem place_any (v n : Int) (h1 : 0 < n) (h2 : n ≤ 9223372036854775807) (h3 : -9223372036854775808 ≤ v) (h4 : v ≤ 9223372036854775807) (w : World) :
    Calls Try.prog 5 #[.int .i64 v, .int .i64 n] w fun e w' => e = .returned (.int .i64 (v % n)) ∧ w' = w := by
  have hz : (n == 0) = false := beq_eq_false_iff_ne.2 (by omega)
  have hne : ¬ n = 0 := by omega
  have ht1 : v.tmod n < n := Int.tmod_lt_of_pos v h1
  have ht2 : -n < v.tmod n := by have := Int.tmod_lt_of_pos (-v) h1; rw [Int.neg_tmod] at this; omega
  have he : v % n = if v.tmod n < 0 then v.tmod n + n else v.tmod n := by
    rcases Int.le_total 0 v with hv | hv
    · rw [Int.tmod_eq_emod_of_nonneg hv, if_neg (by have := Int.emod_nonneg v hne; omega)]
    · obtain ⟨u, rfl⟩ : ∃ u, v = -u := ⟨-v, by omega⟩
      have hu : 0 ≤ u := by omega
      rw [Int.neg_tmod, Int.tmod_eq_emod_of_nonneg hu]
      have h5 := Int.emod_nonneg u hne
      have h6 := Int.emod_lt_of_pos u h1
      by_cases hd : u % n = 0
      · rw [if_neg (by omega), hd]
        exact Int.emod_eq_zero_of_dvd (Int.dvd_neg.2 (Int.dvd_of_emod_eq_zero hd))
      · rw [if_pos (by omega)]
        have h7 : (-u) % n = (-(u % n) + n) % n := by
          have h8 : -u = -(u % n) + n * (-(u / n)) := by
            have := Int.emod_add_mul_ediv u n
            rw [Int.mul_neg]
            omega
          rw [h8, Int.add_mul_emod_self_left, Int.add_emod_right]
        rw [h7]
        exact Int.emod_eq_of_lt (by omega) (by omega)
  go_enter Try.func5, Try.ntmps5
  go_wp2
  · go_ret
    exact ⟨ret_int (by rw [he, if_pos (by assumption)]), rfl⟩
  · go_ret
    exact ⟨ret_int (by rw [he, if_neg (by omega)]), rfl⟩
theorem wpList_append_run {P : Program} {w : World} {ops : Array Oper} {rest : List Oper} {o : Oper} {a : Act} {Q : Exit → Act → World → Prop} (hgd : o.guard = none) (s x : Operand) (t tx : TypeId)
    (ho : o.op = .call { callee := .builtin .append, args := #[s, x], argTypes := #[t, tx] }) {vs vx v' : Value} {w' : World} (hs : a.eval s = vs) (hx : a.eval x = vx)
    (hr : (Builtin.append_ #[t, tx] o.type #[vs, vx]).run P w = .ok v' w') (h : wpList P ops Q rest (a.put o.dst v') w') : wpList P ops Q (o :: rest) a w :=
  wpList_plain hgd fun _ hK => by
    unfold Oper.wp execOp
    simp only [ho, resolve, invoke, builtin, Sem.run_bind, Sem.run_pure, Result.andThen_ok, List.map_toArray, List.map_cons, List.map_nil, hs, hx, hr]
    exact hK _ _ h
theorem own : ownKnob Try.prog.godebug = none := by kernel_rfl
theorem info5 : (Try.prog.info? 5).map (fun i => (i.zero, i.size, i.bytes)) = some (some (.int .u8 0), 1, 1) := by kernel_rfl
def cellsN (ns : List Nat) : List Value := ns.map fun (n : Nat) => Value.int .u8 (n : Int)
theorem cellsN_get (ns : List Nat) (j : Nat) (h : j < ns.length) : (cellsN ns)[j]? = some (Value.int .u8 ((ns.getD j 0 : Nat) : Int)) := by
  simp [cellsN, List.getD_eq_getElem?_getD, List.getElem?_eq_getElem h]
theorem bytes_any (b off cap : Nat) (ns : List Nat) (h0 : 0 < ns.length) (w : World) (hcell : ∀ j, j < ns.length → w.cell? ⟨b, off + j, none⟩ = some (.int .u8 ((ns.getD j 0 : Nat) : Int))) (hlen : ns.length ≤ 140737488351232) :
    Calls Try.prog 6 #[.slice (some ⟨b, off, none⟩) ns.length cap] w fun e w' => ∃ g cap', e = .returned (.slice (some ⟨g, 0, none⟩) ns.length cap') ∧ w'.ownsRow w.heap.size 5 1 (.slice (some ⟨g, 0, none⟩) ns.length cap') ns.length (cellsN ns) ∧ Below w.heap.size w w' := by
  obtain ⟨i0, hi, hz0, hz1, hz2⟩ := info_parts info5
  obtain ⟨v', w', hr, hown, hgrow, hnil⟩ := run_append_own (P := Try.prog) w w.heap.size 22 22 5 i0 (.int .u8 0) 1 1 Try.underlying22 hi hz0 hz1 hz2 rfl (by decide) _ 0 [] (World.ownsRow_nil w w.heap.size 5 1) ⟨b, off, none⟩ ns.length cap (cellsN ns) (by simp [cellsN])
    (by
      intro j u hu
      have hj : j < ns.length := by
        have := (List.getElem?_eq_some_iff.1 hu).1
        simpa [cellsN] using this
      rw [cellsN_get ns j hj] at hu
      have e := hcell j hj
      simp only [Option.some.injEq] at hu
      rw [← hu]
      rw [Addr.add_lit]
      exact e)
    (by intro u hu; simp only [cellsN, List.mem_map] at hu; obtain ⟨n, _, rfl⟩ := hu; rfl)
    (by simp only [maxLen]; omega) (by omega) (Nat.le_refl _)
  simp only [Nat.zero_add, List.nil_append] at hown
  rcases hown.2 with ⟨rfl, h⟩ | ⟨g, cap', cur, rfl, hb, hrest⟩
  · omega
  have hbel : Below w.heap.size w w' := (Below.refl _ _).grown hgrow (Nat.le_refl _) (by simp [Value.ownBlock])
  have H1 := hidden hown
  have H2 := hidden hbel
  clear hcell hown hgrow hnil hrest hbel
  go_enter Try.func6, Try.ntmps6
  go_wp2_with (at_builtin; refine wpList_append_run rfl _ _ 22 22 rfl rfl rfl hr ?_)
  go_ret
  exact ⟨g, cap', rfl, H1, H2⟩
end Go.Proofs.Ytcogepndninkeaa

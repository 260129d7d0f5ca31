/- ElfAll, walked. -/
import Derived.Test.YtjpmagekianpdaaRefParse
import Derived.Test.YtjpmagekianpdaaRefMake
namespace Go.Proofs.Ytjpmagekianpdaa
open Go.ChangeShapes Go.WideShapes Go.ChangeAt Go.RowKit
set_option linter.unusedVariables false
theorem cons_of_lenA {n : Nat} (xs : List Value) (h : xs.length = n + 1) : ∃ x ys, xs = x :: ys ∧ ys.length = n := by
  cases xs with
  | nil => simp at h
  | cons x ys => exact ⟨x, ys, rfl, by simpa using h⟩
theorem exec_eqlS {ρ : Operand → Value} {o : Oper} {x y : Operand} (A : ByteArray) (hop : o.op = .binOp .eql 9 x y 9) (hx : ρ x = .string A) (hy : ρ y = .string A) (w : World) : (execOp ρ o).run Try.prog w = .ok (.value (.bool true)) w := by
  unfold execOp
  rw [hop]
  simp [hx, hy, go_sem]
theorem size26 : (Try.prog.info? 26).map (·.size) = some 2 := by kernel_rfl
theorem load26 {w : World} {g : Nat} {a b : Value} (h : Blk w g #[a, b] 26) : (loadVar 26 ⟨g, 0, none⟩).run Try.prog w = .ok (.agg #[a, b]) w :=
  run_loadVar_row w g 26 26 _ _ _ h Try.underlying26 rfl size26
/-- What the slots of the region hold, whatever the order. -/
def phiAl (e0 c1 c2 ck ent ns nl pc qc cap mc nc : Nat) (pa qa ao ma na : Option Addr) (m : List UInt8) : Nat → Value → World → Prop
  | 0, x, _ => x = .int .i64 (c1 : Int)
  | 1, x, _ => x = .int .i64 (c1 : Int)
  | 2, x, _ => x = .bool true
  | 3, x, _ => x = .bool true
  | 4, x, _ => x = .agg #[.int .u32 (e0 : Int), .slice pa ns pc]
  | 5, x, _ => x = .agg #[.int .u32 (e0 : Int), .slice qa ns qc]
  | 6, x, _ => x = .bool true
  | 7, x, _ => x = .bool true
  | 8, x, _ => x = .bool true
  | 9, x, _ => x = .slice ma m.length mc
  | 10, x, _ => x = .string ⟨m.toArray⟩
  | 11, x, _ => x = .slice na m.length nc
  | 12, x, _ => x = .string ⟨m.toArray⟩
  | 13, x, _ => x = .bool true
  | 14, x, _ => x = .bool true
  | 15, x, _ => x = .bool true
  | 16, x, _ => x = .int .i64 (c2 : Int)
  | 17, x, _ => x = .int .i64 (c2 : Int)
  | 18, x, _ => x = .bool true
  | 19, x, _ => x = .bool true
  | 20, x, _ => x = .bool true
  | 21, x, _ => x = .agg #[.int .u32 (ent : Int), .slice ao nl cap]
  | 22, x, _ => x = .int .i64 (ck : Int)
  | 23, x, _ => x = .agg #[.int .u32 (ent : Int), .slice ao nl cap]
  | 24, x, _ => x = .int .i64 (ck : Int)
  | 25, x, _ => x = .bool true
  | 26, x, _ => x = .bool true
  | 27, x, _ => x = .bool true
  | 28, x, _ => x = .bool true
  | 29, x, _ => x = .bool true
  | 30, x, _ => x = .bool true
  | _ + 31, _, _ => True
theorem phiAl_mono (e0 c1 c2 ck ent ns nl pc qc cap mc nc : Nat) (pa qa ao ma na : Option Addr) (m : List UInt8) : ∀ i x w w', phiAl e0 c1 c2 ck ent ns nl pc qc cap mc nc pa qa ao ma na m i x w → Below w.heap.size w w' → phiAl e0 c1 c2 ck ent ns nl pc qc cap mc nc pa qa ao ma na m i x w'
  | 0, _, _, _, h, _ => h
  | 1, _, _, _, h, _ => h
  | 2, _, _, _, h, _ => h
  | 3, _, _, _, h, _ => h
  | 4, _, _, _, h, _ => h
  | 5, _, _, _, h, _ => h
  | 6, _, _, _, h, _ => h
  | 7, _, _, _, h, _ => h
  | 8, _, _, _, h, _ => h
  | 9, _, _, _, h, _ => h
  | 10, _, _, _, h, _ => h
  | 11, _, _, _, h, _ => h
  | 12, _, _, _, h, _ => h
  | 13, _, _, _, h, _ => h
  | 14, _, _, _, h, _ => h
  | 15, _, _, _, h, _ => h
  | 16, _, _, _, h, _ => h
  | 17, _, _, _, h, _ => h
  | 18, _, _, _, h, _ => h
  | 19, _, _, _, h, _ => h
  | 20, _, _, _, h, _ => h
  | 21, _, _, _, h, _ => h
  | 22, _, _, _, h, _ => h
  | 23, _, _, _, h, _ => h
  | 24, _, _, _, h, _ => h
  | 25, _, _, _, h, _ => h
  | 26, _, _, _, h, _ => h
  | 27, _, _, _, h, _ => h
  | 28, _, _, _, h, _ => h
  | 29, _, _, _, h, _ => h
  | 30, _, _, _, h, _ => h
  | _ + 31, _, _, _, _, _ => trivial
theorem list31 (xs : List Value) (h : xs.length = 31) : ∃ x0 x1 x2 x3 x4 x5 x6 x7 x8 x9 x10 x11 x12 x13 x14 x15 x16 x17 x18 x19 x20 x21 x22 x23 x24 x25 x26 x27 x28 x29 x30, xs = [x0, x1, x2, x3, x4, x5, x6, x7, x8, x9, x10, x11, x12, x13, x14, x15, x16, x17, x18, x19, x20, x21, x22, x23, x24, x25, x26, x27, x28, x29, x30] := by
  obtain ⟨x0, xs1, rfl, h1⟩ := cons_of_lenA (n := 30) xs h
  obtain ⟨x1, xs2, rfl, h2⟩ := cons_of_lenA (n := 29) xs1 h1
  obtain ⟨x2, xs3, rfl, h3⟩ := cons_of_lenA (n := 28) xs2 h2
  obtain ⟨x3, xs4, rfl, h4⟩ := cons_of_lenA (n := 27) xs3 h3
  obtain ⟨x4, xs5, rfl, h5⟩ := cons_of_lenA (n := 26) xs4 h4
  obtain ⟨x5, xs6, rfl, h6⟩ := cons_of_lenA (n := 25) xs5 h5
  obtain ⟨x6, xs7, rfl, h7⟩ := cons_of_lenA (n := 24) xs6 h6
  obtain ⟨x7, xs8, rfl, h8⟩ := cons_of_lenA (n := 23) xs7 h7
  obtain ⟨x8, xs9, rfl, h9⟩ := cons_of_lenA (n := 22) xs8 h8
  obtain ⟨x9, xs10, rfl, h10⟩ := cons_of_lenA (n := 21) xs9 h9
  obtain ⟨x10, xs11, rfl, h11⟩ := cons_of_lenA (n := 20) xs10 h10
  obtain ⟨x11, xs12, rfl, h12⟩ := cons_of_lenA (n := 19) xs11 h11
  obtain ⟨x12, xs13, rfl, h13⟩ := cons_of_lenA (n := 18) xs12 h12
  obtain ⟨x13, xs14, rfl, h14⟩ := cons_of_lenA (n := 17) xs13 h13
  obtain ⟨x14, xs15, rfl, h15⟩ := cons_of_lenA (n := 16) xs14 h14
  obtain ⟨x15, xs16, rfl, h16⟩ := cons_of_lenA (n := 15) xs15 h15
  obtain ⟨x16, xs17, rfl, h17⟩ := cons_of_lenA (n := 14) xs16 h16
  obtain ⟨x17, xs18, rfl, h18⟩ := cons_of_lenA (n := 13) xs17 h17
  obtain ⟨x18, xs19, rfl, h19⟩ := cons_of_lenA (n := 12) xs18 h18
  obtain ⟨x19, xs20, rfl, h20⟩ := cons_of_lenA (n := 11) xs19 h19
  obtain ⟨x20, xs21, rfl, h21⟩ := cons_of_lenA (n := 10) xs20 h20
  obtain ⟨x21, xs22, rfl, h22⟩ := cons_of_lenA (n := 9) xs21 h21
  obtain ⟨x22, xs23, rfl, h23⟩ := cons_of_lenA (n := 8) xs22 h22
  obtain ⟨x23, xs24, rfl, h24⟩ := cons_of_lenA (n := 7) xs23 h23
  obtain ⟨x24, xs25, rfl, h25⟩ := cons_of_lenA (n := 6) xs24 h24
  obtain ⟨x25, xs26, rfl, h26⟩ := cons_of_lenA (n := 5) xs25 h25
  obtain ⟨x26, xs27, rfl, h27⟩ := cons_of_lenA (n := 4) xs26 h26
  obtain ⟨x27, xs28, rfl, h28⟩ := cons_of_lenA (n := 3) xs27 h27
  obtain ⟨x28, xs29, rfl, h29⟩ := cons_of_lenA (n := 2) xs28 h28
  obtain ⟨x29, xs30, rfl, h30⟩ := cons_of_lenA (n := 1) xs29 h29
  obtain ⟨x30, xs31, rfl, h31⟩ := cons_of_lenA (n := 0) xs30 h30
  obtain rfl := List.eq_nil_of_length_eq_zero h31
  exact ⟨_, _, _, _, _, _, _, _, _, _, _, _, _, _, _, _, _, _, _, _, _, _, _, _, _, _, _, _, _, _, _, rfl⟩
set_option maxRecDepth 20000 in
set_option maxHeartbeats 8000000 in
theorem all_walk (w : World) (bo ao : Option Addr) (cap0 cap ent : Nat) (lb : List UInt8) (l : List Sg) (hr0 : Row w bo lb cap0) (hlb : lb.length ≤ 9223372036854775807) (h : Segs w ao l) (hcap : l.length ≤ cap) (hmax : cap ≤ 9223372036854775807) (he : ent < 4294967296) : Calls Try.prog 3 #[.slice bo lb.length cap0, .agg #[.int .u32 (ent : Int), .slice ao l.length cap]] w fun e w' => e = .returned (.bool true) ∧ Below w.heap.size w w' := by
  have hb0 := below_new w (.cells #[.int .u32 (ent : Int), .slice ao l.length cap] 26)
  have HF := hidden (Blk.new w #[.int .u32 (ent : Int), .slice ao l.length cap] 26)
  have HB0 := hidden hb0
  have H8 := hidden (few_any _ ao cap ent l (h.later hb0) hcap hmax)
  by_cases hbig : 20000 < lb.length
  · have hbig2 : (20000 : Int) < (lb.length : Int) := by omega
    clear h hr0 hb0
    go_enter Try.func3, Try.ntmps3
    go_wp2_with (first | (go_at_call 9; with_reducible refine (awake_any _).mono ?_; rintro e wz ⟨rfl, hb⟩; have HZ := hidden (bthen (Hid.out HB0) hb); clear hb))
    go_ret
    exact ⟨rfl, Hid.out HZ⟩
  have hbig2 : ¬ (20000 : Int) < (lb.length : Int) := by omega
  cases hfew : fewB l
  · rw [hfew] at H8
    clear h hr0 hb0 hfew
    go_enter Try.func3, Try.ntmps3
    go_wp2_with (first | (go_at_call 8; with_reducible refine (Hid.out H8).mono ?_; rintro e wa ⟨rfl, hb⟩; have HA := hidden (bthen (Hid.out HB0) hb); have HFA := hidden (Blk.later (Hid.out HF) hb); clear hb) | (go_at_call 9; with_reducible refine (awake_any _).mono ?_; rintro e wz ⟨rfl, hb⟩; have HZ := hidden (bthen (Hid.out HA) hb); clear hb))
    go_ret
    exact ⟨rfl, Hid.out HZ⟩
  rw [hfew] at H8
  have H11 : Hid (∀ w1, Below w.heap.size w w1 → Calls Try.prog 11 #[.slice bo lb.length cap0] w1 fun e w' => ∃ ba bc, e = .returned (.slice ba lb.length bc) ∧ Row w' ba lb bc ∧ Below w1.heap.size w1 w') := fun w1 hb => bytes_any w1 bo lb cap0 (hr0.later hb) (by omega)
  have H10 : Hid (∀ w1 ba bc, Row w1 ba lb bc → Calls Try.prog 10 #[.slice ba lb.length bc] w1 fun e w' => ∃ pa pc, e = .returned (.tuple #[.agg #[.int .u32 ((parseE lb).1 : Int), .slice pa (parseE lb).2.1.length pc], .int .i64 ((parseE lb).2.2 : Int)]) ∧ Segs w' pa (parseE lb).2.1 ∧ (parseE lb).2.1.length ≤ pc ∧ pc ≤ 9223372036854775807 ∧ Below w1.heap.size w1 w') := fun w1 ba bc hr => parse_any w1 ba lb bc hr (by omega)
  have H12 : Hid (∀ w1, Below w.heap.size w w1 → Calls Try.prog 12 #[.slice bo lb.length cap0] w1 fun e w' => ∃ pa pc, e = .returned (.tuple #[.agg #[.int .u32 ((parseE lb).1 : Int), .slice pa (parseE lb).2.1.length pc], .int .i64 ((parseE lb).2.2 : Int)]) ∧ Segs w' pa (parseE lb).2.1 ∧ (parseE lb).2.1.length ≤ pc ∧ pc ≤ 9223372036854775807 ∧ Below w1.heap.size w1 w') := fun w1 hb => rparse_any w1 bo lb cap0 (hr0.later hb) (by omega)
  have H13 : Hid (∀ w1, Below w.heap.size w w1 → Calls Try.prog 13 #[.agg #[.int .u32 (ent : Int), .slice ao l.length cap]] w1 fun e w' => ∃ ma mc, e = .returned (.tuple #[.slice ma (makeE ent l).1.length mc, .int .i64 ((makeE ent l).2 : Int)]) ∧ Row w' ma (makeE ent l).1 mc ∧ Below w1.heap.size w1 w') := fun w1 hb => (make_any w1 ao cap ent l (h.later hb) hcap hmax he).mono fun e w' ⟨v, h1, h2, h3⟩ => by
    obtain ⟨ma, mc, rfl, hr⟩ := h2.row
    exact ⟨ma, mc, h1, hr, h3⟩
  have H14 : Hid (∀ w1, Below w.heap.size w w1 → Calls Try.prog 14 #[.agg #[.int .u32 (ent : Int), .slice ao l.length cap]] w1 fun e w' => ∃ ma mc, e = .returned (.tuple #[.slice ma (makeE ent l).1.length mc, .int .i64 ((makeE ent l).2 : Int)]) ∧ Row w' ma (makeE ent l).1 mc ∧ Below w1.heap.size w1 w') := fun w1 hb => (rmake_any w1 ao cap ent l (h.later hb) hcap hmax he).mono fun e w' ⟨v, h1, h2, h3⟩ => by
    obtain ⟨ma, mc, rfl, hr⟩ := h2.row
    exact ⟨ma, mc, h1, hr, h3⟩
  have H16a : Hid (∀ w1, Below w.heap.size w w1 → Calls Try.prog 16 #[.agg #[.int .u32 (ent : Int), .slice ao l.length cap]] w1 fun e w' => e = .returned (.int .i64 (checkE ent l : Int)) ∧ Below w1.heap.size w1 w') := fun w1 hb => check_any w1 ao cap ent l (h.later hb) hcap hmax he
  have H17a : Hid (∀ w1, Below w.heap.size w w1 → Calls Try.prog 17 #[.agg #[.int .u32 (ent : Int), .slice ao l.length cap]] w1 fun e w' => e = .returned (.int .i64 (checkE ent l : Int)) ∧ Below w1.heap.size w1 w') := fun w1 hb => rcheck_any w1 ao cap ent l (h.later hb) hcap hmax he
  clear h hr0 hb0 hfew
  generalize (parseE lb).1 = e0 at H10 H12
  generalize (parseE lb).2.1 = sg0 at H10 H12
  generalize (parseE lb).2.2 = c1 at H10 H12
  generalize (makeE ent l).1 = m at H13 H14
  generalize (makeE ent l).2 = c2 at H13 H14
  generalize checkE ent l = ck at H16a H17a
  have hF8 := (Hid.out HF)
  go_enter Try.func3, Try.ntmps3
  go_wp2_with (first
    | (go_at_call 8; with_reducible refine (Hid.out H8).mono ?_; rintro e wa ⟨rfl, hb⟩; have HA := hidden (bthen (Hid.out HB0) hb); have HFA := hidden (Blk.later (Hid.out HF) hb); clear hb)
    | (go_at_call 11; with_reducible refine (Hid.out H11 wa (Hid.out HA)).mono ?_; rintro e wb ⟨ba, bc, rfl, hrb, hb⟩; have HB := hidden (bthen (Hid.out HA) hb); have HFB := hidden (Blk.later (Hid.out HFA) hb); have HRB := hidden hrb; clear hb hrb)
    | (go_at_call 10; with_reducible refine (Hid.out H10 wb ba bc (Hid.out HRB)).mono ?_; rintro e wc ⟨pa, pc, rfl, hsp, hpl, hpm, hb⟩; have HC := hidden (bthen (bthen (Hid.out HB) hb) (below_new wc (.cells #[.int .u32 (e0 : Int), .slice pa sg0.length pc] 26))); have HFC := hidden (Blk.later (Blk.later (Hid.out HFB) hb) (below_new wc (.cells #[.int .u32 (e0 : Int), .slice pa sg0.length pc] 26))); have HSP := hidden (Segs.later hsp (below_new wc (.cells #[.int .u32 (e0 : Int), .slice pa sg0.length pc] 26))); have HPA := hidden (Blk.new wc #[.int .u32 (e0 : Int), .slice pa sg0.length pc] 26); clear hb hsp)
    | (go_at_call 12; with_reducible refine (Hid.out H12 _ (Hid.out HC)).mono ?_; rintro e wd ⟨qa, qc, rfl, hsq, hql, hqm, hb⟩; have HD := hidden (bthen (bthen (Hid.out HC) hb) (below_new wd (.cells #[.int .u32 (e0 : Int), .slice qa sg0.length qc] 26))); have HFD := hidden (Blk.later (Blk.later (Hid.out HFC) hb) (below_new wd (.cells #[.int .u32 (e0 : Int), .slice qa sg0.length qc] 26))); have HSP2 := hidden (Segs.later (Segs.later (Hid.out HSP) hb) (below_new wd (.cells #[.int .u32 (e0 : Int), .slice qa sg0.length qc] 26))); have HSQ := hidden (Segs.later hsq (below_new wd (.cells #[.int .u32 (e0 : Int), .slice qa sg0.length qc] 26))); have HQA := hidden (Blk.new wd #[.int .u32 (e0 : Int), .slice qa sg0.length qc] 26); have HPA2 := hidden (Blk.later (Blk.later (Hid.out HPA) hb) (below_new wd (.cells #[.int .u32 (e0 : Int), .slice qa sg0.length qc] 26))); obtain ⟨f0, f1, hfl, hff⟩ := file_facts (Hid.out HFD); clear hb hsq)
    | (go_at_call 13; with_reducible refine (Hid.out H13 _ (Hid.out HD)).mono ?_; rintro e we ⟨ma, mc, rfl, hrm, hb⟩; have HE := hidden (bthen (Hid.out HD) hb); have HFE := hidden (Blk.later (Hid.out HFD) hb); have HSP3 := hidden (Segs.later (Hid.out HSP2) hb); have HSQ2 := hidden (Segs.later (Hid.out HSQ) hb); have HPA3 := hidden (Blk.later (Hid.out HPA2) hb); have HQA2 := hidden (Blk.later (Hid.out HQA) hb); have HRM := hidden hrm; clear f0 f1 hfl hff; obtain ⟨f0, f1, hfl, hff⟩ := file_facts (Hid.out HFE); clear hb hrm)
    | (go_at_call 14; with_reducible refine (Hid.out H14 _ (Hid.out HE)).mono ?_; rintro e wf ⟨na, nc, rfl, hrn, hb⟩; have HBF := hidden (bthen (Hid.out HE) hb); have HFF := hidden (Blk.later (Hid.out HFE) hb); have HSP4 := hidden (Segs.later (Hid.out HSP3) hb); have HSQ3 := hidden (Segs.later (Hid.out HSQ2) hb); have HBA := hidden (Blk.later (Hid.out HPA3) hb); have HBB := hidden (Blk.later (Hid.out HQA2) hb); have HM := hidden (Row.later (Hid.out HRM) hb); have HN := hidden hrn; clear f0 f1 hfl hff hb hrn))
  have H15 : Hid (∀ w1, Below wf.heap.size wf w1 → Calls Try.prog 15 #[.agg #[.int .u32 (e0 : Int), .slice pa sg0.length pc], .agg #[.int .u32 (e0 : Int), .slice qa sg0.length qc]] w1 fun e w' => e = .returned (.bool true) ∧ Below w1.heap.size w1 w') := fun w1 hb => same_any w1 pa qa pc qc e0 sg0 ((Hid.out HSP4).later hb) ((Hid.out HSQ3).later hb) hpl hql hpm hqm
  have H16 : Hid (∀ w1, Below wf.heap.size wf w1 → Calls Try.prog 16 #[.agg #[.int .u32 (ent : Int), .slice ao l.length cap]] w1 fun e w' => e = .returned (.int .i64 (ck : Int)) ∧ Below w1.heap.size w1 w') := fun w1 hb => Hid.out H16a w1 (bthen (Hid.out HBF) hb)
  have H17 : Hid (∀ w1, Below wf.heap.size wf w1 → Calls Try.prog 17 #[.agg #[.int .u32 (ent : Int), .slice ao l.length cap]] w1 fun e w' => e = .returned (.int .i64 (ck : Int)) ∧ Below w1.heap.size w1 w') := fun w1 hb => Hid.out H17a w1 (bthen (Hid.out HBF) hb)
  clear H16a H17a HF HFA HFB HFC HFD HFE HPA HPA2 HPA3 HQA HQA2 HRM HRB HA HB HC HD HE HSP HSP2 HSP3 HSQ HSQ2 hF8
  refine wp_region_on later_below [43, 44, 45, 46, 47, 48, 49, 50, 51, 52, 53, 54, 55, 56, 57, 58, 59, 60, 61, 62, 63, 64, 65, 66, 67, 68, 69, 70, 71, 72, 4] 31 (phiAl e0 c1 c2 ck ent sg0.length l.length pc qc cap mc nc pa qa ao ma na m) (by kernel_rfl) (by kernel_rfl) rfl rfl (phiAl_mono e0 c1 c2 ck ent sg0.length l.length pc qc cap mc nc pa qa ao ma na m) ?_ ?_
  · intro j hj xs w3 hxs hR hpre
    obtain ⟨x0, x1, x2, x3, x4, x5, x6, x7, x8, x9, x10, x11, x12, x13, x14, x15, x16, x17, x18, x19, x20, x21, x22, x23, x24, x25, x26, x27, x28, x29, x30, rfl⟩ := list31 xs hxs
    have hbw3 : Below wf.heap.size wf w3 := hR
    have hA3 := (Hid.out HBA).later hR
    have hB3 := (Hid.out HBB).later hR
    have hF3 := (Hid.out HFF).later hR
    have hM3 := (Hid.out HM).later hR
    have hN3 := (Hid.out HN).later hR
    rcases (show j = 0 ∨ j = 1 ∨ j = 2 ∨ j = 3 ∨ j = 4 ∨ j = 5 ∨ j = 6 ∨ j = 7 ∨ j = 8 ∨ j = 9 ∨ j = 10 ∨ j = 11 ∨ j = 12 ∨ j = 13 ∨ j = 14 ∨ j = 15 ∨ j = 16 ∨ j = 17 ∨ j = 18 ∨ j = 19 ∨ j = 20 ∨ j = 21 ∨ j = 22 ∨ j = 23 ∨ j = 24 ∨ j = 25 ∨ j = 26 ∨ j = 27 ∨ j = 28 ∨ j = 29 ∨ j = 30 by omega) with rfl | rfl | rfl | rfl | rfl | rfl | rfl | rfl | rfl | rfl | rfl | rfl | rfl | rfl | rfl | rfl | rfl | rfl | rfl | rfl | rfl | rfl | rfl | rfl | rfl | rfl | rfl | rfl | rfl | rfl | rfl
    · exact wpOp_run (.int .i64 (c1 : Int)) rfl (by kernel_rfl) (exec_move rfl (by kernel_rfl) w3) ⟨_, by kernel_rfl, rfl, Below.refl _ _⟩
    · exact wpOp_run (.int .i64 (c1 : Int)) rfl (by kernel_rfl) (exec_move rfl (by kernel_rfl) w3) ⟨_, by kernel_rfl, rfl, Below.refl _ _⟩
    · have e0 : x0 = .int .i64 (c1 : Int) := hpre 0 (by kernel_rfl)
      subst e0
      have e1 : x1 = .int .i64 (c1 : Int) := hpre 1 (by kernel_rfl)
      subst e1
      exact wpOp_run (.bool true) rfl (by kernel_rfl) (exec_eql (n := (c1 : Int)) 29 rfl Try.underlying29 (by kernel_rfl) (by kernel_rfl) w3) ⟨_, by kernel_rfl, rfl, Below.refl _ _⟩
    · have e2 : x2 = .bool true := hpre 2 (by kernel_rfl)
      subst e2
      exact wpOp_run (.bool true) rfl (by kernel_rfl) (exec_move rfl (by kernel_rfl) w3) ⟨_, by kernel_rfl, rfl, Below.refl _ _⟩
    · have e3 : x3 = .bool true := hpre 3 (by kernel_rfl)
      subst e3
      exact wpOp_run (.agg #[.int .u32 (e0 : Int), .slice pa sg0.length pc]) rfl (by kernel_rfl) (exec_load 26 rfl (by kernel_rfl) w3 (load26 hA3)) ⟨_, by kernel_rfl, rfl, Below.refl _ _⟩
    · have e3 : x3 = .bool true := hpre 3 (by kernel_rfl)
      subst e3
      exact wpOp_run (.agg #[.int .u32 (e0 : Int), .slice qa sg0.length qc]) rfl (by kernel_rfl) (exec_load 26 rfl (by kernel_rfl) w3 (load26 hB3)) ⟨_, by kernel_rfl, rfl, Below.refl _ _⟩
    · have e3 : x3 = .bool true := hpre 3 (by kernel_rfl)
      subst e3
      have e4 : x4 = .agg #[.int .u32 (e0 : Int), .slice pa sg0.length pc] := hpre 4 (by kernel_rfl)
      subst e4
      have e5 : x5 = .agg #[.int .u32 (e0 : Int), .slice qa sg0.length qc] := hpre 5 (by kernel_rfl)
      subst e5
      refine wpOp_callR (R := fun u w4 => u = .bool true ∧ Below w3.heap.size w3 w4) 15 #[.agg #[.int .u32 (e0 : Int), .slice pa sg0.length pc], .agg #[.int .u32 (e0 : Int), .slice qa sg0.length qc]] rfl (by kernel_rfl) (by kernel_rfl) ((Hid.out H15 w3 hbw3).mono fun e w4 ⟨he, hb⟩ => ⟨_, he, rfl, hb⟩) ?_
      rintro _ w4 ⟨rfl, hb⟩
      exact ⟨_, by kernel_rfl, rfl, hb⟩
    · have e3 : x3 = .bool true := hpre 3 (by kernel_rfl)
      subst e3
      have e6 : x6 = .bool true := hpre 6 (by kernel_rfl)
      subst e6
      exact wpOp_run (.bool true) rfl (by kernel_rfl) (by kernel_rfl) ⟨_, by kernel_rfl, rfl, Below.refl _ _⟩
    · have e7 : x7 = .bool true := hpre 7 (by kernel_rfl)
      subst e7
      exact wpOp_run (.bool true) rfl (by kernel_rfl) (exec_move rfl (by kernel_rfl) w3) ⟨_, by kernel_rfl, rfl, Below.refl _ _⟩
    · have e8 : x8 = .bool true := hpre 8 (by kernel_rfl)
      subst e8
      exact wpOp_run (.slice ma m.length mc) rfl (by kernel_rfl) (exec_move rfl (by kernel_rfl) w3) ⟨_, by kernel_rfl, rfl, Below.refl _ _⟩
    · have e8 : x8 = .bool true := hpre 8 (by kernel_rfl)
      subst e8
      have e9 : x9 = .slice ma m.length mc := hpre 9 (by kernel_rfl)
      subst e9
      exact wpOp_run (.string ⟨m.toArray⟩) rfl (by kernel_rfl) (exec_str (c := mc) m rfl (by kernel_rfl) w3 hM3.lies) ⟨_, by kernel_rfl, rfl, Below.refl _ _⟩
    · have e8 : x8 = .bool true := hpre 8 (by kernel_rfl)
      subst e8
      exact wpOp_run (.slice na m.length nc) rfl (by kernel_rfl) (exec_move rfl (by kernel_rfl) w3) ⟨_, by kernel_rfl, rfl, Below.refl _ _⟩
    · have e8 : x8 = .bool true := hpre 8 (by kernel_rfl)
      subst e8
      have e11 : x11 = .slice na m.length nc := hpre 11 (by kernel_rfl)
      subst e11
      exact wpOp_run (.string ⟨m.toArray⟩) rfl (by kernel_rfl) (exec_str (c := nc) m rfl (by kernel_rfl) w3 hN3.lies) ⟨_, by kernel_rfl, rfl, Below.refl _ _⟩
    · have e8 : x8 = .bool true := hpre 8 (by kernel_rfl)
      subst e8
      have e10 : x10 = .string ⟨m.toArray⟩ := hpre 10 (by kernel_rfl)
      subst e10
      have e12 : x12 = .string ⟨m.toArray⟩ := hpre 12 (by kernel_rfl)
      subst e12
      exact wpOp_run (.bool true) rfl (by kernel_rfl) (exec_eqlS ⟨m.toArray⟩ rfl (by kernel_rfl) (by kernel_rfl) w3) ⟨_, by kernel_rfl, rfl, Below.refl _ _⟩
    · have e8 : x8 = .bool true := hpre 8 (by kernel_rfl)
      subst e8
      have e13 : x13 = .bool true := hpre 13 (by kernel_rfl)
      subst e13
      exact wpOp_run (.bool true) rfl (by kernel_rfl) (by kernel_rfl) ⟨_, by kernel_rfl, rfl, Below.refl _ _⟩
    · have e14 : x14 = .bool true := hpre 14 (by kernel_rfl)
      subst e14
      exact wpOp_run (.bool true) rfl (by kernel_rfl) (exec_move rfl (by kernel_rfl) w3) ⟨_, by kernel_rfl, rfl, Below.refl _ _⟩
    · have e15 : x15 = .bool true := hpre 15 (by kernel_rfl)
      subst e15
      exact wpOp_run (.int .i64 (c2 : Int)) rfl (by kernel_rfl) (exec_move rfl (by kernel_rfl) w3) ⟨_, by kernel_rfl, rfl, Below.refl _ _⟩
    · have e15 : x15 = .bool true := hpre 15 (by kernel_rfl)
      subst e15
      exact wpOp_run (.int .i64 (c2 : Int)) rfl (by kernel_rfl) (exec_move rfl (by kernel_rfl) w3) ⟨_, by kernel_rfl, rfl, Below.refl _ _⟩
    · have e15 : x15 = .bool true := hpre 15 (by kernel_rfl)
      subst e15
      have e16 : x16 = .int .i64 (c2 : Int) := hpre 16 (by kernel_rfl)
      subst e16
      have e17 : x17 = .int .i64 (c2 : Int) := hpre 17 (by kernel_rfl)
      subst e17
      exact wpOp_run (.bool true) rfl (by kernel_rfl) (exec_eql (n := (c2 : Int)) 29 rfl Try.underlying29 (by kernel_rfl) (by kernel_rfl) w3) ⟨_, by kernel_rfl, rfl, Below.refl _ _⟩
    · have e15 : x15 = .bool true := hpre 15 (by kernel_rfl)
      subst e15
      have e18 : x18 = .bool true := hpre 18 (by kernel_rfl)
      subst e18
      exact wpOp_run (.bool true) rfl (by kernel_rfl) (by kernel_rfl) ⟨_, by kernel_rfl, rfl, Below.refl _ _⟩
    · have e19 : x19 = .bool true := hpre 19 (by kernel_rfl)
      subst e19
      exact wpOp_run (.bool true) rfl (by kernel_rfl) (exec_move rfl (by kernel_rfl) w3) ⟨_, by kernel_rfl, rfl, Below.refl _ _⟩
    · have e20 : x20 = .bool true := hpre 20 (by kernel_rfl)
      subst e20
      exact wpOp_run (.agg #[.int .u32 (ent : Int), .slice ao l.length cap]) rfl (by kernel_rfl) (exec_load 26 rfl (by kernel_rfl) w3 (load26 hF3)) ⟨_, by kernel_rfl, rfl, Below.refl _ _⟩
    · have e20 : x20 = .bool true := hpre 20 (by kernel_rfl)
      subst e20
      have e21 : x21 = .agg #[.int .u32 (ent : Int), .slice ao l.length cap] := hpre 21 (by kernel_rfl)
      subst e21
      refine wpOp_callR (R := fun u w4 => u = .int .i64 (ck : Int) ∧ Below w3.heap.size w3 w4) 16 #[.agg #[.int .u32 (ent : Int), .slice ao l.length cap]] rfl (by kernel_rfl) (by kernel_rfl) ((Hid.out H16 w3 hbw3).mono fun e w4 ⟨he, hb⟩ => ⟨_, he, rfl, hb⟩) ?_
      rintro _ w4 ⟨rfl, hb⟩
      exact ⟨_, by kernel_rfl, rfl, hb⟩
    · have e20 : x20 = .bool true := hpre 20 (by kernel_rfl)
      subst e20
      exact wpOp_run (.agg #[.int .u32 (ent : Int), .slice ao l.length cap]) rfl (by kernel_rfl) (exec_load 26 rfl (by kernel_rfl) w3 (load26 hF3)) ⟨_, by kernel_rfl, rfl, Below.refl _ _⟩
    · have e20 : x20 = .bool true := hpre 20 (by kernel_rfl)
      subst e20
      have e23 : x23 = .agg #[.int .u32 (ent : Int), .slice ao l.length cap] := hpre 23 (by kernel_rfl)
      subst e23
      refine wpOp_callR (R := fun u w4 => u = .int .i64 (ck : Int) ∧ Below w3.heap.size w3 w4) 17 #[.agg #[.int .u32 (ent : Int), .slice ao l.length cap]] rfl (by kernel_rfl) (by kernel_rfl) ((Hid.out H17 w3 hbw3).mono fun e w4 ⟨he, hb⟩ => ⟨_, he, rfl, hb⟩) ?_
      rintro _ w4 ⟨rfl, hb⟩
      exact ⟨_, by kernel_rfl, rfl, hb⟩
    · have e20 : x20 = .bool true := hpre 20 (by kernel_rfl)
      subst e20
      have e22 : x22 = .int .i64 (ck : Int) := hpre 22 (by kernel_rfl)
      subst e22
      have e24 : x24 = .int .i64 (ck : Int) := hpre 24 (by kernel_rfl)
      subst e24
      exact wpOp_run (.bool true) rfl (by kernel_rfl) (exec_eql (n := (ck : Int)) 29 rfl Try.underlying29 (by kernel_rfl) (by kernel_rfl) w3) ⟨_, by kernel_rfl, rfl, Below.refl _ _⟩
    · have e20 : x20 = .bool true := hpre 20 (by kernel_rfl)
      subst e20
      have e25 : x25 = .bool true := hpre 25 (by kernel_rfl)
      subst e25
      exact wpOp_run (.bool true) rfl (by kernel_rfl) (by kernel_rfl) ⟨_, by kernel_rfl, rfl, Below.refl _ _⟩
    · have e26 : x26 = .bool true := hpre 26 (by kernel_rfl)
      subst e26
      exact wpOp_run (.bool true) rfl (by kernel_rfl) (exec_move rfl (by kernel_rfl) w3) ⟨_, by kernel_rfl, rfl, Below.refl _ _⟩
    · have e27 : x27 = .bool true := hpre 27 (by kernel_rfl)
      subst e27
      refine wpOp_callR (R := fun u w4 => u = .bool true ∧ Below w3.heap.size w3 w4) 9 #[] rfl (by kernel_rfl) (by kernel_rfl) ((awake_any w3).mono fun e w4 ⟨he, hb⟩ => ⟨_, he, rfl, hb⟩) ?_
      rintro _ w4 ⟨rfl, hb⟩
      exact ⟨_, by kernel_rfl, rfl, hb⟩
    · have e27 : x27 = .bool true := hpre 27 (by kernel_rfl)
      subst e27
      have e28 : x28 = .bool true := hpre 28 (by kernel_rfl)
      subst e28
      exact wpOp_run (.bool true) rfl (by kernel_rfl) (by kernel_rfl) ⟨_, by kernel_rfl, rfl, Below.refl _ _⟩
    · have e29 : x29 = .bool true := hpre 29 (by kernel_rfl)
      subst e29
      exact wpOp_run (.bool true) rfl (by kernel_rfl) (by kernel_rfl) ⟨_, by kernel_rfl, rfl, Below.refl _ _⟩
  · intro xs w3 hxs hR hall
    obtain ⟨x0, x1, x2, x3, x4, x5, x6, x7, x8, x9, x10, x11, x12, x13, x14, x15, x16, x17, x18, x19, x20, x21, x22, x23, x24, x25, x26, x27, x28, x29, x30, rfl⟩ := list31 xs hxs
    have e30 : x30 = .bool true := hall 30 (by omega)
    subst e30
    have HB6 := hidden (bthen (Hid.out HBF) hR)
    clear hall hR hxs
    simp only [slotsOn, putAll, List.set_cons_succ, List.set_cons_zero]
    go_wp2
    go_ret
    exact ⟨rfl, Hid.out HB6⟩
end Go.Proofs.Ytjpmagekianpdaa

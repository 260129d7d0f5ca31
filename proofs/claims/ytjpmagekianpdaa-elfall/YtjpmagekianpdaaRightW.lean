/- ElfRight, walked. -/
import Derived.Test.YtjpmagekianpdaaBackW
namespace Go.Proofs.Ytjpmagekianpdaa
open Go.ChangeShapes Go.WideShapes Go.ChangeAt Go.RowKit
set_option linter.unusedVariables false
theorem parse_check (l : List UInt8) (h : (parseE l).2.2 = 0) : checkE (parseE l).1 (parseE l).2.1 = 0 := by
  unfold parseE at h ⊢
  by_cases h1 : headE l = 0
  · rw [if_neg (by rw [h1]; simp)] at h ⊢
    by_cases h2 : tableE l = false
    · rw [if_pos h2] at h; simp at h
    · rw [if_neg h2] at h ⊢
      cases h3 : segsE l (w16 l 44) (w32 l 28) []
      · rw [h3] at h; simp at h
      · rename_i segs
        rw [h3] at h
        simp only at h ⊢
        by_cases h4 : checkE (w32 l 24) segs = 0
        · rw [if_neg (by rw [h4]; simp)]
          exact h4
        · rw [if_pos h4] at h
          exact absurd h h4
  · rw [if_pos h1] at h
    exact absurd h h1
theorem parse_fits (l : List UInt8) : (parseE l).1 < 4294967296 := by
  unfold parseE
  split
  · simp
  · split
    · simp
    · split
      · simp
      · split
        · simp
        · exact w32_lt _ _
theorem parse_head {l : List UInt8} {c : Nat} (h : headE l = c) (hc : c ≠ 0) : parseE l = (0, [], c) := by
  unfold parseE
  rw [if_pos (by rw [h]; exact hc), h]
theorem head_short {l : List UInt8} (h : l.length < 52) : headE l = 3 := by
  unfold headE
  rw [if_neg (by omega), if_pos h]
theorem xor_ne {x b : UInt8} (h : b ≠ 0) : x ^^^ b ≠ x := by
  intro e
  have : x ^^^ (x ^^^ b) = x ^^^ x := by rw [e]
  rw [← UInt8.xor_assoc, UInt8.xor_self, UInt8.zero_xor] at this
  exact h this
theorem head_turned (rest : List UInt8) (k : Nat) (hk : k < 7) (b : UInt8) (hb : b ≠ 0) (h1 : 45 ≤ rest.length) (h2 : rest.length + 7 ≤ 16384) :
    headE (([127, 69, 76, 70, 1, 2, 1] ++ rest).set k (([127, 69, 76, 70, 1, 2, 1] ++ rest).getD k 0 ^^^ b)) = if k < 4 then 6 else 7 := by
  have hl : (([127, 69, 76, 70, 1, 2, 1] ++ rest).set k (([127, 69, 76, 70, 1, 2, 1] ++ rest).getD k 0 ^^^ b)).length = rest.length + 7 := by
    rw [List.length_set, List.length_append]
    simp
    omega
  unfold headE
  rw [if_neg (by omega), if_neg (by omega)]
  rcases (show k = 0 ∨ k = 1 ∨ k = 2 ∨ k = 3 ∨ k = 4 ∨ k = 5 ∨ k = 6 by omega) with rfl | rfl | rfl | rfl | rfl | rfl | rfl
  · rw [if_pos (by show [127 ^^^ b, 69, 76, 70] ≠ magicB; intro e; exact xor_ne hb (List.cons.inj e).1)]; rfl
  · rw [if_pos (by show [127, 69 ^^^ b, 76, 70] ≠ magicB; intro e; exact xor_ne hb (List.cons.inj (List.cons.inj e).2).1)]; rfl
  · rw [if_pos (by show [127, 69, 76 ^^^ b, 70] ≠ magicB; intro e; exact xor_ne hb (List.cons.inj (List.cons.inj (List.cons.inj e).2).2).1)]; rfl
  · rw [if_pos (by show [127, 69, 76, 70 ^^^ b] ≠ magicB; intro e; exact xor_ne hb (List.cons.inj (List.cons.inj (List.cons.inj (List.cons.inj e).2).2).2).1)]; rfl
  · rw [if_neg (by show ¬ [127, 69, 76, 70] ≠ magicB; exact fun h => h rfl), if_pos (by show [1 ^^^ b, 2, 1] ≠ classB; intro e; exact xor_ne hb (List.cons.inj e).1)]; rfl
  · rw [if_neg (by show ¬ [127, 69, 76, 70] ≠ magicB; exact fun h => h rfl), if_pos (by show [1, 2 ^^^ b, 1] ≠ classB; intro e; exact xor_ne hb (List.cons.inj (List.cons.inj e).2).1)]; rfl
  · rw [if_neg (by show ¬ [127, 69, 76, 70] ≠ magicB; exact fun h => h rfl), if_pos (by show [1, 2, 1 ^^^ b] ≠ classB; intro e; exact xor_ne hb (List.cons.inj (List.cons.inj (List.cons.inj e).2).2).1)]; rfl
theorem fileB_seven (e : Nat) (l : List Sg) : ∃ rest, fileB e l = [127, 69, 76, 70, 1, 2, 1] ++ rest ∧ rest.length + 7 = (fileB e l).length := by
  refine ⟨padB ++ (put16 2 ++ put16 8) ++ (put32 1 ++ put32 e ++ put32 52 ++ put32 0 ++ put32 0) ++ (put16 52 ++ put16 32 ++ put16 l.length ++ put16 0 ++ put16 0 ++ put16 0) ++ rowsB (52 + 32 * l.length) l ++ datasB l, ?_, ?_⟩
  · simp [fileB, tableB, headB, magicB, classB]
  · rw [fileB_len]
    simp [padB, put16, put32, rowsB_len]
    omega
/-- A row of the call's own, its block in hand. -/
structure Blk2 (w : World) (g : Nat) (l : List UInt8) (cap : Nat) : Prop where
  max : cap ≤ maxLen
  blk : ∃ cur : Array Value, w.heap[g]? = some (.cells cur 5 (0, 0)) ∧ l.length ≤ cap ∧ cur.size = cap ∧ cur.toList.take l.length = cellsU l
theorem Blk2.later {w w' : World} {g : Nat} {l : List UInt8} {cap : Nat} (h : Blk2 w g l cap) (hb : Below w.heap.size w w') : Blk2 w' g l cap := by
  obtain ⟨cur, h1, h2⟩ := h.blk
  exact ⟨h.max, cur, (hb.block g (Array.getElem?_eq_some_iff.1 h1).1).trans h1, h2⟩
theorem Out.blk2 {w : World} {base : Nat} {v : Value} {l : List UInt8} (h : Out w base v l) (h0 : 0 < l.length) : ∃ g cap, v = .slice (some ⟨g, 0, none⟩) l.length cap ∧ base ≤ g ∧ Blk2 w g l cap := by
  rcases h.2 with ⟨_, hz⟩ | ⟨g, cap, cur, rfl, hg, hc, hn, hm, hs, ht⟩
  · omega
  · exact ⟨g, cap, rfl, hg, hm, cur, hc, hn, by simpa using hs, by simpa using ht⟩
theorem Blk2.cell {w : World} {g : Nat} {l : List UInt8} {cap : Nat} (h : Blk2 w g l cap) {j : Nat} (hj : j < l.length) : w.cell? ⟨g, j, none⟩ = some (.int .u8 ((l.getD j 0).toNat : Int)) := by
  obtain ⟨cur, h1, h2, h3, h4⟩ := h.blk
  rw [cell_of_row _ _ _ _ _ _ h1, ← Array.getElem?_toList, ← cellsU_get l j hj, ← h4, List.getElem?_take_of_lt hj]
theorem Blk2.row {w : World} {g : Nat} {l : List UInt8} {cap : Nat} (h : Blk2 w g l cap) : Row w (some ⟨g, 0, none⟩) l cap := by
  obtain ⟨cur, h1, h2, h3, h4⟩ := h.blk
  exact ⟨h2, h.max, by simp, .inr ⟨g, 0, rfl, fun j hj => by rw [Nat.zero_add]; exact h.cell hj⟩⟩
theorem Blk2.set {w : World} {g : Nat} {l : List UInt8} {cap : Nat} (h : Blk2 w g l cap) {j : Nat} (hj : j < l.length) (x : UInt8) : Blk2 (w.setCell ⟨g, j, none⟩ (.int .u8 (x.toNat : Int))) g (l.set j x) cap := by
  obtain ⟨cur, h1, h2, h3, h4⟩ := h.blk
  refine ⟨h.max, cur.setIfInBounds j (.int .u8 (x.toNat : Int)), heap_setCell_same _ _ _ _ _ _ h1, by rw [List.length_set]; exact h2, by simpa using h3, ?_⟩
  rw [List.length_set, Array.toList_setIfInBounds, List.take_set, h4]
  simp [cellsU, List.map_set]
theorem blk2_facts {w : World} {g : Nat} {l : List UInt8} {cap k : Nat} (h : Blk2 w g l cap) (hk : k < l.length) : w.cell? ⟨g, k, none⟩ = some (.int .u8 ((l.getD k 0).toNat : Int)) ∧ g < w.heap.size ∧ ∀ j, w.frozen? ⟨g, j, none⟩ = false := by
  refine ⟨h.cell hk, ?_⟩
  obtain ⟨cur, h1, _⟩ := h.blk
  exact ⟨(Array.getElem?_eq_some_iff.1 h1).1, fun j => frozen_of_row _ _ _ _ _ h1⟩
theorem blk2_at {w : World} {g : Nat} {l : List UInt8} {cap k yn : Nat} (h : Blk2 w g l cap) (hk : k < l.length) (hy : (l.getD k 0).toNat = yn) : w.cell? ⟨g, k, none⟩ = some (.int .u8 (yn : Int)) ∧ g < w.heap.size ∧ ∀ j, w.frozen? ⟨g, j, none⟩ = false := by
  rw [← hy]
  exact blk2_facts h hk
theorem xor_u8 (x b : UInt8) : bits .xor .u8 (x.toNat : Int) (b.toNat : Int) = ((x ^^^ b).toNat : Int) := by
  have hx := UInt8.toNat_lt x
  have hb := UInt8.toNat_lt b
  have e1 : (BitVec.ofInt 8 (x.toNat : Int)).toNat = x.toNat := by rw [BitVec.toNat_ofInt]; omega
  have e2 : (BitVec.ofInt 8 (b.toNat : Int)).toNat = b.toNat := by rw [BitVec.toNat_ofInt]; omega
  have e3 : (x ^^^ b).toNat = x.toNat ^^^ b.toNat := UInt8.toNat_xor x b
  have e4 : x.toNat ^^^ b.toNat < 2 ^ 8 := Nat.xor_lt_two_pow (by omega) (by omega)
  show IntKind.u8.wrap ((BitVec.ofInt 8 (x.toNat : Int) ^^^ BitVec.ofInt 8 (b.toNat : Int)).toNat : Nat) = _
  rw [BitVec.toNat_xor, e1, e2, e3, IntKind.wrap_u8]
  omega
theorem bytes_any (w : World) (bo : Option Addr) (l : List UInt8) (cap : Nat) (h : Row w bo l cap) (hl : l.length ≤ 20000) : Calls Try.prog 11 #[.slice bo l.length cap] w fun e w' => ∃ ba bc, e = .returned (.slice ba l.length bc) ∧ Row w' ba l bc ∧ Below w.heap.size w w' := by
  obtain ⟨ba, bc, w', hr, hrow, hb⟩ := run_behind w none bo cap [] l (Row.none w) h.lies (by simp; omega)
  simp only [List.length_nil, Nat.zero_add, List.nil_append] at hr hrow
  have HR := hidden hr
  have HROW := hidden hrow
  have HB := hidden hb
  clear h hr hrow hb
  go_enter Try.func11, Try.ntmps11
  go_wp2_with (at_builtin; refine wpList_append_run rfl _ _ 22 22 rfl rfl rfl (Hid.out HR) ?_)
  go_ret
  exact ⟨_, _, rfl, Hid.out HROW, Hid.out HB⟩
set_option maxRecDepth 20000 in
set_option maxHeartbeats 4000000 in
theorem right_walk (w : World) (bo ao : Option Addr) (cap0 cap ent : Nat) (lb : List UInt8) (l : List Sg) (at_ : Int) (bx : UInt8) (hr0 : Row w bo lb cap0) (hlb : lb.length ≤ 9223372036854775807) (h : Segs w ao l) (hcap : l.length ≤ cap) (hmax : cap ≤ 9223372036854775807) (he : ent < 4294967296) : Calls Try.prog 5 #[.slice bo lb.length cap0, .agg #[.int .u32 (ent : Int), .slice ao l.length cap], .int .i64 at_, .int .u8 (bx.toNat : Int)] w fun e w' => e = .returned (.bool true) ∧ Below w.heap.size w w' := by
  have hb0 := below_new w (.cells #[.int .u32 (ent : Int), .slice ao l.length cap] 26)
  have HF := hidden (Blk.new w #[.int .u32 (ent : Int), .slice ao l.length cap] 26)
  have HB0 := hidden hb0
  have H8 := hidden (few_any _ ao cap ent l (h.later hb0) hcap hmax)
  by_cases hbig : 20000 < lb.length
  · have hbig2 : (20000 : Int) < (lb.length : Int) := by omega
    clear h hr0 hb0
    go_enter Try.func5, Try.ntmps5
    go_wp2_with (first | (go_at_call 9; with_reducible refine (awake_any _).mono ?_; rintro e wz ⟨rfl, hb⟩; have HZ := hidden (bthen (Hid.out HB0) hb); clear hb))
    go_ret
    exact ⟨rfl, Hid.out HZ⟩
  have hbig2 : ¬ (20000 : Int) < (lb.length : Int) := by omega
  cases hfew : fewB l
  · rw [hfew] at H8
    clear h hr0 hb0 hfew
    go_enter Try.func5, Try.ntmps5
    go_wp2_with (first | (go_at_call 8; with_reducible refine (Hid.out H8).mono ?_; rintro e wa ⟨rfl, hb⟩; have HA := hidden (bthen (Hid.out HB0) hb); have HFA := hidden (Blk.later (Hid.out HF) hb); clear hb) | (go_at_call 9; with_reducible refine (awake_any _).mono ?_; rintro e wz ⟨rfl, hb⟩; have HZ := hidden (bthen (Hid.out HA) hb); clear hb))
    go_ret
    exact ⟨rfl, Hid.out HZ⟩
  rw [hfew] at H8
  have H11 : Hid (∀ w1, Below w.heap.size w w1 → Calls Try.prog 11 #[.slice bo lb.length cap0] w1 fun e w' => ∃ ba bc, e = .returned (.slice ba lb.length bc) ∧ Row w' ba lb bc ∧ Below w1.heap.size w1 w') := fun w1 hb => bytes_any w1 bo lb cap0 (hr0.later hb) (by omega)
  have H10 : Hid (∀ w1 ba bc, Row w1 ba lb bc → Calls Try.prog 10 #[.slice ba lb.length bc] w1 fun e w' => ∃ pa pc, e = .returned (.tuple #[.agg #[.int .u32 ((parseE lb).1 : Int), .slice pa (parseE lb).2.1.length pc], .int .i64 ((parseE lb).2.2 : Int)]) ∧ Segs w' pa (parseE lb).2.1 ∧ (parseE lb).2.1.length ≤ pc ∧ pc ≤ 9223372036854775807 ∧ Below w1.heap.size w1 w') := fun w1 ba bc hr => parse_any w1 ba lb bc hr (by omega)
  have H16 : Hid (∀ w1 pa pc, Segs w1 pa (parseE lb).2.1 → (parseE lb).2.1.length ≤ pc → pc ≤ 9223372036854775807 → Calls Try.prog 16 #[.agg #[.int .u32 ((parseE lb).1 : Int), .slice pa (parseE lb).2.1.length pc]] w1 fun e w' => e = .returned (.int .i64 (checkE (parseE lb).1 (parseE lb).2.1 : Int)) ∧ Below w1.heap.size w1 w') := fun w1 pa pc a1 a2 a3 => check_any w1 pa pc _ _ a1 a2 a3 (parse_fits lb)
  have hck := parse_check lb
  have H13 : Hid (∀ w1, Below w.heap.size w w1 → Calls Try.prog 13 #[.agg #[.int .u32 (ent : Int), .slice ao l.length cap]] w1 fun e w' => ∃ v, e = .returned (.tuple #[v, .int .i64 ((makeE ent l).2 : Int)]) ∧ Out w' w1.heap.size v (makeE ent l).1 ∧ Below w1.heap.size w1 w') := fun w1 hb => make_any w1 ao cap ent l (h.later hb) hcap hmax he
  clear h hr0 hb0 hfew
  generalize (parseE lb).1 = e0 at H10 H16 hck
  generalize (parseE lb).2.1 = sg0 at H10 H16 hck
  generalize (parseE lb).2.2 = c1 at H10 hck
  by_cases hm : (makeE ent l).2 = 0
  case neg =>
    have H13 : Hid (∀ w1, Below w.heap.size w w1 → Calls Try.prog 13 #[.agg #[.int .u32 (ent : Int), .slice ao l.length cap]] w1 fun e w' => ∃ va vc, e = .returned (.tuple #[.slice va 0 vc, .int .i64 ((makeE ent l).2 : Int)]) ∧ True ∧ Below w1.heap.size w1 w') := by
      intro w1 hb
      refine (Hid.out H13 w1 hb).mono ?_
      rintro e w' ⟨v, h1, h2, h3⟩
      rw [make_bad hm] at h2
      obtain ⟨va, vc, rfl, _⟩ := h2.row
      exact ⟨va, vc, h1, trivial, h3⟩
    have hm2 : ¬ (((makeE ent l).2 : Nat) : Int) = 0 := by omega
    generalize (makeE ent l).2 = c at H13 hm2
    clear hm
    by_cases hc1 : c1 = 0
    · subst hc1
      rw [hck rfl] at H16
      go_enter Try.func5, Try.ntmps5
      go_wp2_with (first | (go_at_call 8; with_reducible refine (Hid.out H8).mono ?_; rintro e wa ⟨rfl, hb⟩; have HA := hidden (bthen (Hid.out HB0) hb); have HFA := hidden (Blk.later (Hid.out HF) hb); clear hb) | (go_at_call 11; with_reducible refine (Hid.out H11 wa (Hid.out HA)).mono ?_; rintro e wb ⟨ba, bc, rfl, hr, hb⟩; have HB := hidden (bthen (Hid.out HA) hb); have HFB := hidden (Blk.later (Hid.out HFA) hb); have HRB := hidden hr; clear hb hr) | (go_at_call 10; with_reducible refine (Hid.out H10 wb ba bc (Hid.out HRB)).mono ?_; rintro e wc ⟨pa, pc, rfl, hsg, hpl, hpm, hb⟩; have hx := below_new wc (.cells #[.int .u32 (e0 : Int), .slice pa sg0.length pc] 26); have HC := hidden (bthen (bthen (Hid.out HB) hb) hx); have HFC := hidden (Blk.later (Blk.later (Hid.out HFB) hb) hx); have hfc0 := Blk.later (Hid.out HFB) hb;  have HSG := hidden (Segs.later hsg hx); clear hb hx hsg hfc0 HRB) | (go_at_call 16; with_reducible refine (Hid.out H16 _ pa pc (Hid.out HSG) hpl hpm).mono ?_; rintro e wd ⟨rfl, hb⟩; have HD := hidden (bthen (Hid.out HC) hb); have hfd := Blk.later (Hid.out HFC) hb; have d0 : wd.cell? ⟨w.heap.size, 0, none⟩ = some (.int .u32 (ent : Int)) := Blk.cell hfd rfl; have d1 : wd.cell? ⟨w.heap.size, 1, none⟩ = some (.slice ao l.length cap) := Blk.cell hfd rfl; have dl := Blk.lt hfd; clear hb hfd) | (go_at_call 13; with_reducible refine (Hid.out H13 _ (Hid.out HD)).mono ?_; rintro e we ⟨va, vc, rfl, ho, hb⟩; have HE := hidden (bthen (Hid.out HD) hb); clear ho; clear hb) | (go_at_call 9; with_reducible refine (awake_any _).mono ?_; rintro e wz ⟨rfl, hb⟩; have HZ := hidden (bthen (Hid.out HE) hb); clear hb))
      go_ret
      exact ⟨rfl, Hid.out HZ⟩
    · have hc12 : ¬ (c1 : Int) = 0 := by omega
      clear hck
      go_enter Try.func5, Try.ntmps5
      go_wp2_with (first | (go_at_call 8; with_reducible refine (Hid.out H8).mono ?_; rintro e wa ⟨rfl, hb⟩; have HA := hidden (bthen (Hid.out HB0) hb); have HFA := hidden (Blk.later (Hid.out HF) hb); clear hb) | (go_at_call 11; with_reducible refine (Hid.out H11 wa (Hid.out HA)).mono ?_; rintro e wb ⟨ba, bc, rfl, hr, hb⟩; have HB := hidden (bthen (Hid.out HA) hb); have HFB := hidden (Blk.later (Hid.out HFA) hb); have HRB := hidden hr; clear hb hr) | (go_at_call 10; with_reducible refine (Hid.out H10 wb ba bc (Hid.out HRB)).mono ?_; rintro e wc ⟨pa, pc, rfl, hsg, hpl, hpm, hb⟩; have hx := below_new wc (.cells #[.int .u32 (e0 : Int), .slice pa sg0.length pc] 26); have HC := hidden (bthen (bthen (Hid.out HB) hb) hx); have HFC := hidden (Blk.later (Blk.later (Hid.out HFB) hb) hx); have hfc0 := Blk.later (Hid.out HFB) hb; have d0 : wc.cell? ⟨w.heap.size, 0, none⟩ = some (.int .u32 (ent : Int)) := Blk.cell hfc0 rfl; have d1 : wc.cell? ⟨w.heap.size, 1, none⟩ = some (.slice ao l.length cap) := Blk.cell hfc0 rfl; have dl := Blk.lt hfc0; have HSG := hidden (Segs.later hsg hx); clear hb hx hsg hfc0 HRB) | (go_at_call 13; with_reducible refine (Hid.out H13 _ (Hid.out HC)).mono ?_; rintro e we ⟨va, vc, rfl, ho, hb⟩; have HE := hidden (bthen (Hid.out HC) hb); clear ho; clear hb) | (go_at_call 9; with_reducible refine (awake_any _).mono ?_; rintro e wz ⟨rfl, hb⟩; have HZ := hidden (bthen (Hid.out HE) hb); clear hb))
      go_ret
      exact ⟨rfl, Hid.out HZ⟩
  obtain ⟨m1, m2, m3⟩ := make_ok hm
  obtain ⟨rest, hrest, hrl⟩ := fileB_seven ent l
  have hfl := fileB_len ent l
  obtain ⟨fl, hfl2⟩ : ∃ fl, fl = fileB ent l := ⟨_, rfl⟩
  have hfl52 : 52 ≤ fl.length := by rw [hfl2]; omega
  have hfl16 : fl.length ≤ 16384 := by rw [hfl2]; exact m2
  have H13 : Hid (∀ w1, Below w.heap.size w w1 → Calls Try.prog 13 #[.agg #[.int .u32 (ent : Int), .slice ao l.length cap]] w1 fun e w' => ∃ v vc, e = .returned (.tuple #[v, .int .i64 0]) ∧ (∃ g, v = .slice (some ⟨g, 0, none⟩) fl.length vc ∧ w.heap.size ≤ g ∧ fl.length ≤ vc ∧ vc ≤ 9223372036854775807 ∧ Blk2 w' g fl vc) ∧ Below w1.heap.size w1 w') := by
    intro w1 hb
    refine (Hid.out H13 w1 hb).mono ?_
    rintro e w' ⟨v, h1, h2, h3⟩
    rw [m3, ← hfl2] at h2
    rw [hm] at h1
    obtain ⟨g, vc, rfl, a1, a2⟩ := h2.blk2 (by omega)
    refine ⟨_, vc, h1, ⟨g, rfl, Nat.le_trans hb.size a1, ?_, a2.max, a2⟩, h3⟩
    obtain ⟨cur, _, b2, _⟩ := a2.blk
    exact b2
  rw [hrest] at hfl2
  clear hm m1 m2 m3 hrest hfl
  have fl52 : ¬ (fl.length : Int) < 52 := by omega
  have fl52b : (52 : Int) ≤ (fl.length : Int) := by omega
  have HFL2 := hidden hfl2
  clear hfl2
  by_cases hbx : bx = 0
  · have hbx2 : (bx.toNat : Int) = 0 := by rw [hbx]; rfl
    clear hbx
    by_cases hc1 : c1 = 0
    · subst hc1
      rw [hck rfl] at H16
      go_enter Try.func5, Try.ntmps5
      go_wp2_with (first | (go_at_call 8; with_reducible refine (Hid.out H8).mono ?_; rintro e wa ⟨rfl, hb⟩; have HA := hidden (bthen (Hid.out HB0) hb); have HFA := hidden (Blk.later (Hid.out HF) hb); clear hb) | (go_at_call 11; with_reducible refine (Hid.out H11 wa (Hid.out HA)).mono ?_; rintro e wb ⟨ba, bc, rfl, hr, hb⟩; have HB := hidden (bthen (Hid.out HA) hb); have HFB := hidden (Blk.later (Hid.out HFA) hb); have HRB := hidden hr; clear hb hr) | (go_at_call 10; with_reducible refine (Hid.out H10 wb ba bc (Hid.out HRB)).mono ?_; rintro e wc ⟨pa, pc, rfl, hsg, hpl, hpm, hb⟩; have hx := below_new wc (.cells #[.int .u32 (e0 : Int), .slice pa sg0.length pc] 26); have HC := hidden (bthen (bthen (Hid.out HB) hb) hx); have HFC := hidden (Blk.later (Blk.later (Hid.out HFB) hb) hx); have hfc0 := Blk.later (Hid.out HFB) hb;  have HSG := hidden (Segs.later hsg hx); clear hb hx hsg hfc0 HRB) | (go_at_call 16; with_reducible refine (Hid.out H16 _ pa pc (Hid.out HSG) hpl hpm).mono ?_; rintro e wd ⟨rfl, hb⟩; have HD := hidden (bthen (Hid.out HC) hb); have hfd := Blk.later (Hid.out HFC) hb; have d0 : wd.cell? ⟨w.heap.size, 0, none⟩ = some (.int .u32 (ent : Int)) := Blk.cell hfd rfl; have d1 : wd.cell? ⟨w.heap.size, 1, none⟩ = some (.slice ao l.length cap) := Blk.cell hfd rfl; have dl := Blk.lt hfd; clear hb hfd) | (go_at_call 13; with_reducible refine (Hid.out H13 _ (Hid.out HD)).mono ?_; rintro e we ⟨va, vc, rfl, ho, hb⟩; have HE := hidden (bthen (Hid.out HD) hb); obtain ⟨g, rfl, hvl, hvv, hvm, hvb⟩ := ho; clear hvb; clear hb) | (go_at_call 9; with_reducible refine (awake_any _).mono ?_; rintro e wz ⟨rfl, hb⟩; have HZ := hidden (bthen (Hid.out HE) hb); clear hb))
      go_ret
      exact ⟨rfl, Hid.out HZ⟩
    · have hc12 : ¬ (c1 : Int) = 0 := by omega
      clear hck
      go_enter Try.func5, Try.ntmps5
      go_wp2_with (first | (go_at_call 8; with_reducible refine (Hid.out H8).mono ?_; rintro e wa ⟨rfl, hb⟩; have HA := hidden (bthen (Hid.out HB0) hb); have HFA := hidden (Blk.later (Hid.out HF) hb); clear hb) | (go_at_call 11; with_reducible refine (Hid.out H11 wa (Hid.out HA)).mono ?_; rintro e wb ⟨ba, bc, rfl, hr, hb⟩; have HB := hidden (bthen (Hid.out HA) hb); have HFB := hidden (Blk.later (Hid.out HFA) hb); have HRB := hidden hr; clear hb hr) | (go_at_call 10; with_reducible refine (Hid.out H10 wb ba bc (Hid.out HRB)).mono ?_; rintro e wc ⟨pa, pc, rfl, hsg, hpl, hpm, hb⟩; have hx := below_new wc (.cells #[.int .u32 (e0 : Int), .slice pa sg0.length pc] 26); have HC := hidden (bthen (bthen (Hid.out HB) hb) hx); have HFC := hidden (Blk.later (Blk.later (Hid.out HFB) hb) hx); have hfc0 := Blk.later (Hid.out HFB) hb; have d0 : wc.cell? ⟨w.heap.size, 0, none⟩ = some (.int .u32 (ent : Int)) := Blk.cell hfc0 rfl; have d1 : wc.cell? ⟨w.heap.size, 1, none⟩ = some (.slice ao l.length cap) := Blk.cell hfc0 rfl; have dl := Blk.lt hfc0; have HSG := hidden (Segs.later hsg hx); clear hb hx hsg hfc0 HRB) | (go_at_call 13; with_reducible refine (Hid.out H13 _ (Hid.out HC)).mono ?_; rintro e we ⟨va, vc, rfl, ho, hb⟩; have HE := hidden (bthen (Hid.out HC) hb); obtain ⟨g, rfl, hvl, hvv, hvm, hvb⟩ := ho; clear hvb; clear hb) | (go_at_call 9; with_reducible refine (awake_any _).mono ?_; rintro e wz ⟨rfl, hb⟩; have HZ := hidden (bthen (Hid.out HE) hb); clear hb))
      go_ret
      exact ⟨rfl, Hid.out HZ⟩
  have hbx2 : ¬ (bx.toNat : Int) = 0 := by
    intro e
    apply hbx
    apply UInt8.toNat_inj.1
    show bx.toNat = 0
    omega
  obtain ⟨p, hp52, hpE⟩ : ∃ p : Nat, p < 52 ∧ at_ % 52 = (p : Int) := ⟨(at_ % 52).toNat, by omega, by omega⟩
  obtain ⟨k, hk7, hkE⟩ : ∃ k : Nat, k < 7 ∧ at_ % 7 = (k : Int) := ⟨(at_ % 7).toNat, by omega, by omega⟩
  have H18a : Hid (∀ w, Calls Try.prog 18 #[.int .i64 at_, .int .i64 52] w fun e w' => e = .returned (.int .i64 (p : Int)) ∧ w' = w) := by
    intro w
    have := place_any at_ 52 (by omega) (by omega) w
    rw [hpE] at this
    exact this
  have H18b : Hid (∀ w, Calls Try.prog 18 #[.int .i64 at_, .int .i64 7] w fun e w' => e = .returned (.int .i64 (k : Int)) ∧ w' = w) := by
    intro w
    have := place_any at_ 7 (by omega) (by omega) w
    rw [hkE] at this
    exact this
  have H10s : Hid (∀ w1 g vc, Blk2 w1 g fl vc → Calls Try.prog 10 #[.slice (some ⟨g, 0, none⟩) p vc] w1 fun e w' => ∃ qa qc, e = .returned (.tuple #[.agg #[.int .u32 0, .slice qa 0 qc], .int .i64 3]) ∧ Below w1.heap.size w1 w') := by
    intro w1 g vc hb
    obtain ⟨cur, _, b2, _⟩ := hb.blk
    have hr := rowPiece hb.row 0 p (by omega) vc (by omega) hb.max
    rw [List.drop_zero, Nat.add_zero] at hr
    have hpl : (fl.take p).length = p := by rw [List.length_take]; omega
    have := parse_any w1 _ _ vc hr (by omega)
    rw [parse_head (head_short (by omega)) (by omega), hpl] at this
    refine this.mono ?_
    rintro e w' ⟨qa, qc, h1, _, _, _, h2⟩
    exact ⟨qa, qc, h1, h2⟩
  obtain ⟨X, hX⟩ : ∃ X, X = fl.getD k 0 ^^^ bx := ⟨_, rfl⟩
  have hht : headE (fl.set k X) = if k < 4 then 6 else 7 := by
    have hfl2 := Hid.out HFL2
    rw [hX, hfl2]
    exact head_turned rest k hk7 bx hbx (by rw [hfl2] at hfl52; simp at hfl52; omega) (by rw [hfl2] at hfl16; simp at hfl16; omega)
  have hxor := xor_u8 (fl.getD k 0) bx
  rw [← hX] at hxor
  have H10t : Hid (∀ w1 g vc o, Blk2 w1 g fl vc → Calls Try.prog 10 #[.slice (some ⟨g, 0, none⟩) fl.length vc] ((w1.setCell ⟨g, k, none⟩ (.int .u8 (X.toNat : Int))).alloc o) fun e w' => ∃ ra rc, e = .returned (.tuple #[.agg #[.int .u32 0, .slice ra 0 rc], .int .i64 ((if k < 4 then 6 else 7 : Nat) : Int)]) ∧ Below ((w1.setCell ⟨g, k, none⟩ (.int .u8 (X.toNat : Int))).alloc o).heap.size ((w1.setCell ⟨g, k, none⟩ (.int .u8 (X.toNat : Int))).alloc o) w') := by
    intro w1 g vc o hb
    have hb2 := (hb.set (show k < fl.length by omega) X).later (below_new _ o)
    have := parse_any _ _ _ vc hb2.row (by rw [List.length_set]; omega)
    rw [parse_head hht (by split <;> omega), List.length_set] at this
    refine this.mono ?_
    rintro e w' ⟨qa, qc, h1, _, _, _, h2⟩
    exact ⟨qa, qc, h1, h2⟩
  have HBT : Hid (∀ wf g o o2 wg, Below w.heap.size w wf → w.heap.size ≤ g → Below ((wf.setCell ⟨g, k, none⟩ (.int .u8 (X.toNat : Int))).alloc o).heap.size ((wf.setCell ⟨g, k, none⟩ (.int .u8 (X.toNat : Int))).alloc o) wg → Below w.heap.size w (wg.alloc o2)) := by
    intro wf g o o2 wg h1 h2 h3
    exact bthen (bthen (bthen (h1.setCell (p := ⟨g, k, none⟩) h2 _) (below_new _ o)) h3) (below_new wg o2)
  have k7 : k < fl.length := by omega
  have k72 : (k : Int) < (fl.length : Int) := by omega
  have p52 : (p : Int) ≤ 52 := by omega
  clear hrl hht hX hbx hpE hkE
  obtain ⟨yn, hyn⟩ : ∃ yn, (fl.getD k 0).toNat = yn := ⟨_, rfl⟩
  have HYN := hidden hyn
  rw [hyn] at hxor
  clear hyn
  generalize X.toNat = Xn at hxor H10t HBT
  generalize bx.toNat = bn at hxor hbx2 ⊢
  have hbx3 : ((bn : Int) == 0) = false := beq_eq_false_iff_ne.2 hbx2
  have hbx5 : ¬ bn = 0 := by omega
  have fl53 : decide ((fl.length : Int) < 52) = false := decide_eq_false fl52
  by_cases hk4 : k < 4
  · have hk42 : (k : Int) < 4 := by omega
    simp only [if_pos hk4] at H10t
    by_cases hc1 : c1 = 0
    · subst hc1
      rw [hck rfl] at H16
      go_enter Try.func5, Try.ntmps5
      go_wp2_with (first | (go_at_call 8; with_reducible refine (Hid.out H8).mono ?_; rintro e wa ⟨rfl, hb⟩; have HA := hidden (bthen (Hid.out HB0) hb); have HFA := hidden (Blk.later (Hid.out HF) hb); clear hb) | (go_at_call 11; with_reducible refine (Hid.out H11 wa (Hid.out HA)).mono ?_; rintro e wb ⟨ba, bc, rfl, hr, hb⟩; have HB := hidden (bthen (Hid.out HA) hb); have HFB := hidden (Blk.later (Hid.out HFA) hb); have HRB := hidden hr; clear hb hr) | (go_at_call 10; with_reducible refine (Hid.out H10 wb ba bc (Hid.out HRB)).mono ?_; rintro e wc ⟨pa, pc, rfl, hsg, hpl, hpm, hb⟩; have hx := below_new wc (.cells #[.int .u32 (e0 : Int), .slice pa sg0.length pc] 26); have HC := hidden (bthen (bthen (Hid.out HB) hb) hx); have HFC := hidden (Blk.later (Blk.later (Hid.out HFB) hb) hx); have hfc0 := Blk.later (Hid.out HFB) hb;  have HSG := hidden (Segs.later hsg hx); clear hb hx hsg hfc0 HRB) | (go_at_call 16; with_reducible refine (Hid.out H16 _ pa pc (Hid.out HSG) hpl hpm).mono ?_; rintro e wd ⟨rfl, hb⟩; have HD := hidden (bthen (Hid.out HC) hb); have hfd := Blk.later (Hid.out HFC) hb; have d0 : wd.cell? ⟨w.heap.size, 0, none⟩ = some (.int .u32 (ent : Int)) := Blk.cell hfd rfl; have d1 : wd.cell? ⟨w.heap.size, 1, none⟩ = some (.slice ao l.length cap) := Blk.cell hfd rfl; have dl := Blk.lt hfd; clear hb hfd) | (go_at_call 13; with_reducible refine (Hid.out H13 _ (Hid.out HD)).mono ?_; rintro e we ⟨va, vc, rfl, ho, hb⟩; have HE := hidden (bthen (Hid.out HD) hb); obtain ⟨g, rfl, hvl, hvv, hvm, hvb⟩ := ho; have HO := hidden hvb; clear hvb; clear hb) | (go_at_call 18; first | (with_reducible refine (Hid.out H18a _).mono ?_; rintro e w18 ⟨rfl, hww⟩; rw [hww]; clear hww w18) | (with_reducible refine (Hid.out H18b _).mono ?_; rintro e w18 ⟨rfl, hww⟩; rw [hww]; clear hww w18)) | (go_at_call 10; with_reducible refine (Hid.out H10s we g vc (Hid.out HO)).mono ?_; rintro e wf ⟨qa, qc, rfl, hb⟩; have HFF := hidden (bthen (Hid.out HE) hb); have HOF := hidden (Blk2.later (Hid.out HO) hb); obtain ⟨y0, hyl, hyf⟩ := blk2_at (Hid.out HOF) k7 (Hid.out HYN); clear hb HO) | (go_at_call 10; with_reducible refine (Hid.out H10t wf g vc (.cells #[.int .u32 0, .slice qa 0 qc] 26) (Hid.out HOF)).mono ?_; rintro e wg ⟨ra, rc, rfl, hb⟩; have HGG := hidden (Hid.out HBT wf g (.cells #[.int .u32 0, .slice qa 0 qc] 26) (.cells #[.int .u32 0, .slice ra 0 rc] 26) wg (Hid.out HFF) hvl hb); clear hb) | (go_at_call 9; with_reducible refine (awake_any _).mono ?_; rintro e wz ⟨rfl, hb⟩; have HZ := hidden (bthen (Hid.out HGG) hb); clear hb))
      go_ret
      exact ⟨rfl, Hid.out HZ⟩
    · have hc12 : ¬ (c1 : Int) = 0 := by omega
      clear hck
      go_enter Try.func5, Try.ntmps5
      go_wp2_with (first | (go_at_call 8; with_reducible refine (Hid.out H8).mono ?_; rintro e wa ⟨rfl, hb⟩; have HA := hidden (bthen (Hid.out HB0) hb); have HFA := hidden (Blk.later (Hid.out HF) hb); clear hb) | (go_at_call 11; with_reducible refine (Hid.out H11 wa (Hid.out HA)).mono ?_; rintro e wb ⟨ba, bc, rfl, hr, hb⟩; have HB := hidden (bthen (Hid.out HA) hb); have HFB := hidden (Blk.later (Hid.out HFA) hb); have HRB := hidden hr; clear hb hr) | (go_at_call 10; with_reducible refine (Hid.out H10 wb ba bc (Hid.out HRB)).mono ?_; rintro e wc ⟨pa, pc, rfl, hsg, hpl, hpm, hb⟩; have hx := below_new wc (.cells #[.int .u32 (e0 : Int), .slice pa sg0.length pc] 26); have HC := hidden (bthen (bthen (Hid.out HB) hb) hx); have HFC := hidden (Blk.later (Blk.later (Hid.out HFB) hb) hx); have hfc0 := Blk.later (Hid.out HFB) hb; have d0 : wc.cell? ⟨w.heap.size, 0, none⟩ = some (.int .u32 (ent : Int)) := Blk.cell hfc0 rfl; have d1 : wc.cell? ⟨w.heap.size, 1, none⟩ = some (.slice ao l.length cap) := Blk.cell hfc0 rfl; have dl := Blk.lt hfc0; have HSG := hidden (Segs.later hsg hx); clear hb hx hsg hfc0 HRB) | (go_at_call 13; with_reducible refine (Hid.out H13 _ (Hid.out HC)).mono ?_; rintro e we ⟨va, vc, rfl, ho, hb⟩; have HE := hidden (bthen (Hid.out HC) hb); obtain ⟨g, rfl, hvl, hvv, hvm, hvb⟩ := ho; have HO := hidden hvb; clear hvb; clear hb) | (go_at_call 18; first | (with_reducible refine (Hid.out H18a _).mono ?_; rintro e w18 ⟨rfl, hww⟩; rw [hww]; clear hww w18) | (with_reducible refine (Hid.out H18b _).mono ?_; rintro e w18 ⟨rfl, hww⟩; rw [hww]; clear hww w18)) | (go_at_call 10; with_reducible refine (Hid.out H10s we g vc (Hid.out HO)).mono ?_; rintro e wf ⟨qa, qc, rfl, hb⟩; have HFF := hidden (bthen (Hid.out HE) hb); have HOF := hidden (Blk2.later (Hid.out HO) hb); obtain ⟨y0, hyl, hyf⟩ := blk2_at (Hid.out HOF) k7 (Hid.out HYN); clear hb HO) | (go_at_call 10; with_reducible refine (Hid.out H10t wf g vc (.cells #[.int .u32 0, .slice qa 0 qc] 26) (Hid.out HOF)).mono ?_; rintro e wg ⟨ra, rc, rfl, hb⟩; have HGG := hidden (Hid.out HBT wf g (.cells #[.int .u32 0, .slice qa 0 qc] 26) (.cells #[.int .u32 0, .slice ra 0 rc] 26) wg (Hid.out HFF) hvl hb); clear hb) | (go_at_call 9; with_reducible refine (awake_any _).mono ?_; rintro e wz ⟨rfl, hb⟩; have HZ := hidden (bthen (Hid.out HGG) hb); clear hb))
      go_ret
      exact ⟨rfl, Hid.out HZ⟩
  · have hk42 : ¬ (k : Int) < 4 := by omega
    have hk43 : (4 : Int) ≤ (k : Int) := by omega
    simp only [if_neg hk4] at H10t
    by_cases hc1 : c1 = 0
    · subst hc1
      rw [hck rfl] at H16
      go_enter Try.func5, Try.ntmps5
      go_wp2_with (first | (go_at_call 8; with_reducible refine (Hid.out H8).mono ?_; rintro e wa ⟨rfl, hb⟩; have HA := hidden (bthen (Hid.out HB0) hb); have HFA := hidden (Blk.later (Hid.out HF) hb); clear hb) | (go_at_call 11; with_reducible refine (Hid.out H11 wa (Hid.out HA)).mono ?_; rintro e wb ⟨ba, bc, rfl, hr, hb⟩; have HB := hidden (bthen (Hid.out HA) hb); have HFB := hidden (Blk.later (Hid.out HFA) hb); have HRB := hidden hr; clear hb hr) | (go_at_call 10; with_reducible refine (Hid.out H10 wb ba bc (Hid.out HRB)).mono ?_; rintro e wc ⟨pa, pc, rfl, hsg, hpl, hpm, hb⟩; have hx := below_new wc (.cells #[.int .u32 (e0 : Int), .slice pa sg0.length pc] 26); have HC := hidden (bthen (bthen (Hid.out HB) hb) hx); have HFC := hidden (Blk.later (Blk.later (Hid.out HFB) hb) hx); have hfc0 := Blk.later (Hid.out HFB) hb;  have HSG := hidden (Segs.later hsg hx); clear hb hx hsg hfc0 HRB) | (go_at_call 16; with_reducible refine (Hid.out H16 _ pa pc (Hid.out HSG) hpl hpm).mono ?_; rintro e wd ⟨rfl, hb⟩; have HD := hidden (bthen (Hid.out HC) hb); have hfd := Blk.later (Hid.out HFC) hb; have d0 : wd.cell? ⟨w.heap.size, 0, none⟩ = some (.int .u32 (ent : Int)) := Blk.cell hfd rfl; have d1 : wd.cell? ⟨w.heap.size, 1, none⟩ = some (.slice ao l.length cap) := Blk.cell hfd rfl; have dl := Blk.lt hfd; clear hb hfd) | (go_at_call 13; with_reducible refine (Hid.out H13 _ (Hid.out HD)).mono ?_; rintro e we ⟨va, vc, rfl, ho, hb⟩; have HE := hidden (bthen (Hid.out HD) hb); obtain ⟨g, rfl, hvl, hvv, hvm, hvb⟩ := ho; have HO := hidden hvb; clear hvb; clear hb) | (go_at_call 18; first | (with_reducible refine (Hid.out H18a _).mono ?_; rintro e w18 ⟨rfl, hww⟩; rw [hww]; clear hww w18) | (with_reducible refine (Hid.out H18b _).mono ?_; rintro e w18 ⟨rfl, hww⟩; rw [hww]; clear hww w18)) | (go_at_call 10; with_reducible refine (Hid.out H10s we g vc (Hid.out HO)).mono ?_; rintro e wf ⟨qa, qc, rfl, hb⟩; have HFF := hidden (bthen (Hid.out HE) hb); have HOF := hidden (Blk2.later (Hid.out HO) hb); obtain ⟨y0, hyl, hyf⟩ := blk2_at (Hid.out HOF) k7 (Hid.out HYN); clear hb HO) | (go_at_call 10; with_reducible refine (Hid.out H10t wf g vc (.cells #[.int .u32 0, .slice qa 0 qc] 26) (Hid.out HOF)).mono ?_; rintro e wg ⟨ra, rc, rfl, hb⟩; have HGG := hidden (Hid.out HBT wf g (.cells #[.int .u32 0, .slice qa 0 qc] 26) (.cells #[.int .u32 0, .slice ra 0 rc] 26) wg (Hid.out HFF) hvl hb); clear hb) | (go_at_call 9; with_reducible refine (awake_any _).mono ?_; rintro e wz ⟨rfl, hb⟩; have HZ := hidden (bthen (Hid.out HGG) hb); clear hb))
      go_ret
      exact ⟨rfl, Hid.out HZ⟩
    · have hc12 : ¬ (c1 : Int) = 0 := by omega
      clear hck
      go_enter Try.func5, Try.ntmps5
      go_wp2_with (first | (go_at_call 8; with_reducible refine (Hid.out H8).mono ?_; rintro e wa ⟨rfl, hb⟩; have HA := hidden (bthen (Hid.out HB0) hb); have HFA := hidden (Blk.later (Hid.out HF) hb); clear hb) | (go_at_call 11; with_reducible refine (Hid.out H11 wa (Hid.out HA)).mono ?_; rintro e wb ⟨ba, bc, rfl, hr, hb⟩; have HB := hidden (bthen (Hid.out HA) hb); have HFB := hidden (Blk.later (Hid.out HFA) hb); have HRB := hidden hr; clear hb hr) | (go_at_call 10; with_reducible refine (Hid.out H10 wb ba bc (Hid.out HRB)).mono ?_; rintro e wc ⟨pa, pc, rfl, hsg, hpl, hpm, hb⟩; have hx := below_new wc (.cells #[.int .u32 (e0 : Int), .slice pa sg0.length pc] 26); have HC := hidden (bthen (bthen (Hid.out HB) hb) hx); have HFC := hidden (Blk.later (Blk.later (Hid.out HFB) hb) hx); have hfc0 := Blk.later (Hid.out HFB) hb; have d0 : wc.cell? ⟨w.heap.size, 0, none⟩ = some (.int .u32 (ent : Int)) := Blk.cell hfc0 rfl; have d1 : wc.cell? ⟨w.heap.size, 1, none⟩ = some (.slice ao l.length cap) := Blk.cell hfc0 rfl; have dl := Blk.lt hfc0; have HSG := hidden (Segs.later hsg hx); clear hb hx hsg hfc0 HRB) | (go_at_call 13; with_reducible refine (Hid.out H13 _ (Hid.out HC)).mono ?_; rintro e we ⟨va, vc, rfl, ho, hb⟩; have HE := hidden (bthen (Hid.out HC) hb); obtain ⟨g, rfl, hvl, hvv, hvm, hvb⟩ := ho; have HO := hidden hvb; clear hvb; clear hb) | (go_at_call 18; first | (with_reducible refine (Hid.out H18a _).mono ?_; rintro e w18 ⟨rfl, hww⟩; rw [hww]; clear hww w18) | (with_reducible refine (Hid.out H18b _).mono ?_; rintro e w18 ⟨rfl, hww⟩; rw [hww]; clear hww w18)) | (go_at_call 10; with_reducible refine (Hid.out H10s we g vc (Hid.out HO)).mono ?_; rintro e wf ⟨qa, qc, rfl, hb⟩; have HFF := hidden (bthen (Hid.out HE) hb); have HOF := hidden (Blk2.later (Hid.out HO) hb); obtain ⟨y0, hyl, hyf⟩ := blk2_at (Hid.out HOF) k7 (Hid.out HYN); clear hb HO) | (go_at_call 10; with_reducible refine (Hid.out H10t wf g vc (.cells #[.int .u32 0, .slice qa 0 qc] 26) (Hid.out HOF)).mono ?_; rintro e wg ⟨ra, rc, rfl, hb⟩; have HGG := hidden (Hid.out HBT wf g (.cells #[.int .u32 0, .slice qa 0 qc] 26) (.cells #[.int .u32 0, .slice ra 0 rc] 26) wg (Hid.out HFF) hvl hb); clear hb) | (go_at_call 9; with_reducible refine (awake_any _).mono ?_; rintro e wz ⟨rfl, hb⟩; have HZ := hidden (bthen (Hid.out HGG) hb); clear hb))
      go_ret
      exact ⟨rfl, Hid.out HZ⟩
end Go.Proofs.Ytjpmagekianpdaa

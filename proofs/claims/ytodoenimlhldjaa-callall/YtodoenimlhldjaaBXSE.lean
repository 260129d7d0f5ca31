/- A region that draws its order: two operations that each turn a thing of their own; the others read, in any order. -/
import Derived.Test.YtodoenimlhldjaaBMAR
import Derived.Test.YtodoenimlhldjaaBXSD
import Derived.Test.YtodoenimlhldjaaBXSC
namespace Go.Proofs.Ytodoenimlhldjaa
open Go Go.RowKit
set_option linter.unusedVariables false
section
variable {P : Program}
/-- Whatever the order: what holds of those that are done. -/
theorem wp_region_done {id : Nat} {Q : Exit → Act → World → Prop} {a : Act} {w : World} {l : List Oper} (n : Nat) (ds : List Nat) (Φ : (Nat → Bool) → List Value → World → Prop) (hm : P.follows .mixedOrders = true) (hB : headOkB l.toArray n = true) (hd : ds.length = n)
    (h0 : Φ (fun _ => false) (ds.map fun d => a.tmps.toList.getD d undef) w.drew)
    (hstep : ∀ (D : Nat → Bool) j, j < n → D j = false → (∀ i k, D i = true → waitsB .any l.toArray i k = true → D k = true) → (∀ i, waitsB .any l.toArray j i = true → i < n ∧ D i = true) → ∀ xs w', xs.length = n → Φ D xs w' →
      Runs P l.toArray Q j (fun a' w'' => ∃ v, a' = slotsOn a ds (xs.set j v) ∧ Φ (fun i => if i = j then true else D i) (xs.set j v) w'') (slotsOn a ds xs) w')
    (hfin : ∀ (D : Nat → Bool) xs w', xs.length = n → (∀ i, i < n → D i = true) → Φ D xs w' → wpList P l.toArray Q (l.drop n) (slotsOn a ds xs) w') :
    (Code.region id l.toArray true).wp P Q a w := by
  simp only [headOkB, Bool.and_eq_true, decide_eq_true_eq] at hB
  obtain ⟨⟨⟨⟨hn, hs⟩, hc⟩, hb⟩, hq⟩ := hB
  have key : ∀ (c : Nat) (L : Array Bool) (D : Nat → Bool) (xs : List Value) (w' : World), HeadInv .any l.toArray n L → (∀ i, D i = L.getD i false) → xs.length = n → Φ D xs w' → (L.toList.take n).count false = c →
      wpAny P .any l.toArray Q (c + (l.toArray.size - n)) L (slotsOn a ds xs) w' := by
    intro c
    induction c with
    | zero =>
      intro L D xs w' inv hD hx hΦ h0
      have hall : ∀ i, i < n → L.getD i false = true := by
        intro i hi
        cases h : L.getD i false with
        | true => rfl
        | false =>
          exfalso
          have hlt : i < L.size := by rw [inv.size]; omega
          have : false ∈ L.toList.take n := by
            rw [List.mem_iff_getElem?]
            refine ⟨i, ?_⟩
            rw [List.getElem?_take_of_lt hi]
            simp [hlt] at h ⊢
            exact h
          have := List.count_pos_iff.2 this
          omega
      have e := headDone_eq (L := L) (n := n) (g := l.toArray.size - n) (by rw [inv.size]; omega) hall (fun i h1 h2 => inv.tail i h1 (by omega))
      have hdl : (l.drop n).length = l.toArray.size - n := by simp
      have := wpAny_of_seq (P := P) (md := .any) (Q' := Q) (l.drop n) n L (slotsOn a ds xs) w' (fun j => by simp [List.getElem?_drop]) (by rw [hdl, e]; exact hq) (hfin D xs w' hx (fun i hi => by rw [hD]; exact hall i hi) hΦ)
      rw [hdl] at this
      rw [Nat.zero_add]
      exact this
    | succ c ih =>
      intro L D xs w' inv hD hx hΦ h0
      obtain ⟨q, hq1, hq2⟩ : ∃ q, q < n ∧ L.getD q true = false := by
        have : false ∈ L.toList.take n := List.count_pos_iff.1 (by omega)
        obtain ⟨i, hi⟩ := List.mem_iff_getElem?.1 this
        have hin : i < n := by
          have := (List.getElem?_eq_some_iff.1 hi).1
          simp at this
          omega
        rw [List.getElem?_take_of_lt hin] at hi
        have hlt : i < L.size := by rw [inv.size]; omega
        refine ⟨i, hin, ?_⟩
        simp [hlt] at hi ⊢
        exact hi
      have hlow : ∀ j ∈ Region.ready .any l.toArray L, j < n := fun j hj => Nat.lt_of_not_le fun h => tail_waits hs hc hn inv _ q rfl hq1 hq2 j h hj
      rw [show c + 1 + (l.toArray.size - n) = (c + (l.toArray.size - n)) + 1 by omega]
      refine ⟨fun hno => ?_, fun i hi => ?_⟩
      · exfalso
        have := all_up hb inv.size hno q (by omega)
        rw [getD_both hq2] at this
        cases this
      · have hin := hlow i hi
        obtain ⟨hl, o, ho, hall⟩ := mem_ready.1 hi
        have hr := hstep D i hin (by rw [hD]; exact getD_both hl) (fun k1 k2 h1 h2 => by
          rw [hD] at h1 ⊢
          unfold waitsB at h2
          cases hok : l.toArray[k1]? with
          | none => rw [hok] at h2; simp at h2
          | some ok =>
            rw [hok] at h2
            obtain ⟨e, he, hbb⟩ := Array.any_eq_true'.1 h2
            simp only [Bool.and_eq_true, beq_iff_eq] at hbb
            have := inv.closed k1 ok hok h1 e he hbb.1
            rw [hbb.2] at this
            exact this) (fun j hj => by
          simp only [waitsB, ho] at hj
          obtain ⟨e, he, hbb⟩ := Array.any_eq_true'.1 hj
          simp only [Bool.and_eq_true, beq_iff_eq] at hbb
          have hlt := edge_back hb ho he hbb.1
          rw [← hbb.2]
          exact ⟨by omega, by rw [hD]; exact hall e he hbb.1⟩) xs w' hx hΦ
        refine wpOp_mono ?_ hr.out
        rintro a' w'' ⟨v, rfl, hv⟩
        have hlt : i < L.size := by rw [inv.size]; omega
        refine ih (L.setIfInBounds i true) _ (xs.set i v) w'' (inv.set hi hin) ?_ (by simpa using hx) hv ?_
        · intro k
          by_cases hik : k = i
          · subst hik
            simp [hlt]
          · simp only [if_neg hik]
            rw [getD_set_ne false (fun e => hik e.symm)]
            exact hD k
        · rw [Array.toList_setIfInBounds]
          have hf : L.toList[i]? = some false := by
            simp [hlt] at hl ⊢
            exact hl
          have := count_head L.toList n i hf hin
          omega
  have inv0 : HeadInv .any l.toArray n (Array.replicate l.toArray.size false) :=
    ⟨by simp, fun j oj _ hl => (by rw [getD_replicate_false] at hl; cases hl), fun t _ ht => getD_in (by simpa using ht) (getD_replicate_false _ _)⟩
  refine wp_region_any hm ?_
  have hsz : n < l.length := by simpa using hn
  have h := key n (Array.replicate l.toArray.size false) (fun _ => false) (ds.map fun d => a.tmps.toList.getD d undef) _ inv0 (fun i => (getD_replicate_false _ _).symm) (by simpa using hd) h0 (by
    simp only [Array.toList_replicate, List.take_replicate, List.count_replicate_self]
    simp
    omega)
  rw [show n + (l.toArray.size - n) = l.toArray.size by omega, slotsOn_self] at h
  exact h
theorem wp_region_pair {α β : Type} {id : Nat} {Q : Exit → Act → World → Prop} {a : Act} {w : World} {l : List Oper} (n : Nat) (ds : List Nat) (p q : Nat) (hpq : p ≠ q) (hpn : p < n) (hqn : q < n) (I : World → α → β → Prop) (x0 : α) (y0 : β) (φ : Nat → Value → Prop) (Pa : α → Value → Prop) (Pb : β → Value → Prop) (hm : P.follows .mixedOrders = true) (hB : headOkB l.toArray n = true) (hd : ds.length = n)
    (h0 : I w.drew x0 y0)
    (hother : ∀ j, j < n → j ≠ p → j ≠ q → ∀ xs w' x y, xs.length = n → I w' x y → (∀ i, waitsB .any l.toArray j i = true → i ≠ p → i ≠ q → φ i (xs.getD i undef)) →
      Runs P l.toArray Q j (fun a' w'' => ∃ v, a' = slotsOn a ds (xs.set j v) ∧ φ j v ∧ I w'' x y) (slotsOn a ds xs) w')
    (hp : ∀ xs w' y, xs.length = n → I w' x0 y → (∀ i, waitsB .any l.toArray p i = true → i ≠ p → i ≠ q → φ i (xs.getD i undef)) →
      Runs P l.toArray Q p (fun a' w'' => ∃ v, a' = slotsOn a ds (xs.set p v) ∧ ∃ x, Pa x v ∧ I w'' x y) (slotsOn a ds xs) w')
    (hq : ∀ xs w' x, xs.length = n → I w' x y0 → (∀ i, waitsB .any l.toArray q i = true → i ≠ p → i ≠ q → φ i (xs.getD i undef)) →
      Runs P l.toArray Q q (fun a' w'' => ∃ v, a' = slotsOn a ds (xs.set q v) ∧ ∃ y, Pb y v ∧ I w'' x y) (slotsOn a ds xs) w')
    (hfin : ∀ xs w' x y, xs.length = n → I w' x y → Pa x (xs.getD p undef) → Pb y (xs.getD q undef) → (∀ i, i < n → i ≠ p → i ≠ q → φ i (xs.getD i undef)) → wpList P l.toArray Q (l.drop n) (slotsOn a ds xs) w') :
    (Code.region id l.toArray true).wp P Q a w := by
  have hset : ∀ (xs : List Value) (j i : Nat) (v : Value), i ≠ j → (xs.set j v).getD i undef = xs.getD i undef := fun xs j i v h => by
    rw [List.getD_eq_getElem?_getD, List.getElem?_set_ne (fun e => h e.symm), ← List.getD_eq_getElem?_getD]
  have hself : ∀ (xs : List Value) (j : Nat) (v : Value), j < xs.length → (xs.set j v).getD j undef = v := fun xs j v h => by
    rw [List.getD_eq_getElem?_getD, List.getElem?_set_self h]
    rfl
  refine wp_region_done n ds (fun D xs w' => ∃ x y, I w' x y ∧ (D p = false → x = x0) ∧ (D q = false → y = y0) ∧ (D p = true → Pa x (xs.getD p undef)) ∧ (D q = true → Pb y (xs.getD q undef)) ∧ ∀ i, i < n → i ≠ p → i ≠ q → D i = true → φ i (xs.getD i undef)) hm hB hd ?_ ?_ ?_
  · exact ⟨x0, y0, h0, fun _ => rfl, fun _ => rfl, fun h => by simp at h, fun h => by simp at h, fun i _ _ _ h => by simp at h⟩
  · rintro D j hj hDj hcl hw xs w' hx ⟨x, y, hI, h1, h2, h3, h4, h5⟩
    have hpre : ∀ i, waitsB .any l.toArray j i = true → i ≠ p → i ≠ q → φ i (xs.getD i undef) := fun i hi hip hiq => h5 i (hw i hi).1 hip hiq (hw i hi).2
    by_cases hjp : j = p
    · subst hjp
      obtain rfl := h1 hDj
      have hr := hp xs w' y hx hI hpre
      refine ⟨wpOp_mono ?_ hr.out⟩
      rintro a' w'' ⟨v, e, x', hPa, hI'⟩
      refine ⟨v, e, x', y, hI', fun h => by simp at h, fun h => ?_, fun _ => by rw [hself _ _ _ (by rw [hx]; exact hj)]; exact hPa, fun h => ?_, fun i hi hip hiq h => ?_⟩
      · simp only [if_neg (fun e => hpq e.symm : ¬ q = j)] at h
        exact h2 h
      · simp only [if_neg (fun e => hpq e.symm : ¬ q = j)] at h
        rw [hset _ _ _ _ (fun e => hpq e.symm)]
        exact h4 h
      · simp only [if_neg hip] at h
        rw [hset _ _ _ _ hip]
        exact h5 i hi hip hiq h
    · by_cases hjq : j = q
      · subst hjq
        obtain rfl := h2 hDj
        have hr := hq xs w' x hx hI hpre
        refine ⟨wpOp_mono ?_ hr.out⟩
        rintro a' w'' ⟨v, e, y', hPb, hI'⟩
        refine ⟨v, e, x, y', hI', fun h => ?_, fun h => by simp at h, fun h => ?_, fun _ => by rw [hself _ _ _ (by rw [hx]; exact hj)]; exact hPb, fun i hi hip hiq h => ?_⟩
        · simp only [if_neg hpq] at h
          exact h1 h
        · simp only [if_neg hpq] at h
          rw [hset _ _ _ _ hpq]
          exact h3 h
        · simp only [if_neg hiq] at h
          rw [hset _ _ _ _ hiq]
          exact h5 i hi hip hiq h
      · have hr := hother j hj hjp hjq xs w' x y hx hI hpre
        refine ⟨wpOp_mono ?_ hr.out⟩
        rintro a' w'' ⟨v, e, hv, hI'⟩
        refine ⟨v, e, x, y, hI', fun h => ?_, fun h => ?_, fun h => ?_, fun h => ?_, fun i hi hip hiq h => ?_⟩
        · simp only [if_neg (fun e => hjp e.symm : ¬ p = j)] at h
          exact h1 h
        · simp only [if_neg (fun e => hjq e.symm : ¬ q = j)] at h
          exact h2 h
        · simp only [if_neg (fun e => hjp e.symm : ¬ p = j)] at h
          rw [hset _ _ _ _ (fun e => hjp e.symm)]
          exact h3 h
        · simp only [if_neg (fun e => hjq e.symm : ¬ q = j)] at h
          rw [hset _ _ _ _ (fun e => hjq e.symm)]
          exact h4 h
        · by_cases hij : i = j
          · subst hij
            rw [hself _ _ _ (by rw [hx]; exact hj)]
            exact hv
          · simp only [if_neg hij] at h
            rw [hset _ _ _ _ hij]
            exact h5 i hi hip hiq h
  · rintro D xs w' hx hall ⟨x, y, hI, h1, h2, h3, h4, h5⟩
    exact hfin xs w' x y hx hI (h3 (hall p hpn)) (h4 (hall q hqn)) fun i hi hip hiq => h5 i hi hip hiq (hall i hi)
end
end Go.Proofs.Ytodoenimlhldjaa
namespace Go.Proofs.Ytodoenimlhldjaa
open Go.ChangeShapes Go.WideShapes Go.ChangeAt Go.RowKit
set_option linter.unusedVariables false
theorem append0E (w : World) (N : Nat) (v : Value) (m : Nat) (cs : List Value) (hr : Rw w 2 v m cs) (h1 : ∀ u ∈ cs, u.oneCell' = true) (hm : m ≤ 16384) (hN : N ≤ w.heap.size) (ty : TypeId) : ∃ v' w', (Builtin.append_ #[28, 28] ty #[.slice none 0 0, v]).run Try.prog w = .ok v' w' ∧ w'.ownsRow N 66 2 v' m cs ∧ Below w.heap.size w w' := by
  obtain ⟨i, hi⟩ : ∃ i, Try.prog.info? 66 = some i := info_of_underlying Try.underlying66
  have hp : (Try.prog.info? 66).map (fun i => (i.zero, i.size, decide (i.bytes ≤ 64))) = some (some (.agg #[.int .u32 0, .string ⟨#[]⟩]), 2, true) := by kernel_rfl
  rw [hi] at hp
  simp only [Option.map_some, Option.some.injEq, Prod.mk.injEq, decide_eq_true_eq] at hp
  obtain ⟨hz0, hz1, hz2⟩ := hp
  obtain ⟨hl, ao, cap, rfl, hr⟩ := hr
  by_cases h0 : m = 0
  · subst h0
    have hn : cs = [] := List.eq_nil_of_length_eq_zero (by omega)
    subst hn
    refine ⟨.slice none 0 0, w, ?_, World.ownsRow_nil w N 66 2, Below.refl _ _⟩
    cases ao <;> simp [Builtin.append_, run_underlying Try.underlying28, sizeOf, typeInfo, hi, Builtin.lenOf, Builtin.firstCells, loadCells, loadCellsFrom]
  · obtain ⟨b, off, rfl, hlt, hc⟩ := hr.resolve_left h0
    obtain ⟨v', w', hrun, ho, hg, _⟩ := run_append_own (P := Try.prog) w N 28 ty 66 i _ 2 i.bytes Try.underlying28 hi hz0 hz1 rfl rfl (by decide) (.slice none 0 0) 0 [] (World.ownsRow_nil w N 66 2) ⟨b, off, none⟩ m cap cs hl (fun j u hu => by
      rw [Addr.add_lit]
      exact hc j u hu) h1 (by unfold maxLen; omega) (by
        have h3 : (0 + m) * i.bytes ≤ 16384 * 64 := Nat.mul_le_mul (by omega) hz2
        omega) hN
    rw [Nat.zero_add, List.nil_append] at ho
    refine ⟨v', w', hrun, ho, (Keep.grown hg).below (Nat.le_refl _) fun b hb => ?_⟩
    cases hb
theorem append0I (w : World) (N : Nat) (v : Value) (m : Nat) (cs : List Value) (hr : Rw w 1 v m cs) (h1 : ∀ u ∈ cs, u.oneCell' = true) (hm : m ≤ 16384) (hN : N ≤ w.heap.size) (ty : TypeId) : ∃ v' w', (Builtin.append_ #[27, 27] ty #[.slice none 0 0, v]).run Try.prog w = .ok v' w' ∧ w'.ownsRow N 3 1 v' m cs ∧ Below w.heap.size w w' := by
  obtain ⟨i, hi⟩ : ∃ i, Try.prog.info? 3 = some i := info_of_underlying Try.underlying3
  have hp : (Try.prog.info? 3).map (fun i => (i.zero, i.size, decide (i.bytes ≤ 64))) = some (some (.int .i64 0), 1, true) := by kernel_rfl
  rw [hi] at hp
  simp only [Option.map_some, Option.some.injEq, Prod.mk.injEq, decide_eq_true_eq] at hp
  obtain ⟨hz0, hz1, hz2⟩ := hp
  obtain ⟨hl, ao, cap, rfl, hr⟩ := hr
  by_cases h0 : m = 0
  · subst h0
    have hn : cs = [] := List.eq_nil_of_length_eq_zero (by omega)
    subst hn
    refine ⟨.slice none 0 0, w, ?_, World.ownsRow_nil w N 3 1, Below.refl _ _⟩
    cases ao <;> simp [Builtin.append_, run_underlying Try.underlying27, sizeOf, typeInfo, hi, Builtin.lenOf, Builtin.firstCells, loadCells, loadCellsFrom]
  · obtain ⟨b, off, rfl, hlt, hc⟩ := hr.resolve_left h0
    obtain ⟨v', w', hrun, ho, hg, _⟩ := run_append_own (P := Try.prog) w N 27 ty 3 i _ 1 i.bytes Try.underlying27 hi hz0 hz1 rfl rfl (by decide) (.slice none 0 0) 0 [] (World.ownsRow_nil w N 3 1) ⟨b, off, none⟩ m cap cs hl (fun j u hu => by
      rw [Addr.add_lit]
      exact hc j u hu) h1 (by unfold maxLen; omega) (by
        have h3 : (0 + m) * i.bytes ≤ 16384 * 64 := Nat.mul_le_mul (by omega) hz2
        omega) hN
    rw [Nat.zero_add, List.nil_append] at ho
    refine ⟨v', w', hrun, ho, (Keep.grown hg).below (Nat.le_refl _) fun b hb => ?_⟩
    cases hb
theorem append1E (w : World) (N : Nat) (v : Value) (e : List (Int × ByteArray)) (fd : Int) (s : ByteArray) (g : Nat) (h : w.ownsRow N 66 2 v e.length (cE e)) (hN : N ≤ w.heap.size) (hl : e.length ≤ 16384) (hg : Blk w g #[.int .u32 fd, .string s] 66) (ty : TypeId) : ∃ v' w', (Builtin.append_ #[28, 28] ty #[v, .slice (some ⟨g, 0, none⟩) 1 1]).run Try.prog w = .ok v' w' ∧ w'.ownsRow N 66 2 v' (e.length + 1) (cE (e ++ [(fd, s)])) ∧ Keep (fun b => v.ownBlock = some b) w w' := by
  obtain ⟨i, hi⟩ : ∃ i, Try.prog.info? 66 = some i := info_of_underlying Try.underlying66
  have hp : (Try.prog.info? 66).map (fun i => (i.zero, i.size, decide (i.bytes ≤ 64))) = some (some (.agg #[.int .u32 0, .string ⟨#[]⟩]), 2, true) := by kernel_rfl
  rw [hi] at hp
  simp only [Option.map_some, Option.some.injEq, Prod.mk.injEq, decide_eq_true_eq] at hp
  obtain ⟨hz0, hz1, hz2⟩ := hp
  obtain ⟨v', w', hr, h1, h2, _⟩ := run_append_own (P := Try.prog) w N 28 ty 66 i _ 2 i.bytes Try.underlying28 hi hz0 hz1 rfl rfl (by decide) v e.length (cE e) h ⟨g, 0, none⟩ 1 1 [.int .u32 fd, .string s] rfl (fun j u hu => by
      rw [Addr.add_lit, Nat.zero_add]
      exact hg.cell (by simpa using hu)) (by
      intro u hu
      simp only [List.mem_cons, List.mem_nil_iff, or_false] at hu
      rcases hu with rfl | rfl <;> rfl) (by unfold maxLen; omega) (by
      have h3 : (e.length + 1) * i.bytes ≤ 16385 * 64 := Nat.mul_le_mul (by omega) hz2
      omega) hN
  refine ⟨v', w', hr, ?_, Keep.grown h2⟩
  rw [cE_snoc]
  exact h1
theorem exec_appE {ρ : Operand → Value} {o : Oper} {x y : Operand} {vx vy v : Value} {w w' : World} (hop : o.op = .call { callee := .builtin .append, args := #[x, y], argTypes := #[28, 28] }) (hx : ρ x = vx) (hy : ρ y = vy) (hr : (Builtin.append_ #[28, 28] o.type #[vx, vy]).run Try.prog w = .ok v w') : (execOp ρ o).run Try.prog w = .ok (.value v) w' := by
  unfold execOp
  simp only [hop, resolve, invoke, builtin, Sem.run_bind, Sem.run_pure, Result.andThen_ok, List.map_toArray, List.map_cons, List.map_nil, hx, hy, hr]
theorem exec_appI {ρ : Operand → Value} {o : Oper} {x y : Operand} {vx vy v : Value} {w w' : World} (hop : o.op = .call { callee := .builtin .append, args := #[x, y], argTypes := #[27, 27] }) (hx : ρ x = vx) (hy : ρ y = vy) (hr : (Builtin.append_ #[27, 27] o.type #[vx, vy]).run Try.prog w = .ok v w') : (execOp ρ o).run Try.prog w = .ok (.value v) w' := by
  unfold execOp
  simp only [hop, resolve, invoke, builtin, Sem.run_bind, Sem.run_pure, Result.andThen_ok, List.map_toArray, List.map_cons, List.map_nil, hx, hy, hr]
theorem exec_bsE {ρ : Operand → Value} {o : Oper} {x : Operand} {a : Int} {s : ByteArray} (hop : o.op = .buildSlice 28 1 #[(0, x)]) (hx : ρ x = .agg #[.int .u32 a, .string s]) (w : World) : (execOp ρ o).run Try.prog w = .ok (.value (.slice (some ⟨w.heap.size, 0, none⟩) 1 1)) (w.alloc (.cells #[.int .u32 a, .string s] 66)) := by
  unfold execOp
  rw [hop]
  simp only [List.map_toArray, List.map_cons, List.map_nil, hx]
  kernel_rfl
/-- What the slots of the region hold; b: whether the event is appended. -/
def phiWr (n mb N : Nat) (r4 r5 r6 : Nat) (ev : Value) (e : List (Int × ByteArray)) (L : List UInt8) (b : Bool) : Nat → Value → World → Prop
  | 0, x, _ => x = .pointer (some ⟨n + 1, 4, none⟩)
  | 1, x, _ => x = ev
  | 2, x, w => b = true ∨ w.ownsRow N 66 2 x e.length (cE e)
  | 3, x, _ => x = .pointer (some ⟨n, 0, none⟩)
  | 4, x, _ => x = .pointer (some ⟨n, 4, none⟩)
  | 5, x, _ => x = .int .u32 (r4 : Int)
  | 6, x, _ => x = .pointer (some ⟨mb, 0, none⟩)
  | 7, x, _ => x = .pointer (some ⟨n, 0, none⟩)
  | 8, x, _ => x = .pointer (some ⟨n, 5, none⟩)
  | 9, x, _ => x = .int .u32 (r5 : Int)
  | 10, x, _ => x = .int .i64 (r6 : Int)
  | 11, x, w => w.ownsRow N 5 1 x L.length (cellsU L)
  | 12, x, _ => x = .string ⟨L.toArray⟩
  | 13, x, _ => x = .agg #[.int .u32 (r4 : Int), .string ⟨L.toArray⟩]
  | 14, x, w => b = true ∨ ∃ g, x = .slice (some ⟨g, 0, none⟩) 1 1 ∧ Blk w g #[.int .u32 (r4 : Int), .string ⟨L.toArray⟩] 66
  | 15, x, w => w.ownsRow N 66 2 x (e.length + 1) (cE (e ++ [((r4 : Int), ⟨L.toArray⟩)]))
  | 16, x, _ => x = .pointer (some ⟨n + 1, 4, none⟩)
  | _ + 17, _, _ => True
theorem phiWr_mono (n mb N r4 r5 r6 : Nat) (ev : Value) (e : List (Int × ByteArray)) (L : List UInt8) (b : Bool) : ∀ i x w w', phiWr n mb N r4 r5 r6 ev e L b i x w → Below w.heap.size w w' → phiWr n mb N r4 r5 r6 ev e L b i x w'
  | 0, _, _, _, h, _ => h
  | 1, _, _, _, h, _ => h
  | 2, _, _, _, h, hb => h.imp id fun k => own_later k hb
  | 3, _, _, _, h, _ => h
  | 4, _, _, _, h, _ => h
  | 5, _, _, _, h, _ => h
  | 6, _, _, _, h, _ => h
  | 7, _, _, _, h, _ => h
  | 8, _, _, _, h, _ => h
  | 9, _, _, _, h, _ => h
  | 10, _, _, _, h, _ => h
  | 11, _, _, _, h, hb => own_later h hb
  | 12, _, _, _, h, _ => h
  | 13, _, _, _, h, _ => h
  | 14, _, _, _, h, hb => h.imp id fun ⟨g, e, k⟩ => ⟨g, e, k.later hb⟩
  | 15, _, _, _, h, hb => own_later h hb
  | 16, _, _, _, h, _ => h
  | _ + 17, _, _, _, _, _ => trivial
/-- The event appended: all else that counts stays. -/
theorem phiWr_app (n mb N r4 r5 r6 : Nat) (ev : Value) (e : List (Int × ByteArray)) (L : List UInt8) {v2 : Value} {m2 : Nat} {c2 : List Value} {w w' : World} (hv : w.ownsRow N 66 2 v2 m2 c2) (k : Keep (fun b => v2.ownBlock = some b) w w') : ∀ i x, i ≠ 15 → phiWr n mb N r4 r5 r6 ev e L false i x w → phiWr n mb N r4 r5 r6 ev e L true i x w'
  | 0, _, _, h => h
  | 1, _, _, h => h
  | 2, _, _, _ => .inl rfl
  | 3, _, _, h => h
  | 4, _, _, h => h
  | 5, _, _, h => h
  | 6, _, _, h => h
  | 7, _, _, h => h
  | 8, _, _, h => h
  | 9, _, _, h => h
  | 10, _, _, h => h
  | 11, x, _, h => ownsRow_same h fun g hg => by
    have h1 := h.2
    rcases h1 with ⟨e1, _⟩ | ⟨g1, cap, cur, e1, _, hk, _⟩
    · rw [e1] at hg; cases hg
    · rw [e1] at hg
      have e2 : g1 = g := Option.some.inj hg
      subst e2
      refine k.block g1 (Array.getElem?_eq_some_iff.1 hk).1 fun hb => ?_
      exact own_ne hv hb hk (by decide) rfl
  | 12, _, _, h => h
  | 13, _, _, h => h
  | 14, _, _, _ => .inl rfl
  | 15, _, h, _ => absurd rfl h
  | 16, _, _, h => h
  | _ + 17, _, _, _ => trivial
/-- What holds of those that are done. -/
def InvWr (n mb r4 r5 r6 : Nat) (ev : Value) (e : List (Int × ByteArray)) (L : List UInt8) (w0 : World) (D : Nat → Bool) (xs : List Value) (w : World) : Prop := Below w0.heap.size w0 w ∧ ∀ i, i < 17 → D i = true → phiWr n mb w0.heap.size r4 r5 r6 ev e L (D 15) i (xs.getD i undef) w
theorem getD_setO {xs : List Value} {i j : Nat} {v : Value} (h : i ≠ j) : (xs.set j v).getD i undef = xs.getD i undef := by rw [List.getD_eq_getElem?_getD, List.getElem?_set_ne (fun e => h e.symm), ← List.getD_eq_getElem?_getD]
theorem getD_setS {xs : List Value} {j : Nat} {v : Value} (h : j < xs.length) : (xs.set j v).getD j undef = v := by rw [List.getD_eq_getElem?_getD, List.getElem?_set_self h, Option.getD_some]
theorem InvWr.step {n mb r4 r5 r6 : Nat} {ev : Value} {e : List (Int × ByteArray)} {L : List UInt8} {w0 : World} {D : Nat → Bool} {xs : List Value} {w w' : World} (h : InvWr n mb r4 r5 r6 ev e L w0 D xs w) (hl : xs.length = 17) {j : Nat} {v : Value} (hj : j < 17) (h15 : j ≠ 15) (hb : Below w.heap.size w w') (hp : phiWr n mb w0.heap.size r4 r5 r6 ev e L (D 15) j v w') : InvWr n mb r4 r5 r6 ev e L w0 (fun i => if i = j then true else D i) (xs.set j v) w' := by
  refine ⟨h.1.trans (hb.mono h.1.size), fun i hi hD => ?_⟩
  have e15 : (if (15 : Nat) = j then true else D 15) = D 15 := if_neg fun e => h15 e.symm
  show phiWr n mb w0.heap.size r4 r5 r6 ev e L (if (15 : Nat) = j then true else D 15) i ((xs.set j v).getD i undef) w'
  rw [e15]
  by_cases hij : i = j
  · subst hij
    rw [getD_setS (by omega)]
    exact hp
  · have hD2 : D i = true := by simpa [hij] using hD
    rw [getD_setO hij]
    exact phiWr_mono _ _ _ _ _ _ _ _ _ _ i _ w w' (h.2 i hi hD2) hb
theorem InvWr.app {n mb r4 r5 r6 : Nat} {ev : Value} {e : List (Int × ByteArray)} {L : List UInt8} {w0 : World} {D : Nat → Bool} {xs : List Value} {w w' : World} (h : InvWr n mb r4 r5 r6 ev e L w0 D xs w) (hl : xs.length = 17) (hD : D 15 = false) {v v2 : Value} {m2 : Nat} {c2 : List Value} (hv : w.ownsRow w0.heap.size 66 2 v2 m2 c2) (k : Keep (fun b => v2.ownBlock = some b) w w') (hp : w'.ownsRow w0.heap.size 66 2 v (e.length + 1) (cE (e ++ [((r4 : Int), ⟨L.toArray⟩)]))) : InvWr n mb r4 r5 r6 ev e L w0 (fun i => if i = 15 then true else D i) (xs.set 15 v) w' := by
  have hb : Below w0.heap.size w w' := k.below h.1.size fun b hb => by
    rcases hv.2 with ⟨e1, _⟩ | ⟨g1, cap, cur, e1, h1, _⟩
    · rw [e1] at hb; cases hb
    · rw [e1] at hb
      have e2 : g1 = b := Option.some.inj hb
      omega
  refine ⟨h.1.trans hb, fun i hi hDi => ?_⟩
  show phiWr n mb w0.heap.size r4 r5 r6 ev e L (if (15 : Nat) = 15 then true else D 15) i ((xs.set 15 v).getD i undef) w'
  rw [if_pos rfl]
  by_cases hij : i = 15
  · subst hij
    rw [getD_setS (by omega)]
    exact hp
  · have hD2 : D i = true := by simpa [hij] using hDi
    have h2 := h.2 i hi hD2
    rw [hD] at h2
    rw [getD_setO hij]
    exact phiWr_app n mb _ r4 r5 r6 ev e L hv k i _ hij h2
end Go.Proofs.Ytodoenimlhldjaa
namespace Go.Proofs.Ytodoenimlhldjaa
open Go.ChangeShapes Go.WideShapes Go.ChangeAt Go.RowKit
set_option linter.unusedVariables false
theorem lstWr17 : ∀ xs : List Value, xs.length = 17 → ∃ x0 x1 x2 x3 x4 x5 x6 x7 x8 x9 x10 x11 x12 x13 x14 x15 x16, xs = [x0, x1, x2, x3, x4, x5, x6, x7, x8, x9, x10, x11, x12, x13, x14, x15, x16]
  | [x0, x1, x2, x3, x4, x5, x6, x7, x8, x9, x10, x11, x12, x13, x14, x15, x16], _ => ⟨_, _, _, _, _, _, _, _, _, _, _, _, _, _, _, _, _, rfl⟩
theorem own_base {w : World} {N M z m : Nat} {T : TypeId} {v : Value} {cs : List Value} (h : w.ownsRow N T z v m cs) (hM : M ≤ N) : w.ownsRow M T z v m cs := ⟨h.1, h.2.imp id fun ⟨g, cap, cur, e, hb, r⟩ => ⟨g, cap, cur, e, Nat.le_trans hM hb, r⟩⟩
theorem lies_own {w : World} {N : Nat} {v : Value} {L : List UInt8} (h : w.ownsRow N 5 1 v L.length (cellsU L)) : ∃ ao c, v = .slice ao L.length c ∧ Lies w ao L := by
  obtain ⟨ao, c, e, hr⟩ := row_of_own rfl h
  exact ⟨ao, c, e, hr.lies⟩
set_option maxRecDepth 20000 in
set_option maxHeartbeats 3000000 in
theorem rwrite_yes1 (w : World) (s : MS) (t : S5) (hM : M5 w t) (hs : Sim s t.l) (v : SV) (hv : v.ok) (inp : ByteArray) (at_ us : Int) (rd ev : Value) (e : List (Int × ByteArray)) (hrd : rd.oneCell' = true) (hev : Rw w 2 ev e.length (cE e)) (hel : e.length ≤ 16000) (hfd : v.R.getD 4 0 = 1) (hbig : ¬ 16384 < v.R.getD 6 0) (hmay : mayB s (v.R.getD 5 0).toNat (v.R.getD 6 0).toNat 4 = true) : Calls Try.prog 42 #[.pointer (some ⟨t.m, 0, none⟩), .agg v.c, .agg (cwC inp at_ rd us ev)] w fun x w' => ∃ ev', x = .returned (.tuple #[.agg (ansV v (v.R.getD 6 0) 0).c, .agg (cwC inp at_ rd us ev')]) ∧ w'.ownsRow w.heap.size 66 2 ev' (e.length + 1) (cE (e ++ [(v.R.getD 4 0, ⟨(s.span (v.R.getD 5 0).toNat (v.R.getD 6 0).toNat).toArray⟩)])) ∧ Below w.heap.size w w' := by
  obtain ⟨n, hn⟩ : ∃ n, w.heap.size = n := ⟨_, rfl⟩
  obtain ⟨q, hq⟩ : ∃ q, n + 1 + 1 = q := ⟨_, rfl⟩
  have HV := hidden hv.1
  have HQ := hidden hq
  clear hq
  obtain ⟨r2, h2⟩ : ∃ r2 : Nat, v.R.getD 2 0 = (r2 : Int) := ⟨(v.R.getD 2 0).toNat, by have := (hv.2.1 2 (by omega)).1; omega⟩
  obtain ⟨r4, h4⟩ : ∃ r4 : Nat, v.R.getD 4 0 = (r4 : Int) := ⟨(v.R.getD 4 0).toNat, by have := (hv.2.1 4 (by omega)).1; omega⟩
  obtain ⟨r5, h5⟩ : ∃ r5 : Nat, v.R.getD 5 0 = (r5 : Int) := ⟨(v.R.getD 5 0).toNat, by have := (hv.2.1 5 (by omega)).1; omega⟩
  obtain ⟨r6, h6⟩ : ∃ r6 : Nat, v.R.getD 6 0 = (r6 : Int) := ⟨(v.R.getD 6 0).toNat, by have := (hv.2.1 6 (by omega)).1; omega⟩
  have l5 : r5 < 4294967296 := by have := (hv.2.1 5 (by omega)).2; omega
  have l6 : r6 < 4294967296 := by have := (hv.2.1 6 (by omega)).2; omega
  have H2 := hidden h2
  have H4 := hidden h4
  have H5 := hidden h5
  have H6 := hidden h6
  rw [h4] at hfd
  have e4 : r4 = 1 := by omega
  subst e4
  rw [h6] at hbig
  rw [h5, h6, Int.toNat_natCast, Int.toNat_natCast] at hmay
  have HTH : Hid (∀ u, Below w.heap.size w u → Calls Try.prog 68 #[.pointer (some ⟨t.m, 0, none⟩), .int .u32 (r5 : Int), .int .i64 (r6 : Int), .int .i64 4] u fun e w' => e = .returned (.bool (mayB s r5 r6 4)) ∧ ∃ k, w' = u.drewN k) := hidden (fun u hu => there_any u s t r5 r6 4 (hM.later hu) hs l5 (by omega))
  rw [hmay] at HTH
  rw [h4, h5, h6, Int.toNat_natCast, Int.toNat_natCast]
  obtain ⟨L, hL⟩ : ∃ L, s.span r5 r6 = L := ⟨_, rfl⟩
  have HBY : Hid (∀ u, Below w.heap.size w u → Calls Try.prog 48 #[.pointer (some ⟨t.m, 0, none⟩), .int .u32 (r5 : Int), .int .i64 (r6 : Int)] u fun x w' => ∃ v', x = .returned v' ∧ w'.ownsRow u.heap.size 5 1 v' L.length (cellsU L) ∧ Below u.heap.size u w') := hidden (fun u hu => by
    have h2 := (hM.later hu).bytesC r5 r6 l5 (by omega)
    rw [hs.bytes, hL] at h2
    exact h2)
  rw [hL]
  have HR0 : Hid (0 ≤ (r6 : Int) ∧ (r6 : Int) < 4294967296) := hidden (by omega)
  have HBK := hidden (fun u => back_any v hv.1 (r6 : Int) 0 u)
  have HC1 : Hid (∀ x : Value, x.oneCell' = true → (cwC inp at_ rd us x).all (·.oneCell') = true) := hidden (fun x hx => cw_one hrd hx)
  have HEV := hidden hev
  have HEL := hidden hel
  obtain ⟨mb, hmb⟩ : ∃ mb, t.m = mb := ⟨_, rfl⟩
  have hi4 : ∀ u, (Instr.indexAt 24 (.pointer (some ⟨n, 0, none⟩)) (.int .i64 4)).run Try.prog u = .ok (.pointer (some ⟨n, 4, none⟩)) u := fun u => index_reg n 4 (by omega) u
  have hi5 : ∀ u, (Instr.indexAt 24 (.pointer (some ⟨n, 0, none⟩)) (.int .i64 5)).run Try.prog u = .ok (.pointer (some ⟨n, 5, none⟩)) u := fun u => index_reg n 5 (by omega) u
  have hi6 : ∀ u, (Instr.indexAt 24 (.pointer (some ⟨n, 0, none⟩)) (.int .i64 6)).run Try.prog u = .ok (.pointer (some ⟨n, 6, none⟩)) u := fun u => index_reg n 6 (by omega) u
  obtain ⟨C, hC⟩ : ∃ C, v.c = C := ⟨_, rfl⟩
  rw [hC]
  have HC := hidden hC
  rw [hmb] at HTH HBY ⊢
  obtain ⟨CW, hCW⟩ : ∃ CW, cwC inp at_ rd us ev = CW := ⟨_, rfl⟩
  rw [hCW]
  have HCW := hidden hCW
  have HC5 : Hid (CW.size = 5) := hidden (by rw [← hCW]; rfl)
  clear hC hCW hv h2 h4 h5 h6 hfd l5 hM hs hmay hL hmb hrd hev hel
  go_enter Try.func42, Try.ntmps42
  go_upto_region 1 with (first
    | (refine wpList_boxG rfl 26 _ rfl C rfl ?_; rintro w1 k1 s1 b1; rw [hn] at k1 s1 b1 ⊢; have K1 : Hid (Blk w1 n v.c 26) := hidden (by rw [HC.out]; exact k1); have S1 := hidden s1; have B1 := hidden b1; clear k1 s1 b1)
    | (refine wpList_boxG rfl 30 _ rfl CW rfl ?_; rintro w2 k2 s2 b2; rw [S1.out] at k2 s2 b2 ⊢; have K2 := hidden k2; have S2 : Hid (w2.heap.size = q) := hidden (by rw [s2]; exact HQ.out); have B2 := hidden b2; clear k2 s2 b2)
    | (refine wpList_allocV rfl rfl ?_; rintro w3 k3 s3 b3; rw [S2.out] at k3 s3 b3 ⊢; have K3 := hidden k3; have S3 := hidden s3; have B3 := hidden b3; clear k3 s3 b3)
    | (refine wpList_allocCr rfl rfl ?_; rintro w4 k4 s4 b4; rw [S3.out] at k4 s4 b4 ⊢; have P := hidden (WB.mk4 (F := nought) hn HQ.out K1.out S1.out B1.out K2.out S2.out B2.out K3.out S3.out B3.out k4 b4); clear k4 s4 b4 K1 S1 B1 K2 S2 B2 K3 S3 B3; obtain ⟨c2, c4, c5, c6⟩ := P.out.regs HV.out H2.out H4.out H5.out H6.out))
  go_upto_region 8 with (go_at_call 68; refine (HTH.out _ P.out.bel).mono ?_; rintro x w5 ⟨rfl, k5, rfl⟩; clear c2 c4 c5 c6; have Q := hidden (P.out.later (below_drewN (Below.refl _ _) k5)); clear P; have P := Q; clear Q; obtain ⟨c2, c4, c5, c6⟩ := P.out.regs HV.out H2.out H4.out H5.out H6.out)
  obtain ⟨w8, hw8⟩ : ∃ w8, World.drewN w4 k5 = w8 := ⟨_, rfl⟩
  rw [hw8] at P c2 c4 c5 c6 ⊢
  clear hw8
  have HNB : Hid (w.heap.size ≤ w8.heap.size) := hidden P.out.bel.size
  have HEV8 := hidden (HEV.out.later P.out.bel)
  have c44 : w8.cell? ⟨n + 1, 4, none⟩ = some ev := (by have k6 := P.out.c; rw [← HCW.out] at k6; exact k6.cell (j := 4) rfl)
  have K4 := hidden c4
  have K5 := hidden c5
  have K44 := hidden c44
  clear c2 c4 c5 c6 c44
  have QN : Hid (n + 1 < w8.heap.size) := hidden (by have := P.out.sz; have := P.out.hq; omega)
  refine wp_region_done 17 [44, 45, 46, 47, 48, 49, 50, 51, 52, 53, 54, 55, 56, 57, 58, 59, 60] (fun D xs w' => xs.length = 17 → InvWr n mb 1 r5 r6 ev e L w8 D xs w') (by kernel_rfl) (by kernel_rfl) rfl ?_ ?_ ?_
  · exact fun _ => ⟨later_below.drew w8, fun i _ h => by cases h⟩
  · intro D j hj hD1 _ hD2 xs w3 hxs hI0
    have hI := hI0 hxs
    clear hI0
    have hb3 := hI.1
    obtain ⟨x0, x1, x2, x3, x4, x5, x6, x7, x8, x9, x10, x11, x12, x13, x14, x15, x16, rfl⟩ := lstWr17 xs hxs
    rcases (show j = 0 ∨ j = 1 ∨ j = 2 ∨ j = 3 ∨ j = 4 ∨ j = 5 ∨ j = 6 ∨ j = 7 ∨ j = 8 ∨ j = 9 ∨ j = 10 ∨ j = 11 ∨ j = 12 ∨ j = 13 ∨ j = 14 ∨ j = 15 ∨ j = 16 by omega) with rfl | rfl | rfl | rfl | rfl | rfl | rfl | rfl | rfl | rfl | rfl | rfl | rfl | rfl | rfl | rfl | rfl
    · exact wpOp_run (.pointer (some ⟨n + 1, 4, none⟩)) rfl (by kernel_rfl) (by kernel_rfl) ⟨_, by kernel_rfl, fun _ => hI.step hxs (j := 0) (by decide) (by decide) (Below.refl _ _) (rfl)⟩
    · have e0 : x0 = .pointer (some ⟨n + 1, 4, none⟩) := hI.2 0 (by decide) (hD2 0 (by kernel_rfl)).2
      subst e0
      exact wpOp_run (ev) rfl (by kernel_rfl) (exec_load 28 rfl (by kernel_rfl) w3 (loadEs ((hb3.cell (p := ⟨n + 1, 4, none⟩) QN.out).trans K44.out))) ⟨_, by kernel_rfl, fun _ => hI.step hxs (j := 1) (by decide) (by decide) (Below.refl _ _) (rfl)⟩
    · have e1 : x1 = ev := hI.2 1 (by decide) (hD2 1 (by kernel_rfl)).2
      subst e1
      obtain ⟨v2, w2, hrun, ho, hb2⟩ := append0E w3 w8.heap.size x1 e.length (cE e) (HEV8.out.later hb3) (cE_one e) (by have := HEL.out; omega) hb3.size 28
      exact wpOp_run v2 rfl (by kernel_rfl) (exec_appE rfl rfl (by kernel_rfl) hrun) ⟨_, by kernel_rfl, fun _ => hI.step hxs (j := 2) (by decide) (by decide) (hb2) (.inr ho)⟩
    · exact wpOp_run (.pointer (some ⟨n, 0, none⟩)) rfl (by kernel_rfl) (by kernel_rfl) ⟨_, by kernel_rfl, fun _ => hI.step hxs (j := 3) (by decide) (by decide) (Below.refl _ _) (rfl)⟩
    · have e3 : x3 = .pointer (some ⟨n, 0, none⟩) := hI.2 3 (by decide) (hD2 3 (by kernel_rfl)).2
      subst e3
      exact wpOp_run (.pointer (some ⟨n, 4, none⟩)) rfl (by kernel_rfl) (exec_indexR (k := 4) (by decide) rfl (by kernel_rfl) (by kernel_rfl) w3) ⟨_, by kernel_rfl, fun _ => hI.step hxs (j := 4) (by decide) (by decide) (Below.refl _ _) (rfl)⟩
    · have e4 : x4 = .pointer (some ⟨n, 4, none⟩) := hI.2 4 (by decide) (hD2 4 (by kernel_rfl)).2
      subst e4
      exact wpOp_run (.int .u32 ((1 : Nat) : Int)) rfl (by kernel_rfl) (exec_load 23 rfl (by kernel_rfl) w3 (loadU ((hb3.cell (p := ⟨n, 4, none⟩) (Nat.lt_of_succ_lt QN.out)).trans K4.out))) ⟨_, by kernel_rfl, fun _ => hI.step hxs (j := 5) (by decide) (by decide) (Below.refl _ _) (rfl)⟩
    · exact wpOp_run (.pointer (some ⟨mb, 0, none⟩)) rfl (by kernel_rfl) (exec_move rfl (by kernel_rfl) w3) ⟨_, by kernel_rfl, fun _ => hI.step hxs (j := 6) (by decide) (by decide) (Below.refl _ _) (rfl)⟩
    · exact wpOp_run (.pointer (some ⟨n, 0, none⟩)) rfl (by kernel_rfl) (by kernel_rfl) ⟨_, by kernel_rfl, fun _ => hI.step hxs (j := 7) (by decide) (by decide) (Below.refl _ _) (rfl)⟩
    · have e7 : x7 = .pointer (some ⟨n, 0, none⟩) := hI.2 7 (by decide) (hD2 7 (by kernel_rfl)).2
      subst e7
      exact wpOp_run (.pointer (some ⟨n, 5, none⟩)) rfl (by kernel_rfl) (exec_indexR (k := 5) (by decide) rfl (by kernel_rfl) (by kernel_rfl) w3) ⟨_, by kernel_rfl, fun _ => hI.step hxs (j := 8) (by decide) (by decide) (Below.refl _ _) (rfl)⟩
    · have e8 : x8 = .pointer (some ⟨n, 5, none⟩) := hI.2 8 (by decide) (hD2 8 (by kernel_rfl)).2
      subst e8
      exact wpOp_run (.int .u32 (r5 : Int)) rfl (by kernel_rfl) (exec_load 23 rfl (by kernel_rfl) w3 (loadU ((hb3.cell (p := ⟨n, 5, none⟩) (Nat.lt_of_succ_lt QN.out)).trans K5.out))) ⟨_, by kernel_rfl, fun _ => hI.step hxs (j := 9) (by decide) (by decide) (Below.refl _ _) (rfl)⟩
    · exact wpOp_run (.int .i64 (r6 : Int)) rfl (by kernel_rfl) (exec_move rfl (by kernel_rfl) w3) ⟨_, by kernel_rfl, fun _ => hI.step hxs (j := 10) (by decide) (by decide) (Below.refl _ _) (rfl)⟩
    · have e6 : x6 = .pointer (some ⟨mb, 0, none⟩) := hI.2 6 (by decide) (hD2 6 (by kernel_rfl)).2
      subst e6
      have e9 : x9 = .int .u32 (r5 : Int) := hI.2 9 (by decide) (hD2 9 (by kernel_rfl)).2
      subst e9
      have e10 : x10 = .int .i64 (r6 : Int) := hI.2 10 (by decide) (hD2 10 (by kernel_rfl)).2
      subst e10
      refine wpOp_callR (R := fun u w9 => w9.ownsRow w8.heap.size 5 1 u L.length (cellsU L) ∧ Below w3.heap.size w3 w9) 48 #[.pointer (some ⟨mb, 0, none⟩), .int .u32 (r5 : Int), .int .i64 (r6 : Int)] rfl (by kernel_rfl) (by kernel_rfl) ((HBY.out w3 (P.out.bel.trans (hb3.mono HNB.out))).mono fun x w9 h => by obtain ⟨v9, hx, ho, hb⟩ := h; exact ⟨_, hx, own_base ho hb3.size, hb⟩) ?_
      rintro u w9 ⟨hu, hb9⟩
      exact ⟨_, by kernel_rfl, fun _ => hI.step hxs (j := 11) (by decide) (by decide) (hb9) (hu)⟩
    · have f11 := hI.2 11 (by decide) (hD2 11 (by kernel_rfl)).2
      obtain ⟨ao11, c11, e11, hli⟩ := lies_own f11
      subst e11
      exact wpOp_run (.string ⟨L.toArray⟩) rfl (by kernel_rfl) (exec_str (c := c11) L rfl (by kernel_rfl) w3 hli) ⟨_, by kernel_rfl, fun _ => hI.step hxs (j := 12) (by decide) (by decide) (Below.refl _ _) (rfl)⟩
    · have e5 : x5 = .int .u32 ((1 : Nat) : Int) := hI.2 5 (by decide) (hD2 5 (by kernel_rfl)).2
      subst e5
      have e12 : x12 = .string ⟨L.toArray⟩ := hI.2 12 (by decide) (hD2 12 (by kernel_rfl)).2
      subst e12
      exact wpOp_run (.agg #[.int .u32 ((1 : Nat) : Int), .string ⟨L.toArray⟩]) rfl (by kernel_rfl) (exec_build (ps := #[(0, .int .u32 ((1 : Nat) : Int)), (1, .string ⟨L.toArray⟩)]) 66 rfl (by kernel_rfl) w3 (by kernel_rfl)) ⟨_, by kernel_rfl, fun _ => hI.step hxs (j := 13) (by decide) (by decide) (Below.refl _ _) (rfl)⟩
    · have e13 : x13 = .agg #[.int .u32 ((1 : Nat) : Int), .string ⟨L.toArray⟩] := hI.2 13 (by decide) (hD2 13 (by kernel_rfl)).2
      subst e13
      exact wpOp_run (.slice (some ⟨w3.heap.size, 0, none⟩) 1 1) rfl (by kernel_rfl) (exec_bsE rfl (by kernel_rfl) w3) ⟨_, by kernel_rfl, fun _ => hI.step hxs (j := 14) (by decide) (by decide) (below_new w3 _) (.inr ⟨w3.heap.size, rfl, Blk.new w3 _ _⟩)⟩
    · have f2 := hI.2 2 (by decide) (hD2 2 (by kernel_rfl)).2
      have f14 := hI.2 14 (by decide) (hD2 14 (by kernel_rfl)).2
      rw [hD1] at f2 f14
      have f2b := f2.resolve_left (by decide)
      obtain ⟨g, e14, hg⟩ := f14.resolve_left (by decide)
      subst e14
      obtain ⟨v5, w5, hrun, ho, hk⟩ := append1E w3 w8.heap.size _ e ((1 : Nat) : Int) ⟨L.toArray⟩ g f2b hb3.size (by have := HEL.out; omega) hg 28
      exact wpOp_run v5 rfl (by kernel_rfl) (exec_appE rfl (by kernel_rfl) (by kernel_rfl) hrun) ⟨_, by kernel_rfl, fun _ => hI.app hxs hD1 f2b hk ho⟩
    · exact wpOp_run (.pointer (some ⟨n + 1, 4, none⟩)) rfl (by kernel_rfl) (by kernel_rfl) ⟨_, by kernel_rfl, fun _ => hI.step hxs (j := 16) (by decide) (by decide) (Below.refl _ _) (rfl)⟩
  · intro D xs w9 hxs hD hI0
    have hI := hI0 hxs
    obtain ⟨x0, x1, x2, x3, x4, x5, x6, x7, x8, x9, x10, x11, x12, x13, x14, x15, x16, rfl⟩ := lstWr17 xs hxs
    have e16 : x16 = .pointer (some ⟨n + 1, 4, none⟩) := hI.2 16 (by decide) (hD 16 (by decide))
    subst e16
    have RO := hidden (hI.2 15 (by decide) (hD 15 (by decide)))
    have P9 := hidden (P.out.later hI.1)
    have RW1 := hidden (rw_of_own RO.out).one
    clear hI hI0 hD P K4 K5 K44
    obtain ⟨v5, hv5⟩ : ∃ v5, x15 = v5 := ⟨_, rfl⟩
    simp only [slotsOn, putAll, List.set_cons_succ, List.set_cons_zero, List.drop_succ_cons, List.drop_zero]
    subst hv5
    go_upto_region 9 with (first
      | (refine wpList_storeC rfl rfl 28 _ _ rfl (n + 1) 4 CW 30 x15 rfl rfl RW1.out sizeEs1 P9.out.c (by rw [HC5.out]; decide) ?_; rintro w6 k6 o6; have PP := hidden (P9.out.putW o6 (by rw [← HCW.out] at k6; exact k6)); have R6 := hidden (own_only RO.out o6 P9.out.c (by decide)); clear k6 o6 P9))
    obtain ⟨CX, hCX⟩ : ∃ CX, cwC inp at_ rd us x15 = CX := ⟨_, rfl⟩
    have HCX := hidden hCX
    have HX5 : Hid (CX.size = 5) := hidden (by rw [← hCX]; rfl)
    have HX1 : Hid (CX.all (·.oneCell') = true) := hidden (by rw [← hCX]; exact HC1.out _ RW1.out)
    have P : Hid (WB nought w n q v CX w6) := hidden (by rw [← hCX]; exact PP.out)
    clear PP hCX
    have KS := hidden P.out.s
    have KW := hidden P.out.c
    have QS := hidden P.out.rs
    have QW := hidden P.out.rw
    have PQ := P.out.hq
    have hW5 := HX5.out
    refine wp_region_on (later_rf [(q, Obj.cells (SV.c (ansV v (r6 : Int) 0)) 26 (0, 0)), (q + 1, Obj.cells (CX) 30 (0, 0))]) [61, 62, 63, 64, 65, 1005, 1006] 7 (phiRd19 n q v CX (r6 : Int) 0) (by kernel_rfl) (by kernel_rfl) rfl rfl (phiRd19_mono n q v CX (r6 : Int) 0) ?_ ?_
    · intro j hj xs w3 hxs hR hpre
      obtain ⟨x0, x1, x2, x3, x4, x5, x6, rfl⟩ := lstRd19 xs hxs
      have hS : Blk w3 (n) (SV.c v) 26 := hR.blk KS.out (rf2_no (by omega) (by omega))
      have hW : Blk w3 (n + 1) CX 30 := hR.blk KW.out (rf2_no (by omega) (by omega))
      have hA := hR.some ⟨_, SV.size (s := SV.zero) rfl, QS.out⟩ (rf2_s1 (SV.size (ansV_len HV.out (r6 : Int) 0)))
      have hB := hR.some (n := 5) ⟨_, (show zCw.size = 5 from rfl), QW.out⟩ (rf2_s2 hW5)
      rcases (show j = 0 ∨ j = 1 ∨ j = 2 ∨ j = 3 ∨ j = 4 ∨ j = 5 ∨ j = 6 by omega) with rfl | rfl | rfl | rfl | rfl | rfl | rfl
      · exact wpOp_run (.agg (SV.c v)) rfl (by kernel_rfl) (exec_load 26 rfl (by kernel_rfl) w3 (loadSt hS HV.out)) ⟨_, by kernel_rfl, rfl, (later_rf _).refl _⟩
      · exact wpOp_run (.int .i64 (r6 : Int)) rfl (by kernel_rfl) (by kernel_rfl) ⟨_, by kernel_rfl, rfl, (later_rf _).refl _⟩
      · have e1 : x1 = .int .i64 (r6 : Int) := hpre 1 (by kernel_rfl)
        subst e1
        exact wpOp_run (.int .u32 (r6 : Int)) rfl (by kernel_rfl) (exec_cv rfl (by kernel_rfl) HR0.out.1 HR0.out.2 w3) ⟨_, by kernel_rfl, rfl, (later_rf _).refl _⟩
      · have e0 : x0 = .agg (SV.c v) := hpre 0 (by kernel_rfl)
        subst e0
        have e2 : x2 = .int .u32 (r6 : Int) := hpre 2 (by kernel_rfl)
        subst e2
        refine wpOp_callR (R := fun u w4 => u = .agg (SV.c (ansV v (r6 : Int) 0)) ∧ Below w3.heap.size w3 w4) 43 #[.agg (SV.c v), .int .u32 (r6 : Int), .int .u32 0] rfl (by kernel_rfl) (by kernel_rfl) ((HBK.out w3).mono fun e w4 h => ⟨_, h.1, rfl, h.2⟩) ?_
        rintro _ w4 ⟨rfl, hb⟩
        exact ⟨_, by kernel_rfl, rfl, RF.of_below hb⟩
      · exact wpOp_run (.agg CX) rfl (by kernel_rfl) (exec_load 30 rfl (by kernel_rfl) w3 (loadCrR hW hW5)) ⟨_, by kernel_rfl, rfl, (later_rf _).refl _⟩
      · have e3 : x3 = .agg (SV.c (ansV v (r6 : Int) 0)) := hpre 3 (by kernel_rfl)
        subst e3
        obtain ⟨old, hs1, hs2⟩ := hA
        exact wpOp_put rfl (by kernel_rfl) (exec_storeG (g := q) (cs := SV.c (ansV v (r6 : Int) 0)) (old := old) rfl (by kernel_rfl) (by kernel_rfl) w3 hs2 (by rw [SV.size (ansV_len HV.out (r6 : Int) 0)]; exact sizeSV) (by rw [hs1, SV.size (ansV_len HV.out (r6 : Int) 0)]) (SV.one _)) ⟨.bool true, by kernel_rfl, ⟨rfl, setRow_heap w3 (q) old _ 26 (0, 0) hs2⟩, RF.of_only (only_rowV w3 (q) _) (setRow_heap w3 (q) old _ 26 (0, 0) hs2) rf2_m1⟩
      · have e4 : x4 = .agg CX := hpre 4 (by kernel_rfl)
        subst e4
        obtain ⟨old, hs1, hs2⟩ := hB
        exact wpOp_put rfl (by kernel_rfl) (exec_storeG (g := q + 1) (cs := CX) (old := old) rfl (by kernel_rfl) (by kernel_rfl) w3 hs2 (by rw [hW5]; exact sizeCr) (by rw [hs1, hW5]) HX1.out) ⟨.bool true, by kernel_rfl, ⟨rfl, setRow_heap w3 (q + 1) old _ 30 (0, 0) hs2⟩, RF.of_only (only_rowV w3 (q + 1) _) (setRow_heap w3 (q + 1) old _ 30 (0, 0) hs2) rf2_m2⟩
    · intro xs w3 hxs hR hall
      obtain ⟨x0, x1, x2, x3, x4, x5, x6, rfl⟩ := lstRd19 xs hxs
      obtain ⟨_, kA⟩ : x5 = .bool true ∧ Blk w3 (q) (SV.c (ansV v (r6 : Int) 0)) 26 := hall 5 (by omega)
      obtain ⟨_, kB⟩ : x6 = .bool true ∧ Blk w3 (q + 1) (CX) 30 := hall 6 (by omega)
      have RA := hidden kA
      have RB := hidden kB
      have HRF := hidden hR
      have R7 := hidden (own_rf R6.out HRF.out P.out.rs P.out.rw (by decide) (by decide))
      have KP := hidden (P.out.both HRF.out)
      clear hR hall hxs kA kB HRF P KS KW QS QW R6
      simp only [slotsOn, putAll]
      go_wp2
      refine bodyPost_ret (results_cc rfl _ _ q (q + 1) _ _ (by kernel_rfl) (by kernel_rfl) (loadSt RA.out (ansV_len HV.out (r6 : Int) 0)) (loadCrR RB.out HX5.out)) rfl ⟨x15, by first | (rw [HCX.out]; done) | (rw [HCX.out]; rfl) | (rw [HCX.out, ← HC.out]; rfl), own_base R7.out HNB.out, KP.out.below (Nat.le_refl _) fun _ hb => hb.elim⟩
end Go.Proofs.Ytodoenimlhldjaa
namespace Go.Proofs.Ytodoenimlhldjaa
open Go.ChangeShapes Go.WideShapes Go.ChangeAt Go.RowKit
set_option linter.unusedVariables false
set_option maxRecDepth 20000 in
set_option maxHeartbeats 3000000 in
theorem rwrite_yes2 (w : World) (s : MS) (t : S5) (hM : M5 w t) (hs : Sim s t.l) (v : SV) (hv : v.ok) (inp : ByteArray) (at_ us : Int) (rd ev : Value) (e : List (Int × ByteArray)) (hrd : rd.oneCell' = true) (hev : Rw w 2 ev e.length (cE e)) (hel : e.length ≤ 16000) (hfd : v.R.getD 4 0 = 2) (hbig : ¬ 16384 < v.R.getD 6 0) (hmay : mayB s (v.R.getD 5 0).toNat (v.R.getD 6 0).toNat 4 = true) : Calls Try.prog 42 #[.pointer (some ⟨t.m, 0, none⟩), .agg v.c, .agg (cwC inp at_ rd us ev)] w fun x w' => ∃ ev', x = .returned (.tuple #[.agg (ansV v (v.R.getD 6 0) 0).c, .agg (cwC inp at_ rd us ev')]) ∧ w'.ownsRow w.heap.size 66 2 ev' (e.length + 1) (cE (e ++ [(v.R.getD 4 0, ⟨(s.span (v.R.getD 5 0).toNat (v.R.getD 6 0).toNat).toArray⟩)])) ∧ Below w.heap.size w w' := by
  obtain ⟨n, hn⟩ : ∃ n, w.heap.size = n := ⟨_, rfl⟩
  obtain ⟨q, hq⟩ : ∃ q, n + 1 + 1 = q := ⟨_, rfl⟩
  have HV := hidden hv.1
  have HQ := hidden hq
  clear hq
  obtain ⟨r2, h2⟩ : ∃ r2 : Nat, v.R.getD 2 0 = (r2 : Int) := ⟨(v.R.getD 2 0).toNat, by have := (hv.2.1 2 (by omega)).1; omega⟩
  obtain ⟨r4, h4⟩ : ∃ r4 : Nat, v.R.getD 4 0 = (r4 : Int) := ⟨(v.R.getD 4 0).toNat, by have := (hv.2.1 4 (by omega)).1; omega⟩
  obtain ⟨r5, h5⟩ : ∃ r5 : Nat, v.R.getD 5 0 = (r5 : Int) := ⟨(v.R.getD 5 0).toNat, by have := (hv.2.1 5 (by omega)).1; omega⟩
  obtain ⟨r6, h6⟩ : ∃ r6 : Nat, v.R.getD 6 0 = (r6 : Int) := ⟨(v.R.getD 6 0).toNat, by have := (hv.2.1 6 (by omega)).1; omega⟩
  have l5 : r5 < 4294967296 := by have := (hv.2.1 5 (by omega)).2; omega
  have l6 : r6 < 4294967296 := by have := (hv.2.1 6 (by omega)).2; omega
  have H2 := hidden h2
  have H4 := hidden h4
  have H5 := hidden h5
  have H6 := hidden h6
  rw [h4] at hfd
  have e4 : r4 = 2 := by omega
  subst e4
  rw [h6] at hbig
  rw [h5, h6, Int.toNat_natCast, Int.toNat_natCast] at hmay
  have HTH : Hid (∀ u, Below w.heap.size w u → Calls Try.prog 68 #[.pointer (some ⟨t.m, 0, none⟩), .int .u32 (r5 : Int), .int .i64 (r6 : Int), .int .i64 4] u fun e w' => e = .returned (.bool (mayB s r5 r6 4)) ∧ ∃ k, w' = u.drewN k) := hidden (fun u hu => there_any u s t r5 r6 4 (hM.later hu) hs l5 (by omega))
  rw [hmay] at HTH
  rw [h4, h5, h6, Int.toNat_natCast, Int.toNat_natCast]
  obtain ⟨L, hL⟩ : ∃ L, s.span r5 r6 = L := ⟨_, rfl⟩
  have HBY : Hid (∀ u, Below w.heap.size w u → Calls Try.prog 48 #[.pointer (some ⟨t.m, 0, none⟩), .int .u32 (r5 : Int), .int .i64 (r6 : Int)] u fun x w' => ∃ v', x = .returned v' ∧ w'.ownsRow u.heap.size 5 1 v' L.length (cellsU L) ∧ Below u.heap.size u w') := hidden (fun u hu => by
    have h2 := (hM.later hu).bytesC r5 r6 l5 (by omega)
    rw [hs.bytes, hL] at h2
    exact h2)
  rw [hL]
  have HR0 : Hid (0 ≤ (r6 : Int) ∧ (r6 : Int) < 4294967296) := hidden (by omega)
  have HBK := hidden (fun u => back_any v hv.1 (r6 : Int) 0 u)
  have HC1 : Hid (∀ x : Value, x.oneCell' = true → (cwC inp at_ rd us x).all (·.oneCell') = true) := hidden (fun x hx => cw_one hrd hx)
  have HEV := hidden hev
  have HEL := hidden hel
  obtain ⟨mb, hmb⟩ : ∃ mb, t.m = mb := ⟨_, rfl⟩
  have hi4 : ∀ u, (Instr.indexAt 24 (.pointer (some ⟨n, 0, none⟩)) (.int .i64 4)).run Try.prog u = .ok (.pointer (some ⟨n, 4, none⟩)) u := fun u => index_reg n 4 (by omega) u
  have hi5 : ∀ u, (Instr.indexAt 24 (.pointer (some ⟨n, 0, none⟩)) (.int .i64 5)).run Try.prog u = .ok (.pointer (some ⟨n, 5, none⟩)) u := fun u => index_reg n 5 (by omega) u
  have hi6 : ∀ u, (Instr.indexAt 24 (.pointer (some ⟨n, 0, none⟩)) (.int .i64 6)).run Try.prog u = .ok (.pointer (some ⟨n, 6, none⟩)) u := fun u => index_reg n 6 (by omega) u
  obtain ⟨C, hC⟩ : ∃ C, v.c = C := ⟨_, rfl⟩
  rw [hC]
  have HC := hidden hC
  rw [hmb] at HTH HBY ⊢
  obtain ⟨CW, hCW⟩ : ∃ CW, cwC inp at_ rd us ev = CW := ⟨_, rfl⟩
  rw [hCW]
  have HCW := hidden hCW
  have HC5 : Hid (CW.size = 5) := hidden (by rw [← hCW]; rfl)
  clear hC hCW hv h2 h4 h5 h6 hfd l5 hM hs hmay hL hmb hrd hev hel
  go_enter Try.func42, Try.ntmps42
  go_upto_region 1 with (first
    | (refine wpList_boxG rfl 26 _ rfl C rfl ?_; rintro w1 k1 s1 b1; rw [hn] at k1 s1 b1 ⊢; have K1 : Hid (Blk w1 n v.c 26) := hidden (by rw [HC.out]; exact k1); have S1 := hidden s1; have B1 := hidden b1; clear k1 s1 b1)
    | (refine wpList_boxG rfl 30 _ rfl CW rfl ?_; rintro w2 k2 s2 b2; rw [S1.out] at k2 s2 b2 ⊢; have K2 := hidden k2; have S2 : Hid (w2.heap.size = q) := hidden (by rw [s2]; exact HQ.out); have B2 := hidden b2; clear k2 s2 b2)
    | (refine wpList_allocV rfl rfl ?_; rintro w3 k3 s3 b3; rw [S2.out] at k3 s3 b3 ⊢; have K3 := hidden k3; have S3 := hidden s3; have B3 := hidden b3; clear k3 s3 b3)
    | (refine wpList_allocCr rfl rfl ?_; rintro w4 k4 s4 b4; rw [S3.out] at k4 s4 b4 ⊢; have P := hidden (WB.mk4 (F := nought) hn HQ.out K1.out S1.out B1.out K2.out S2.out B2.out K3.out S3.out B3.out k4 b4); clear k4 s4 b4 K1 S1 B1 K2 S2 B2 K3 S3 B3; obtain ⟨c2, c4, c5, c6⟩ := P.out.regs HV.out H2.out H4.out H5.out H6.out))
  go_upto_region 8 with (go_at_call 68; refine (HTH.out _ P.out.bel).mono ?_; rintro x w5 ⟨rfl, k5, rfl⟩; clear c2 c4 c5 c6; have Q := hidden (P.out.later (below_drewN (Below.refl _ _) k5)); clear P; have P := Q; clear Q; obtain ⟨c2, c4, c5, c6⟩ := P.out.regs HV.out H2.out H4.out H5.out H6.out)
  obtain ⟨w8, hw8⟩ : ∃ w8, World.drewN w4 k5 = w8 := ⟨_, rfl⟩
  rw [hw8] at P c2 c4 c5 c6 ⊢
  clear hw8
  have HNB : Hid (w.heap.size ≤ w8.heap.size) := hidden P.out.bel.size
  have HEV8 := hidden (HEV.out.later P.out.bel)
  have c44 : w8.cell? ⟨n + 1, 4, none⟩ = some ev := (by have k6 := P.out.c; rw [← HCW.out] at k6; exact k6.cell (j := 4) rfl)
  have K4 := hidden c4
  have K5 := hidden c5
  have K44 := hidden c44
  clear c2 c4 c5 c6 c44
  have QN : Hid (n + 1 < w8.heap.size) := hidden (by have := P.out.sz; have := P.out.hq; omega)
  refine wp_region_done 17 [44, 45, 46, 47, 48, 49, 50, 51, 52, 53, 54, 55, 56, 57, 58, 59, 60] (fun D xs w' => xs.length = 17 → InvWr n mb 2 r5 r6 ev e L w8 D xs w') (by kernel_rfl) (by kernel_rfl) rfl ?_ ?_ ?_
  · exact fun _ => ⟨later_below.drew w8, fun i _ h => by cases h⟩
  · intro D j hj hD1 _ hD2 xs w3 hxs hI0
    have hI := hI0 hxs
    clear hI0
    have hb3 := hI.1
    obtain ⟨x0, x1, x2, x3, x4, x5, x6, x7, x8, x9, x10, x11, x12, x13, x14, x15, x16, rfl⟩ := lstWr17 xs hxs
    rcases (show j = 0 ∨ j = 1 ∨ j = 2 ∨ j = 3 ∨ j = 4 ∨ j = 5 ∨ j = 6 ∨ j = 7 ∨ j = 8 ∨ j = 9 ∨ j = 10 ∨ j = 11 ∨ j = 12 ∨ j = 13 ∨ j = 14 ∨ j = 15 ∨ j = 16 by omega) with rfl | rfl | rfl | rfl | rfl | rfl | rfl | rfl | rfl | rfl | rfl | rfl | rfl | rfl | rfl | rfl | rfl
    · exact wpOp_run (.pointer (some ⟨n + 1, 4, none⟩)) rfl (by kernel_rfl) (by kernel_rfl) ⟨_, by kernel_rfl, fun _ => hI.step hxs (j := 0) (by decide) (by decide) (Below.refl _ _) (rfl)⟩
    · have e0 : x0 = .pointer (some ⟨n + 1, 4, none⟩) := hI.2 0 (by decide) (hD2 0 (by kernel_rfl)).2
      subst e0
      exact wpOp_run (ev) rfl (by kernel_rfl) (exec_load 28 rfl (by kernel_rfl) w3 (loadEs ((hb3.cell (p := ⟨n + 1, 4, none⟩) QN.out).trans K44.out))) ⟨_, by kernel_rfl, fun _ => hI.step hxs (j := 1) (by decide) (by decide) (Below.refl _ _) (rfl)⟩
    · have e1 : x1 = ev := hI.2 1 (by decide) (hD2 1 (by kernel_rfl)).2
      subst e1
      obtain ⟨v2, w2, hrun, ho, hb2⟩ := append0E w3 w8.heap.size x1 e.length (cE e) (HEV8.out.later hb3) (cE_one e) (by have := HEL.out; omega) hb3.size 28
      exact wpOp_run v2 rfl (by kernel_rfl) (exec_appE rfl rfl (by kernel_rfl) hrun) ⟨_, by kernel_rfl, fun _ => hI.step hxs (j := 2) (by decide) (by decide) (hb2) (.inr ho)⟩
    · exact wpOp_run (.pointer (some ⟨n, 0, none⟩)) rfl (by kernel_rfl) (by kernel_rfl) ⟨_, by kernel_rfl, fun _ => hI.step hxs (j := 3) (by decide) (by decide) (Below.refl _ _) (rfl)⟩
    · have e3 : x3 = .pointer (some ⟨n, 0, none⟩) := hI.2 3 (by decide) (hD2 3 (by kernel_rfl)).2
      subst e3
      exact wpOp_run (.pointer (some ⟨n, 4, none⟩)) rfl (by kernel_rfl) (exec_indexR (k := 4) (by decide) rfl (by kernel_rfl) (by kernel_rfl) w3) ⟨_, by kernel_rfl, fun _ => hI.step hxs (j := 4) (by decide) (by decide) (Below.refl _ _) (rfl)⟩
    · have e4 : x4 = .pointer (some ⟨n, 4, none⟩) := hI.2 4 (by decide) (hD2 4 (by kernel_rfl)).2
      subst e4
      exact wpOp_run (.int .u32 ((2 : Nat) : Int)) rfl (by kernel_rfl) (exec_load 23 rfl (by kernel_rfl) w3 (loadU ((hb3.cell (p := ⟨n, 4, none⟩) (Nat.lt_of_succ_lt QN.out)).trans K4.out))) ⟨_, by kernel_rfl, fun _ => hI.step hxs (j := 5) (by decide) (by decide) (Below.refl _ _) (rfl)⟩
    · exact wpOp_run (.pointer (some ⟨mb, 0, none⟩)) rfl (by kernel_rfl) (exec_move rfl (by kernel_rfl) w3) ⟨_, by kernel_rfl, fun _ => hI.step hxs (j := 6) (by decide) (by decide) (Below.refl _ _) (rfl)⟩
    · exact wpOp_run (.pointer (some ⟨n, 0, none⟩)) rfl (by kernel_rfl) (by kernel_rfl) ⟨_, by kernel_rfl, fun _ => hI.step hxs (j := 7) (by decide) (by decide) (Below.refl _ _) (rfl)⟩
    · have e7 : x7 = .pointer (some ⟨n, 0, none⟩) := hI.2 7 (by decide) (hD2 7 (by kernel_rfl)).2
      subst e7
      exact wpOp_run (.pointer (some ⟨n, 5, none⟩)) rfl (by kernel_rfl) (exec_indexR (k := 5) (by decide) rfl (by kernel_rfl) (by kernel_rfl) w3) ⟨_, by kernel_rfl, fun _ => hI.step hxs (j := 8) (by decide) (by decide) (Below.refl _ _) (rfl)⟩
    · have e8 : x8 = .pointer (some ⟨n, 5, none⟩) := hI.2 8 (by decide) (hD2 8 (by kernel_rfl)).2
      subst e8
      exact wpOp_run (.int .u32 (r5 : Int)) rfl (by kernel_rfl) (exec_load 23 rfl (by kernel_rfl) w3 (loadU ((hb3.cell (p := ⟨n, 5, none⟩) (Nat.lt_of_succ_lt QN.out)).trans K5.out))) ⟨_, by kernel_rfl, fun _ => hI.step hxs (j := 9) (by decide) (by decide) (Below.refl _ _) (rfl)⟩
    · exact wpOp_run (.int .i64 (r6 : Int)) rfl (by kernel_rfl) (exec_move rfl (by kernel_rfl) w3) ⟨_, by kernel_rfl, fun _ => hI.step hxs (j := 10) (by decide) (by decide) (Below.refl _ _) (rfl)⟩
    · have e6 : x6 = .pointer (some ⟨mb, 0, none⟩) := hI.2 6 (by decide) (hD2 6 (by kernel_rfl)).2
      subst e6
      have e9 : x9 = .int .u32 (r5 : Int) := hI.2 9 (by decide) (hD2 9 (by kernel_rfl)).2
      subst e9
      have e10 : x10 = .int .i64 (r6 : Int) := hI.2 10 (by decide) (hD2 10 (by kernel_rfl)).2
      subst e10
      refine wpOp_callR (R := fun u w9 => w9.ownsRow w8.heap.size 5 1 u L.length (cellsU L) ∧ Below w3.heap.size w3 w9) 48 #[.pointer (some ⟨mb, 0, none⟩), .int .u32 (r5 : Int), .int .i64 (r6 : Int)] rfl (by kernel_rfl) (by kernel_rfl) ((HBY.out w3 (P.out.bel.trans (hb3.mono HNB.out))).mono fun x w9 h => by obtain ⟨v9, hx, ho, hb⟩ := h; exact ⟨_, hx, own_base ho hb3.size, hb⟩) ?_
      rintro u w9 ⟨hu, hb9⟩
      exact ⟨_, by kernel_rfl, fun _ => hI.step hxs (j := 11) (by decide) (by decide) (hb9) (hu)⟩
    · have f11 := hI.2 11 (by decide) (hD2 11 (by kernel_rfl)).2
      obtain ⟨ao11, c11, e11, hli⟩ := lies_own f11
      subst e11
      exact wpOp_run (.string ⟨L.toArray⟩) rfl (by kernel_rfl) (exec_str (c := c11) L rfl (by kernel_rfl) w3 hli) ⟨_, by kernel_rfl, fun _ => hI.step hxs (j := 12) (by decide) (by decide) (Below.refl _ _) (rfl)⟩
    · have e5 : x5 = .int .u32 ((2 : Nat) : Int) := hI.2 5 (by decide) (hD2 5 (by kernel_rfl)).2
      subst e5
      have e12 : x12 = .string ⟨L.toArray⟩ := hI.2 12 (by decide) (hD2 12 (by kernel_rfl)).2
      subst e12
      exact wpOp_run (.agg #[.int .u32 ((2 : Nat) : Int), .string ⟨L.toArray⟩]) rfl (by kernel_rfl) (exec_build (ps := #[(0, .int .u32 ((2 : Nat) : Int)), (1, .string ⟨L.toArray⟩)]) 66 rfl (by kernel_rfl) w3 (by kernel_rfl)) ⟨_, by kernel_rfl, fun _ => hI.step hxs (j := 13) (by decide) (by decide) (Below.refl _ _) (rfl)⟩
    · have e13 : x13 = .agg #[.int .u32 ((2 : Nat) : Int), .string ⟨L.toArray⟩] := hI.2 13 (by decide) (hD2 13 (by kernel_rfl)).2
      subst e13
      exact wpOp_run (.slice (some ⟨w3.heap.size, 0, none⟩) 1 1) rfl (by kernel_rfl) (exec_bsE rfl (by kernel_rfl) w3) ⟨_, by kernel_rfl, fun _ => hI.step hxs (j := 14) (by decide) (by decide) (below_new w3 _) (.inr ⟨w3.heap.size, rfl, Blk.new w3 _ _⟩)⟩
    · have f2 := hI.2 2 (by decide) (hD2 2 (by kernel_rfl)).2
      have f14 := hI.2 14 (by decide) (hD2 14 (by kernel_rfl)).2
      rw [hD1] at f2 f14
      have f2b := f2.resolve_left (by decide)
      obtain ⟨g, e14, hg⟩ := f14.resolve_left (by decide)
      subst e14
      obtain ⟨v5, w5, hrun, ho, hk⟩ := append1E w3 w8.heap.size _ e ((2 : Nat) : Int) ⟨L.toArray⟩ g f2b hb3.size (by have := HEL.out; omega) hg 28
      exact wpOp_run v5 rfl (by kernel_rfl) (exec_appE rfl (by kernel_rfl) (by kernel_rfl) hrun) ⟨_, by kernel_rfl, fun _ => hI.app hxs hD1 f2b hk ho⟩
    · exact wpOp_run (.pointer (some ⟨n + 1, 4, none⟩)) rfl (by kernel_rfl) (by kernel_rfl) ⟨_, by kernel_rfl, fun _ => hI.step hxs (j := 16) (by decide) (by decide) (Below.refl _ _) (rfl)⟩
  · intro D xs w9 hxs hD hI0
    have hI := hI0 hxs
    obtain ⟨x0, x1, x2, x3, x4, x5, x6, x7, x8, x9, x10, x11, x12, x13, x14, x15, x16, rfl⟩ := lstWr17 xs hxs
    have e16 : x16 = .pointer (some ⟨n + 1, 4, none⟩) := hI.2 16 (by decide) (hD 16 (by decide))
    subst e16
    have RO := hidden (hI.2 15 (by decide) (hD 15 (by decide)))
    have P9 := hidden (P.out.later hI.1)
    have RW1 := hidden (rw_of_own RO.out).one
    clear hI hI0 hD P K4 K5 K44
    obtain ⟨v5, hv5⟩ : ∃ v5, x15 = v5 := ⟨_, rfl⟩
    simp only [slotsOn, putAll, List.set_cons_succ, List.set_cons_zero, List.drop_succ_cons, List.drop_zero]
    subst hv5
    go_upto_region 9 with (first
      | (refine wpList_storeC rfl rfl 28 _ _ rfl (n + 1) 4 CW 30 x15 rfl rfl RW1.out sizeEs1 P9.out.c (by rw [HC5.out]; decide) ?_; rintro w6 k6 o6; have PP := hidden (P9.out.putW o6 (by rw [← HCW.out] at k6; exact k6)); have R6 := hidden (own_only RO.out o6 P9.out.c (by decide)); clear k6 o6 P9))
    obtain ⟨CX, hCX⟩ : ∃ CX, cwC inp at_ rd us x15 = CX := ⟨_, rfl⟩
    have HCX := hidden hCX
    have HX5 : Hid (CX.size = 5) := hidden (by rw [← hCX]; rfl)
    have HX1 : Hid (CX.all (·.oneCell') = true) := hidden (by rw [← hCX]; exact HC1.out _ RW1.out)
    have P : Hid (WB nought w n q v CX w6) := hidden (by rw [← hCX]; exact PP.out)
    clear PP hCX
    have KS := hidden P.out.s
    have KW := hidden P.out.c
    have QS := hidden P.out.rs
    have QW := hidden P.out.rw
    have PQ := P.out.hq
    have hW5 := HX5.out
    refine wp_region_on (later_rf [(q, Obj.cells (SV.c (ansV v (r6 : Int) 0)) 26 (0, 0)), (q + 1, Obj.cells (CX) 30 (0, 0))]) [61, 62, 63, 64, 65, 1005, 1006] 7 (phiRd19 n q v CX (r6 : Int) 0) (by kernel_rfl) (by kernel_rfl) rfl rfl (phiRd19_mono n q v CX (r6 : Int) 0) ?_ ?_
    · intro j hj xs w3 hxs hR hpre
      obtain ⟨x0, x1, x2, x3, x4, x5, x6, rfl⟩ := lstRd19 xs hxs
      have hS : Blk w3 (n) (SV.c v) 26 := hR.blk KS.out (rf2_no (by omega) (by omega))
      have hW : Blk w3 (n + 1) CX 30 := hR.blk KW.out (rf2_no (by omega) (by omega))
      have hA := hR.some ⟨_, SV.size (s := SV.zero) rfl, QS.out⟩ (rf2_s1 (SV.size (ansV_len HV.out (r6 : Int) 0)))
      have hB := hR.some (n := 5) ⟨_, (show zCw.size = 5 from rfl), QW.out⟩ (rf2_s2 hW5)
      rcases (show j = 0 ∨ j = 1 ∨ j = 2 ∨ j = 3 ∨ j = 4 ∨ j = 5 ∨ j = 6 by omega) with rfl | rfl | rfl | rfl | rfl | rfl | rfl
      · exact wpOp_run (.agg (SV.c v)) rfl (by kernel_rfl) (exec_load 26 rfl (by kernel_rfl) w3 (loadSt hS HV.out)) ⟨_, by kernel_rfl, rfl, (later_rf _).refl _⟩
      · exact wpOp_run (.int .i64 (r6 : Int)) rfl (by kernel_rfl) (by kernel_rfl) ⟨_, by kernel_rfl, rfl, (later_rf _).refl _⟩
      · have e1 : x1 = .int .i64 (r6 : Int) := hpre 1 (by kernel_rfl)
        subst e1
        exact wpOp_run (.int .u32 (r6 : Int)) rfl (by kernel_rfl) (exec_cv rfl (by kernel_rfl) HR0.out.1 HR0.out.2 w3) ⟨_, by kernel_rfl, rfl, (later_rf _).refl _⟩
      · have e0 : x0 = .agg (SV.c v) := hpre 0 (by kernel_rfl)
        subst e0
        have e2 : x2 = .int .u32 (r6 : Int) := hpre 2 (by kernel_rfl)
        subst e2
        refine wpOp_callR (R := fun u w4 => u = .agg (SV.c (ansV v (r6 : Int) 0)) ∧ Below w3.heap.size w3 w4) 43 #[.agg (SV.c v), .int .u32 (r6 : Int), .int .u32 0] rfl (by kernel_rfl) (by kernel_rfl) ((HBK.out w3).mono fun e w4 h => ⟨_, h.1, rfl, h.2⟩) ?_
        rintro _ w4 ⟨rfl, hb⟩
        exact ⟨_, by kernel_rfl, rfl, RF.of_below hb⟩
      · exact wpOp_run (.agg CX) rfl (by kernel_rfl) (exec_load 30 rfl (by kernel_rfl) w3 (loadCrR hW hW5)) ⟨_, by kernel_rfl, rfl, (later_rf _).refl _⟩
      · have e3 : x3 = .agg (SV.c (ansV v (r6 : Int) 0)) := hpre 3 (by kernel_rfl)
        subst e3
        obtain ⟨old, hs1, hs2⟩ := hA
        exact wpOp_put rfl (by kernel_rfl) (exec_storeG (g := q) (cs := SV.c (ansV v (r6 : Int) 0)) (old := old) rfl (by kernel_rfl) (by kernel_rfl) w3 hs2 (by rw [SV.size (ansV_len HV.out (r6 : Int) 0)]; exact sizeSV) (by rw [hs1, SV.size (ansV_len HV.out (r6 : Int) 0)]) (SV.one _)) ⟨.bool true, by kernel_rfl, ⟨rfl, setRow_heap w3 (q) old _ 26 (0, 0) hs2⟩, RF.of_only (only_rowV w3 (q) _) (setRow_heap w3 (q) old _ 26 (0, 0) hs2) rf2_m1⟩
      · have e4 : x4 = .agg CX := hpre 4 (by kernel_rfl)
        subst e4
        obtain ⟨old, hs1, hs2⟩ := hB
        exact wpOp_put rfl (by kernel_rfl) (exec_storeG (g := q + 1) (cs := CX) (old := old) rfl (by kernel_rfl) (by kernel_rfl) w3 hs2 (by rw [hW5]; exact sizeCr) (by rw [hs1, hW5]) HX1.out) ⟨.bool true, by kernel_rfl, ⟨rfl, setRow_heap w3 (q + 1) old _ 30 (0, 0) hs2⟩, RF.of_only (only_rowV w3 (q + 1) _) (setRow_heap w3 (q + 1) old _ 30 (0, 0) hs2) rf2_m2⟩
    · intro xs w3 hxs hR hall
      obtain ⟨x0, x1, x2, x3, x4, x5, x6, rfl⟩ := lstRd19 xs hxs
      obtain ⟨_, kA⟩ : x5 = .bool true ∧ Blk w3 (q) (SV.c (ansV v (r6 : Int) 0)) 26 := hall 5 (by omega)
      obtain ⟨_, kB⟩ : x6 = .bool true ∧ Blk w3 (q + 1) (CX) 30 := hall 6 (by omega)
      have RA := hidden kA
      have RB := hidden kB
      have HRF := hidden hR
      have R7 := hidden (own_rf R6.out HRF.out P.out.rs P.out.rw (by decide) (by decide))
      have KP := hidden (P.out.both HRF.out)
      clear hR hall hxs kA kB HRF P KS KW QS QW R6
      simp only [slotsOn, putAll]
      go_wp2
      refine bodyPost_ret (results_cc rfl _ _ q (q + 1) _ _ (by kernel_rfl) (by kernel_rfl) (loadSt RA.out (ansV_len HV.out (r6 : Int) 0)) (loadCrR RB.out HX5.out)) rfl ⟨x15, by first | (rw [HCX.out]; done) | (rw [HCX.out]; rfl) | (rw [HCX.out, ← HC.out]; rfl), own_base R7.out HNB.out, KP.out.below (Nat.le_refl _) fun _ hb => hb.elim⟩
end Go.Proofs.Ytodoenimlhldjaa

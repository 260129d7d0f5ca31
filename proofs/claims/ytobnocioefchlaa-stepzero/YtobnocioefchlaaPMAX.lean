/- The chapter's rows, plain: both searches find the same row. -/
import Derived.Test.YtobnocioefchlaaPMAW
import Derived.Test.YtobnocioefchlaaPMAL
import Derived.Great.Walk
import Derived.Laws.Tables
import Derived.Laws.Rows
import Derived.Deep.MidRow
import Derived.ChangeKeysEq
namespace Go.Proofs.Ytobnocioefchlaa
open Go.ChangeShapes Go.WideShapes Go.ChangeAt Go.RowKit
set_option linter.unusedVariables false
def dgC (k : Nat) : Dg := dgL (linL.getD k noLn)
def dgEq (a b : Dg) : Bool := a.mo == b.mo && (a.ms == b.ms && (a.mt == b.mt && (a.md == b.md && (a.ma == b.ma && (a.mf == b.mf && (a.wo == b.wo && (a.ws == b.ws && (a.wt == b.wt && (a.wd == b.wd && (a.wa == b.wa && a.wf == b.wf))))))))))
theorem dg_eq {a b : Dg} (h : dgEq a b = true) : a = b := by
  unfold dgEq at h
  simp only [Bool.and_eq_true, beq_iff_eq] at h
  cases a
  cases b
  simp only at h
  obtain ⟨rfl, rfl, rfl, rfl, rfl, rfl, rfl, rfl, rfl, rfl, rfl, rfl⟩ := h
  rfl
set_option maxRecDepth 20000 in
theorem rows_all : (List.range 69).all (fun k => dgEq (dgC k) (dgR k) && ((rowR k).1 == k + 1 && ((rowR k).2.1 == 89) == decide (k = 37 ∨ k = 38))) = true := by kernel_rfl
theorem rows_at {k : Nat} (hk : k < 69) : dgC k = dgR k ∧ (rowR k).1 = k + 1 ∧ ((rowR k).2.1 = 89 ↔ (k = 37 ∨ k = 38)) := by
  have h := List.all_eq_true.1 rows_all k (List.mem_range.2 hk)
  simp only [Bool.and_eq_true, beq_iff_eq] at h
  refine ⟨dg_eq h.1, h.2.1, ?_⟩
  have h3 := h.2.2
  constructor
  · intro e
    rw [e] at h3
    exact of_decide_eq_true h3.symm
  · intro e
    rw [decide_eq_true e] at h3
    exact eq_of_beq h3
/-- Whether a word is of a row: the code's way, the chapter's. -/
def cfit (w k : Nat) : Bool := dfit (dgC k) w
/-- The row's own number. -/
def ownN (w : Nat) : Nat := if fO w = 0 ∨ fO w = 28 then fF w else if fO w = 1 then fT w else fO w
set_option maxRecDepth 20000 in
theorem own_all : (List.range 69).all (fun k => (dgC k).mo == 63 && (decide ((linL.getD k noLn).num = (((if (dgC k).wo = 0 ∨ (dgC k).wo = 28 then (dgC k).wf else if (dgC k).wo = 1 then (dgC k).wt else (dgC k).wo) : Nat) : Int)) && ((decide ((dgC k).wo = 0 ∨ (dgC k).wo = 28) && (dgC k).mf == 63) || ((decide ((dgC k).wo = 1) && (dgC k).mt == 31) || decide ((dgC k).wo ≠ 0 ∧ (dgC k).wo ≠ 1 ∧ (dgC k).wo ≠ 28))))) = true := by kernel_rfl
theorem own_fit {w k : Nat} (hw : w < 4294967296) (hk : k < 69) (h : cfit w k = true) : (linL.getD k noLn).num = (ownN w : Int) := by
  have ha := List.all_eq_true.1 own_all k (List.mem_range.2 hk)
  simp only [Bool.and_eq_true, beq_iff_eq, Bool.or_eq_true, decide_eq_true_eq] at ha
  obtain ⟨h1, h2, h3⟩ := ha
  unfold cfit dfit at h
  simp only [Bool.and_eq_true, beq_iff_eq] at h
  obtain ⟨o1, o2, o3, o4, o5, o6⟩ := h
  rw [h1, and63 (fO_lt hw)] at o1
  obtain ⟨b1, b2, b3, b4, b5⟩ := fields_lt w
  rw [h2]
  unfold ownN
  congr 1
  rw [o1]
  rcases h3 with ⟨e, em⟩ | ⟨e, em⟩ | ⟨e0, e1, e2⟩
  · rw [em, and63 b5] at o6
    rw [if_pos e, if_pos e, o6]
  · rw [em, and31n b2] at o3
    have ne : ¬ ((dgC k).wo = 0 ∨ (dgC k).wo = 28) := by omega
    rw [if_neg ne, if_pos e, if_neg ne, if_pos e, o3]
  · have ne : ¬ ((dgC k).wo = 0 ∨ (dgC k).wo = 28) := by omega
    rw [if_neg ne, if_neg e1, if_neg ne, if_neg e1]
set_option maxRecDepth 20000 in
theorem alone_all : (List.range 69).all (fun j => decide (j = 37) || ((dgC j).mo == 63 && (decide ((dgC j).wo ≠ 28) || ((dgC j).mf == 63 && decide ((dgC j).wf ≠ 32))))) = true ∧ (List.range 69).all (fun j => decide (j = 38) || ((dgC j).mo == 63 && (decide ((dgC j).wo ≠ 28) || ((dgC j).mf == 63 && decide ((dgC j).wf ≠ 33))))) = true := ⟨by kernel_rfl, by kernel_rfl⟩
theorem alone_fit {w k j : Nat} (hw : w < 4294967296) (hk : k = 37 ∨ k = 38) (hj : j < 69) (hne : j ≠ k) (h : cfit w k = true) : cfit w j = false := by
  cases hc : cfit w j with
  | false => rfl
  | true =>
    exfalso
    unfold cfit dfit at h hc
    simp only [Bool.and_eq_true, beq_iff_eq] at h hc
    obtain ⟨o1, _, _, _, _, o6⟩ := h
    obtain ⟨p1, _, _, _, _, p6⟩ := hc
    obtain ⟨b1, b2, b3, b4, b5⟩ := fields_lt w
    rcases hk with rfl | rfl
    · have ha := List.all_eq_true.1 alone_all.1 j (List.mem_range.2 hj)
      simp only [Bool.and_eq_true, beq_iff_eq, Bool.or_eq_true, decide_eq_true_eq] at ha
      rcases ha with e | ⟨e1, e2⟩
      · exact hne e
      · rw [e1, and63 (fO_lt hw)] at p1
        change fO w &&& 63 = 28 at o1
        change fF w &&& 63 = 32 at o6
        rw [and63 (fO_lt hw)] at o1
        rw [and63 b5] at o6
        rcases e2 with e2 | ⟨e2, e3⟩
        · exact e2 (p1.symm.trans o1)
        · rw [e2, and63 b5] at p6
          exact e3 (p6.symm.trans o6)
    · have ha := List.all_eq_true.1 alone_all.2 j (List.mem_range.2 hj)
      simp only [Bool.and_eq_true, beq_iff_eq, Bool.or_eq_true, decide_eq_true_eq] at ha
      rcases ha with e | ⟨e1, e2⟩
      · exact hne e
      · rw [e1, and63 (fO_lt hw)] at p1
        change fO w &&& 63 = 28 at o1
        change fF w &&& 63 = 33 at o6
        rw [and63 (fO_lt hw)] at o1
        rw [and63 b5] at o6
        rcases e2 with e2 | ⟨e2, e3⟩
        · exact e2 (p1.symm.trans o1)
        · rw [e2, and63 b5] at p6
          exact e3 (p6.symm.trans o6)
/-- The row of a word's instruction. -/
def decP (w : Nat) : Option Nat := match findP (cfit w) with
  | none => none
  | some k => if (k = 37 ∨ k = 38) ∧ fT w ≠ fD w then none else some k
theorem rfit_of {w k : Nat} (hk : k < 69) : rfit w k = (cfit w k && (decide (¬ (k = 37 ∨ k = 38)) || (fT w == fD w))) := by
  obtain ⟨h1, h2, h3⟩ := rows_at hk
  unfold rfit cfit
  rw [← h1]
  congr 2
  by_cases e : k = 37 ∨ k = 38
  · rw [decide_eq_false (show ¬ (rowR k).2.1 ≠ 89 from fun h => h (h3.2 e)), decide_eq_false (fun h => h e)]
  · rw [decide_eq_true (show (rowR k).2.1 ≠ 89 from fun h => e (h3.1 h)), decide_eq_true e]
theorem find_same (w : Nat) (hw : w < 4294967296) : findP (rfit w) = decP w := by
  unfold decP
  cases hc : findP (cfit w) with
  | none =>
    rw [findP_none] at hc ⊢
    intro j hj
    rw [rfit_of hj, hc j hj, Bool.false_and]
  | some k =>
    obtain ⟨h1, h2, h3⟩ := findP_some.1 hc
    show _ = if (k = 37 ∨ k = 38) ∧ fT w ≠ fD w then none else some k
    by_cases e : (k = 37 ∨ k = 38) ∧ fT w ≠ fD w
    · rw [if_pos e, findP_none]
      intro j hj
      rw [rfit_of hj]
      by_cases ej : j = k
      · subst ej
        rw [decide_eq_false (fun h => h e.1), beq_eq_false_iff_ne.2 e.2, Bool.or_self, Bool.and_false]
      · rw [alone_fit hw e.1 hj ej h1, Bool.false_and]
    · rw [if_neg e, findP_some]
      refine ⟨?_, h2, fun j hj => by rw [rfit_of (Nat.lt_trans hj h2), h3 j hj, Bool.false_and]⟩
      rw [rfit_of h2, h1, Bool.true_and]
      by_cases e1 : k = 37 ∨ k = 38
      · have e2 : fT w = fD w := by
          by_cases e3 : fT w = fD w
          · exact e3
          · exact absurd ⟨e1, e3⟩ e
        rw [e2]
        simp
      · rw [decide_eq_true e1, Bool.true_or]
end Go.Proofs.Ytobnocioefchlaa
namespace Go.Proofs.Ytobnocioefchlaa
open Go.ChangeShapes Go.WideShapes Go.ChangeAt Go.RowKit
set_option linter.unusedVariables false
def tkF : List (Nat → Tk) := [fun w => ⟨fS w, fT w, fD w, 0, 0⟩, fun w => ⟨0, fT w, fD w, fA w, 0⟩, fun w => ⟨fS w, fT w, 0, 0, 0⟩, fun w => ⟨0, 0, fD w, 0, 0⟩, fun w => ⟨fS w, 0, 0, 0, 0⟩, fun w => ⟨fS w, 0, fD w, 0, 0⟩, fun w => ⟨fS w, fT w, 0, 0, w / 64 % 1024⟩, fun w => ⟨0, 0, 0, 0, w / 64 % 1048576⟩, fun w => ⟨fS w, fT w, fD w, 0, 0⟩, fun w => ⟨fS w, fT w, fD w, 0, 0⟩, fun w => ⟨fS w, fT w, 0, 0, sxw w⟩, fun w => ⟨fS w, fT w, 0, 0, w % 65536⟩, fun w => ⟨0, fT w, 0, 0, w % 65536⟩, fun w => ⟨fS w, fT w, 0, 0, sxw w⟩, fun w => ⟨fS w, fT w, 0, 0, sxw w * 4 % 4294967296⟩, fun w => ⟨fS w, 0, 0, 0, sxw w * 4 % 4294967296⟩, fun w => ⟨fS w, 0, 0, 0, sxw w * 4 % 4294967296⟩, fun w => ⟨0, 0, 0, 0, w % 67108864 * 4⟩]
/-- By the code's forms; by the chapter's letters. -/
def tkC (f : Int) (w : Nat) : Tk := (tkF.getD f.toNat tk0) w
theorem pairs_all : (List.range 69).all (fun k => [((0 : Nat), (68 : Nat)), ((1 : Nat), (72 : Nat)), ((2 : Nat), (77 : Nat)), ((3 : Nat), (70 : Nat)), ((4 : Nat), (76 : Nat)), ((5 : Nat), (71 : Nat)), ((6 : Nat), (84 : Nat)), ((7 : Nat), (67 : Nat)), ((8 : Nat), (88 : Nat)), ((9 : Nat), (89 : Nat)), ((10 : Nat), (73 : Nat)), ((11 : Nat), (85 : Nat)), ((12 : Nat), (86 : Nat)), ((13 : Nat), (80 : Nat)), ((14 : Nat), (66 : Nat)), ((15 : Nat), (90 : Nat)), ((16 : Nat), (82 : Nat)), ((17 : Nat), (74 : Nat))].any fun p => decide ((linL.getD k noLn).form = (p.1 : Int)) && ((rowR k).2.1 == p.2)) = true := by kernel_rfl
theorem tk_same {k : Nat} (hk : k < 69) (w : Nat) : tkC (linL.getD k noLn).form w = tkR (rowR k).2.1 w := by
  have h := List.all_eq_true.1 pairs_all k (List.mem_range.2 hk)
  rw [List.any_eq_true] at h
  obtain ⟨p, hp, h2⟩ := h
  simp only [Bool.and_eq_true, decide_eq_true_eq, beq_iff_eq] at h2
  rw [h2.1, h2.2]
  simp only [List.mem_cons, List.not_mem_nil, or_false] at hp
  rcases hp with rfl | rfl | rfl | rfl | rfl | rfl | rfl | rfl | rfl | rfl | rfl | rfl | rfl | rfl | rfl | rfl | rfl | rfl <;> rfl
theorem held_at (g : Dg) (hg : dok g = true) (w : Nat) : (w &&& dmask g) / 2097152 % 32 = fS w &&& g.ms ∧ (w &&& dmask g) / 65536 % 32 = fT w &&& g.mt ∧ (w &&& dmask g) / 2048 % 32 = fD w &&& g.md ∧ (w &&& dmask g) / 64 % 32 = fA w &&& g.ma := by
  rw [and_fields g hg w]
  obtain ⟨b1, b2, b3, b4, b5⟩ := fields_lt w
  have c1 : fS w &&& g.ms < 32 := Nat.lt_of_le_of_lt Nat.and_le_left b1
  have c2 : fT w &&& g.mt < 32 := Nat.lt_of_le_of_lt Nat.and_le_left b2
  have c3 : fD w &&& g.md < 32 := Nat.lt_of_le_of_lt Nat.and_le_left b3
  have c4 : fA w &&& g.ma < 32 := Nat.lt_of_le_of_lt Nat.and_le_left b4
  have c5 : fF w &&& g.mf < 64 := Nat.lt_of_le_of_lt Nat.and_le_left b5
  generalize fO w &&& g.mo = x0 at *
  generalize fS w &&& g.ms = x1 at *
  generalize fT w &&& g.mt = x2 at *
  generalize fD w &&& g.md = x3 at *
  generalize fA w &&& g.ma = x4 at *
  generalize fF w &&& g.mf = x5 at *
  refine ⟨?_, ?_, ?_, ?_⟩ <;> omega
/-- A shape's registers as fields. -/
def rgT : List Dg := [⟨0, 31, 31, 31, 0, 0, 0, 0, 0, 0, 0, 0⟩, ⟨0, 0, 31, 31, 31, 0, 0, 0, 0, 0, 0, 0⟩, ⟨0, 31, 31, 0, 0, 0, 0, 0, 0, 0, 0, 0⟩, ⟨0, 0, 0, 31, 0, 0, 0, 0, 0, 0, 0, 0⟩, ⟨0, 31, 0, 0, 0, 0, 0, 0, 0, 0, 0, 0⟩, ⟨0, 31, 0, 31, 0, 0, 0, 0, 0, 0, 0, 0⟩, ⟨0, 31, 31, 0, 0, 0, 0, 0, 0, 0, 0, 0⟩, ⟨0, 0, 0, 0, 0, 0, 0, 0, 0, 0, 0, 0⟩, ⟨0, 31, 31, 31, 0, 0, 0, 0, 0, 0, 0, 0⟩, ⟨0, 31, 31, 31, 0, 0, 0, 0, 0, 0, 0, 0⟩, ⟨0, 31, 31, 0, 0, 0, 0, 0, 0, 0, 0, 0⟩, ⟨0, 31, 31, 0, 0, 0, 0, 0, 0, 0, 0, 0⟩, ⟨0, 0, 31, 0, 0, 0, 0, 0, 0, 0, 0, 0⟩, ⟨0, 31, 31, 0, 0, 0, 0, 0, 0, 0, 0, 0⟩, ⟨0, 31, 31, 0, 0, 0, 0, 0, 0, 0, 0, 0⟩, ⟨0, 31, 0, 0, 0, 0, 0, 0, 0, 0, 0, 0⟩, ⟨0, 31, 0, 0, 0, 0, 0, 0, 0, 0, 0, 0⟩, ⟨0, 0, 0, 0, 0, 0, 0, 0, 0, 0, 0, 0⟩]
def rg0 : Dg := ⟨0, 0, 0, 0, 0, 0, 0, 0, 0, 0, 0, 0⟩
/-- The code's fields of a word, by a shape. -/
def heldI (s : Sh) (w : Nat) : Int := bits .and .u32 (w : Int) s.regs
def immI (s : Sh) (w : Nat) : Int := (if s.nsg = true then sext32 (field32 (w : Int) s.nat s.nbits) s.nbits else field32 (w : Int) s.nat s.nbits) * 2 ^ min s.nsh.toNat 32 % 4294967296
theorem and_off (x : Nat) : x &&& 0 = 0 := Nat.and_zero x
theorem regs_form {f : Nat} (hf : f < 18) (w : Nat) : (fS w &&& (rgT.getD f rg0).ms) = (tkC (f : Int) w).s ∧ (fT w &&& (rgT.getD f rg0).mt) = (tkC (f : Int) w).t ∧ (fD w &&& (rgT.getD f rg0).md) = (tkC (f : Int) w).d ∧ (fA w &&& (rgT.getD f rg0).ma) = (tkC (f : Int) w).a := by
  obtain ⟨b1, b2, b3, b4, b5⟩ := fields_lt w
  rcases (show f = 0 ∨ f = 1 ∨ f = 2 ∨ f = 3 ∨ f = 4 ∨ f = 5 ∨ f = 6 ∨ f = 7 ∨ f = 8 ∨ f = 9 ∨ f = 10 ∨ f = 11 ∨ f = 12 ∨ f = 13 ∨ f = 14 ∨ f = 15 ∨ f = 16 ∨ f = 17 by omega) with rfl | rfl | rfl | rfl | rfl | rfl | rfl | rfl | rfl | rfl | rfl | rfl | rfl | rfl | rfl | rfl | rfl | rfl
  · exact ⟨and31n b1, and31n b2, and31n b3, and_off _⟩
  · exact ⟨and_off _, and31n b2, and31n b3, and31n b4⟩
  · exact ⟨and31n b1, and31n b2, and_off _, and_off _⟩
  · exact ⟨and_off _, and_off _, and31n b3, and_off _⟩
  · exact ⟨and31n b1, and_off _, and_off _, and_off _⟩
  · exact ⟨and31n b1, and_off _, and31n b3, and_off _⟩
  · exact ⟨and31n b1, and31n b2, and_off _, and_off _⟩
  · exact ⟨and_off _, and_off _, and_off _, and_off _⟩
  · exact ⟨and31n b1, and31n b2, and31n b3, and_off _⟩
  · exact ⟨and31n b1, and31n b2, and31n b3, and_off _⟩
  · exact ⟨and31n b1, and31n b2, and_off _, and_off _⟩
  · exact ⟨and31n b1, and31n b2, and_off _, and_off _⟩
  · exact ⟨and_off _, and31n b2, and_off _, and_off _⟩
  · exact ⟨and31n b1, and31n b2, and_off _, and_off _⟩
  · exact ⟨and31n b1, and31n b2, and_off _, and_off _⟩
  · exact ⟨and31n b1, and_off _, and_off _, and_off _⟩
  · exact ⟨and31n b1, and_off _, and_off _, and_off _⟩
  · exact ⟨and_off _, and_off _, and_off _, and_off _⟩
theorem pow_S : (2 : Nat) ^ 21 = 2097152 := by decide
theorem field_S (x : Nat) : field32 (x : Int) 21 5 = ((x / 2097152 % 32 : Nat) : Int) := by
  have h := field_nat x 21 5 (by omega) (by omega)
  rw [pow_S, show (2 : Nat) ^ 5 = 32 from rfl] at h
  exact h
theorem held_S (g : Dg) (hg : dok g = true) (hm : dmask g < 4294967296) (w : Nat) (hw : w < 4294967296) : field32 (bits .and .u32 (w : Int) ((dmask g : Nat) : Int)) 21 5 = ((fS w &&& g.ms : Nat) : Int) := by
  rw [u32_and_nat w _ hw hm, field_S, (held_at g hg w).1]
theorem pow_T : (2 : Nat) ^ 16 = 65536 := by decide
theorem field_T (x : Nat) : field32 (x : Int) 16 5 = ((x / 65536 % 32 : Nat) : Int) := by
  have h := field_nat x 16 5 (by omega) (by omega)
  rw [pow_T, show (2 : Nat) ^ 5 = 32 from rfl] at h
  exact h
theorem held_T (g : Dg) (hg : dok g = true) (hm : dmask g < 4294967296) (w : Nat) (hw : w < 4294967296) : field32 (bits .and .u32 (w : Int) ((dmask g : Nat) : Int)) 16 5 = ((fT w &&& g.mt : Nat) : Int) := by
  rw [u32_and_nat w _ hw hm, field_T, (held_at g hg w).2.1]
theorem pow_D : (2 : Nat) ^ 11 = 2048 := by decide
theorem field_D (x : Nat) : field32 (x : Int) 11 5 = ((x / 2048 % 32 : Nat) : Int) := by
  have h := field_nat x 11 5 (by omega) (by omega)
  rw [pow_D, show (2 : Nat) ^ 5 = 32 from rfl] at h
  exact h
theorem held_D (g : Dg) (hg : dok g = true) (hm : dmask g < 4294967296) (w : Nat) (hw : w < 4294967296) : field32 (bits .and .u32 (w : Int) ((dmask g : Nat) : Int)) 11 5 = ((fD w &&& g.md : Nat) : Int) := by
  rw [u32_and_nat w _ hw hm, field_D, (held_at g hg w).2.2.1]
theorem pow_A : (2 : Nat) ^ 6 = 64 := by decide
theorem field_A (x : Nat) : field32 (x : Int) 6 5 = ((x / 64 % 32 : Nat) : Int) := by
  have h := field_nat x 6 5 (by omega) (by omega)
  rw [pow_A, show (2 : Nat) ^ 5 = 32 from rfl] at h
  exact h
theorem held_A (g : Dg) (hg : dok g = true) (hm : dmask g < 4294967296) (w : Nat) (hw : w < 4294967296) : field32 (bits .and .u32 (w : Int) ((dmask g : Nat) : Int)) 6 5 = ((fA w &&& g.ma : Nat) : Int) := by
  rw [u32_and_nat w _ hw hm, field_A, (held_at g hg w).2.2.2]
theorem regs_at {f : Nat} (hf : f < 18) : dok (rgT.getD f rg0) = true ∧ (shOf (f : Int)).regs = ((dmask (rgT.getD f rg0) : Nat) : Int) ∧ dmask (rgT.getD f rg0) < 4294967296 := by
  rcases (show f = 0 ∨ f = 1 ∨ f = 2 ∨ f = 3 ∨ f = 4 ∨ f = 5 ∨ f = 6 ∨ f = 7 ∨ f = 8 ∨ f = 9 ∨ f = 10 ∨ f = 11 ∨ f = 12 ∨ f = 13 ∨ f = 14 ∨ f = 15 ∨ f = 16 ∨ f = 17 by omega) with rfl | rfl | rfl | rfl | rfl | rfl | rfl | rfl | rfl | rfl | rfl | rfl | rfl | rfl | rfl | rfl | rfl | rfl
  · exact ⟨rfl, rfl, by decide⟩
  · exact ⟨rfl, rfl, by decide⟩
  · exact ⟨rfl, rfl, by decide⟩
  · exact ⟨rfl, rfl, by decide⟩
  · exact ⟨rfl, rfl, by decide⟩
  · exact ⟨rfl, rfl, by decide⟩
  · exact ⟨rfl, rfl, by decide⟩
  · exact ⟨rfl, rfl, by decide⟩
  · exact ⟨rfl, rfl, by decide⟩
  · exact ⟨rfl, rfl, by decide⟩
  · exact ⟨rfl, rfl, by decide⟩
  · exact ⟨rfl, rfl, by decide⟩
  · exact ⟨rfl, rfl, by decide⟩
  · exact ⟨rfl, rfl, by decide⟩
  · exact ⟨rfl, rfl, by decide⟩
  · exact ⟨rfl, rfl, by decide⟩
  · exact ⟨rfl, rfl, by decide⟩
  · exact ⟨rfl, rfl, by decide⟩
theorem hform_S {f : Nat} (hf : f < 18) (w : Nat) (hw : w < 4294967296) : field32 (heldI (shOf (f : Int)) w) 21 5 = ((fS w &&& (rgT.getD f rg0).ms : Nat) : Int) := by
  obtain ⟨h1, h2, h3⟩ := regs_at hf
  unfold heldI
  rw [h2]
  exact held_S _ h1 h3 w hw
theorem hform_T {f : Nat} (hf : f < 18) (w : Nat) (hw : w < 4294967296) : field32 (heldI (shOf (f : Int)) w) 16 5 = ((fT w &&& (rgT.getD f rg0).mt : Nat) : Int) := by
  obtain ⟨h1, h2, h3⟩ := regs_at hf
  unfold heldI
  rw [h2]
  exact held_T _ h1 h3 w hw
theorem hform_D {f : Nat} (hf : f < 18) (w : Nat) (hw : w < 4294967296) : field32 (heldI (shOf (f : Int)) w) 11 5 = ((fD w &&& (rgT.getD f rg0).md : Nat) : Int) := by
  obtain ⟨h1, h2, h3⟩ := regs_at hf
  unfold heldI
  rw [h2]
  exact held_D _ h1 h3 w hw
theorem hform_A {f : Nat} (hf : f < 18) (w : Nat) (hw : w < 4294967296) : field32 (heldI (shOf (f : Int)) w) 6 5 = ((fA w &&& (rgT.getD f rg0).ma : Nat) : Int) := by
  obtain ⟨h1, h2, h3⟩ := regs_at hf
  unfold heldI
  rw [h2]
  exact held_A _ h1 h3 w hw
theorem held_form {f : Nat} (hf : f < 18) (w : Nat) (hw : w < 4294967296) : field32 (heldI (shOf (f : Int)) w) 21 5 = ((tkC (f : Int) w).s : Int) ∧ field32 (heldI (shOf (f : Int)) w) 16 5 = ((tkC (f : Int) w).t : Int) ∧ field32 (heldI (shOf (f : Int)) w) 11 5 = ((tkC (f : Int) w).d : Int) ∧ field32 (heldI (shOf (f : Int)) w) 6 5 = ((tkC (f : Int) w).a : Int) :=
  ⟨(hform_S hf w hw).trans (cast_eq2 (regs_form hf w).1), (hform_T hf w hw).trans (cast_eq2 (regs_form hf w).2.1), (hform_D hf w hw).trans (cast_eq2 (regs_form hf w).2.2.1), (hform_A hf w hw).trans (cast_eq2 (regs_form hf w).2.2.2)⟩
theorem min_0 : min (0 : Int).toNat 32 = 0 := by decide
theorem min_2 : min (2 : Int).toNat 32 = 2 := by decide
theorem imm_none (s : Sh) (w : Nat) (h0 : s.nsg = false) (h1 : s.nat = 0) (h2 : s.nbits = 0) (h3 : s.nsh = 0) : immI s w = ((0 : Nat) : Int) := by
  have h := field_nat w 0 0 (by omega) (by omega)
  have e : w / 2 ^ 0 % 2 ^ 0 = 0 := by rw [Nat.pow_zero]; omega
  rw [e] at h
  unfold immI
  rw [h0, h1, h2, h3, min_0, if_neg (by decide)]
  rw [show field32 (w : Int) 0 0 = ((0 : Nat) : Int) from h]
  decide
theorem imm_cut (s : Sh) (w a n d m : Nat) (h0 : s.nsg = false) (h1 : s.nat = (a : Int)) (h2 : s.nbits = (n : Int)) (h3 : s.nsh = 0) (ha : a ≤ 31) (hn : n + a ≤ 32) (hd : 2 ^ a = d) (hm : 2 ^ n = m) (h5 : m ≤ 4294967296) (h6 : 0 < m) : immI s w = ((w / d % m : Nat) : Int) := by
  have h := field_nat w a n ha hn
  rw [hd, hm] at h
  unfold immI
  rw [h0, h1, h2, h3, min_0, if_neg (by decide), h]
  have hl : w / d % m < m := Nat.mod_lt _ h6
  generalize w / d % m = x at *
  rw [show (2 : Int) ^ 0 = 1 from rfl]
  omega
theorem imm_up (s : Sh) (w : Nat) (h0 : s.nsg = false) (h1 : s.nat = 0) (h2 : s.nbits = 26) (h3 : s.nsh = 2) : immI s w = ((w % 67108864 * 4 : Nat) : Int) := by
  have h := field_nat w 0 26 (by omega) (by omega)
  rw [show (2 : Nat) ^ 0 = 1 from rfl, show (2 : Nat) ^ 26 = 67108864 by decide, Nat.div_one] at h
  unfold immI
  rw [h0, h1, h2, h3, min_2, if_neg (by decide)]
  rw [show field32 (w : Int) 0 26 = ((w % 67108864 : Nat) : Int) from h]
  have hl : w % 67108864 < 67108864 := Nat.mod_lt _ (by decide)
  generalize w % 67108864 = x at *
  rw [show (2 : Int) ^ 2 = 4 by decide]
  omega
theorem imm_sgn (s : Sh) (w : Nat) (h0 : s.nsg = true) (h1 : s.nat = 0) (h2 : s.nbits = 16) : (if s.nsg = true then sext32 (field32 (w : Int) s.nat s.nbits) s.nbits else field32 (w : Int) s.nat s.nbits) = ((sxw w : Nat) : Int) := by
  have h := field_nat w 0 16 (by omega) (by omega)
  rw [show (2 : Nat) ^ 0 = 1 from rfl, show (2 : Nat) ^ 16 = 65536 by decide, Nat.div_one] at h
  rw [if_pos h0, h1, h2]
  rw [show field32 (w : Int) 0 16 = ((w % 65536 : Nat) : Int) from h]
  exact sext_half w
theorem imm_sg (s : Sh) (w : Nat) (h0 : s.nsg = true) (h1 : s.nat = 0) (h2 : s.nbits = 16) (h3 : s.nsh = 0) : immI s w = ((sxw w : Nat) : Int) := by
  have hl := sxw_lt w
  unfold immI
  rw [imm_sgn s w h0 h1 h2, h3, min_0]
  generalize sxw w = x at *
  rw [show (2 : Int) ^ 0 = 1 from rfl]
  omega
theorem imm_sg2 (s : Sh) (w : Nat) (h0 : s.nsg = true) (h1 : s.nat = 0) (h2 : s.nbits = 16) (h3 : s.nsh = 2) : immI s w = ((sxw w * 4 % 4294967296 : Nat) : Int) := by
  unfold immI
  rw [imm_sgn s w h0 h1 h2, h3, min_2]
  generalize sxw w = x at *
  rw [show (2 : Int) ^ 2 = 4 by decide]
  omega
theorem imm_form {f : Nat} (hf : f < 18) (w : Nat) : immI (shOf (f : Int)) w = ((tkC (f : Int) w).imm : Int) := by
  rcases (show f = 0 ∨ f = 1 ∨ f = 2 ∨ f = 3 ∨ f = 4 ∨ f = 5 ∨ f = 6 ∨ f = 7 ∨ f = 8 ∨ f = 9 ∨ f = 10 ∨ f = 11 ∨ f = 12 ∨ f = 13 ∨ f = 14 ∨ f = 15 ∨ f = 16 ∨ f = 17 by omega) with rfl | rfl | rfl | rfl | rfl | rfl | rfl | rfl | rfl | rfl | rfl | rfl | rfl | rfl | rfl | rfl | rfl | rfl
  · have e : (tkC ((0 : Nat) : Int) w).imm = 0 := rfl
    rw [e]
    exact imm_none _ w rfl rfl rfl rfl
  · have e : (tkC ((1 : Nat) : Int) w).imm = 0 := rfl
    rw [e]
    exact imm_none _ w rfl rfl rfl rfl
  · have e : (tkC ((2 : Nat) : Int) w).imm = 0 := rfl
    rw [e]
    exact imm_none _ w rfl rfl rfl rfl
  · have e : (tkC ((3 : Nat) : Int) w).imm = 0 := rfl
    rw [e]
    exact imm_none _ w rfl rfl rfl rfl
  · have e : (tkC ((4 : Nat) : Int) w).imm = 0 := rfl
    rw [e]
    exact imm_none _ w rfl rfl rfl rfl
  · have e : (tkC ((5 : Nat) : Int) w).imm = 0 := rfl
    rw [e]
    exact imm_none _ w rfl rfl rfl rfl
  · have e : (tkC ((6 : Nat) : Int) w).imm = w / 64 % 1024 := rfl
    rw [e]
    exact imm_cut _ w 6 10 64 1024 rfl rfl rfl rfl (by decide) (by decide) (by decide) (by decide) (by decide) (by decide)
  · have e : (tkC ((7 : Nat) : Int) w).imm = w / 64 % 1048576 := rfl
    rw [e]
    exact imm_cut _ w 6 20 64 1048576 rfl rfl rfl rfl (by decide) (by decide) (by decide) (by decide) (by decide) (by decide)
  · have e : (tkC ((8 : Nat) : Int) w).imm = 0 := rfl
    rw [e]
    exact imm_none _ w rfl rfl rfl rfl
  · have e : (tkC ((9 : Nat) : Int) w).imm = 0 := rfl
    rw [e]
    exact imm_none _ w rfl rfl rfl rfl
  · have e : (tkC ((10 : Nat) : Int) w).imm = sxw w := rfl
    rw [e]
    exact imm_sg _ w rfl rfl rfl rfl
  · have e : (tkC ((11 : Nat) : Int) w).imm = w % 65536 := rfl
    rw [e]
    exact (imm_cut _ w 0 16 1 65536 rfl rfl rfl rfl (by decide) (by decide) (by decide) (by decide) (by decide) (by decide)).trans (cast_eq2 (div1 w 65536))
  · have e : (tkC ((12 : Nat) : Int) w).imm = w % 65536 := rfl
    rw [e]
    exact (imm_cut _ w 0 16 1 65536 rfl rfl rfl rfl (by decide) (by decide) (by decide) (by decide) (by decide) (by decide)).trans (cast_eq2 (div1 w 65536))
  · have e : (tkC ((13 : Nat) : Int) w).imm = sxw w := rfl
    rw [e]
    exact imm_sg _ w rfl rfl rfl rfl
  · have e : (tkC ((14 : Nat) : Int) w).imm = sxw w * 4 % 4294967296 := rfl
    rw [e]
    exact imm_sg2 _ w rfl rfl rfl rfl
  · have e : (tkC ((15 : Nat) : Int) w).imm = sxw w * 4 % 4294967296 := rfl
    rw [e]
    exact imm_sg2 _ w rfl rfl rfl rfl
  · have e : (tkC ((16 : Nat) : Int) w).imm = sxw w * 4 % 4294967296 := rfl
    rw [e]
    exact imm_sg2 _ w rfl rfl rfl rfl
  · have e : (tkC ((17 : Nat) : Int) w).imm = w % 67108864 * 4 := rfl
    rw [e]
    exact imm_up _ w rfl rfl rfl rfl
/-- A word's instruction. -/
def insV (w : Nat) : Array Value := match decP w with
  | none => #[.int .i64 0, .int .i64 0, .int .i64 0, .int .i64 0, .int .i64 0, .int .u32 0]
  | some k => #[.int .i64 ((k : Int) + 1), .int .i64 ((tkR (rowR k).2.1 w).s : Int), .int .i64 ((tkR (rowR k).2.1 w).t : Int), .int .i64 ((tkR (rowR k).2.1 w).d : Int), .int .i64 ((tkR (rowR k).2.1 w).a : Int), .int .u32 ((tkR (rowR k).2.1 w).imm : Int)]
end Go.Proofs.Ytobnocioefchlaa
namespace Go.Proofs.Ytobnocioefchlaa
open Go.ChangeShapes Go.WideShapes Go.ChangeAt Go.RowKit
set_option linter.unusedVariables false
/-- A state. -/
structure SV where
  R : List Int
  hi : Int
  lo : Int
  pc : Int
  nx : Int
  sl : Bool
def SV.l (s : SV) : List Value := s.R.map (Value.int .u32) ++ [.int .u32 s.hi, .int .u32 s.lo, .int .u32 s.pc, .int .u32 s.nx, .bool s.sl]
/-- Its cells. -/
def SV.c (s : SV) : Array Value := s.l.toArray
def SV.zero : SV := ⟨List.replicate 32 0, 0, 0, 0, 0, false⟩
theorem SV.len {s : SV} (h : s.R.length = 32) : s.l.length = 37 := by
  unfold SV.l
  simp [h]
theorem SV.size {s : SV} (h : s.R.length = 32) : s.c.size = 37 := by
  unfold SV.c
  rw [List.size_toArray]
  exact SV.len h
theorem ints_one (l : List Int) : (l.map (Value.int .u32)).all (·.oneCell') = true := by
  rw [List.all_eq_true]
  intro x hx
  rw [List.mem_map] at hx
  obtain ⟨y, _, rfl⟩ := hx
  rfl
theorem SV.one (s : SV) : s.c.all (·.oneCell') = true := by
  unfold SV.c SV.l
  rw [List.all_toArray, List.all_append, ints_one]
  rfl
theorem SV.get (s : SV) (k : Nat) : s.c[k]? = s.l[k]? := by
  unfold SV.c
  simp
theorem SV.getR {s : SV} (h : s.R.length = 32) {k : Nat} (hk : k < 32) : s.c[k]? = some (.int .u32 (s.R.getD k 0)) := by
  rw [SV.get]
  unfold SV.l
  rw [List.getElem?_append_left (by simp [h, hk]), List.getElem?_map, List.getD_eq_getElem?_getD, List.getElem?_eq_getElem (by omega)]
  rfl
theorem SV.get_hi {s : SV} (h : s.R.length = 32) : s.c[32]? = some (.int .u32 s.hi) := by
  rw [SV.get]
  unfold SV.l
  rw [List.getElem?_append_right (by simp [h])]
  simp [h]
theorem SV.get_lo {s : SV} (h : s.R.length = 32) : s.c[33]? = some (.int .u32 s.lo) := by
  rw [SV.get]
  unfold SV.l
  rw [List.getElem?_append_right (by simp [h])]
  simp [h]
theorem SV.get_pc {s : SV} (h : s.R.length = 32) : s.c[34]? = some (.int .u32 s.pc) := by
  rw [SV.get]
  unfold SV.l
  rw [List.getElem?_append_right (by simp [h])]
  simp [h]
theorem SV.get_nx {s : SV} (h : s.R.length = 32) : s.c[35]? = some (.int .u32 s.nx) := by
  rw [SV.get]
  unfold SV.l
  rw [List.getElem?_append_right (by simp [h])]
  simp [h]
theorem SV.get_sl {s : SV} (h : s.R.length = 32) : s.c[36]? = some (.bool s.sl) := by
  rw [SV.get]
  unfold SV.l
  rw [List.getElem?_append_right (by simp [h])]
  simp [h]
theorem SV.setAt (s : SV) (k : Nat) (v : Value) : s.c.setIfInBounds k v = (s.l.set k v).toArray := by
  unfold SV.c
  simp
theorem SV.setR {s : SV} (h : s.R.length = 32) {k : Nat} (hk : k < 32) (v : Int) : s.c.setIfInBounds k (.int .u32 v) = SV.c { s with R := s.R.set k v } := by
  rw [SV.setAt]
  unfold SV.c SV.l
  rw [List.set_append_left _ _ (by simp [h, hk]), List.map_set]
theorem SV.set_hi {s : SV} (h : s.R.length = 32) (v : Int) : s.c.setIfInBounds 32 (.int .u32 v) = SV.c { s with hi := v } := by
  rw [SV.setAt]
  unfold SV.c SV.l
  rw [List.set_append_right _ _ (by simp [h])]
  simp [h]
theorem SV.set_lo {s : SV} (h : s.R.length = 32) (v : Int) : s.c.setIfInBounds 33 (.int .u32 v) = SV.c { s with lo := v } := by
  rw [SV.setAt]
  unfold SV.c SV.l
  rw [List.set_append_right _ _ (by simp [h])]
  simp [h]
theorem SV.set_pc {s : SV} (h : s.R.length = 32) (v : Int) : s.c.setIfInBounds 34 (.int .u32 v) = SV.c { s with pc := v } := by
  rw [SV.setAt]
  unfold SV.c SV.l
  rw [List.set_append_right _ _ (by simp [h])]
  simp [h]
theorem SV.set_nx {s : SV} (h : s.R.length = 32) (v : Int) : s.c.setIfInBounds 35 (.int .u32 v) = SV.c { s with nx := v } := by
  rw [SV.setAt]
  unfold SV.c SV.l
  rw [List.set_append_right _ _ (by simp [h])]
  simp [h]
theorem SV.set_sl {s : SV} (h : s.R.length = 32) (v : Bool) : s.c.setIfInBounds 36 (.bool v) = SV.c { s with sl := v } := by
  rw [SV.setAt]
  unfold SV.c SV.l
  rw [List.set_append_right _ _ (by simp [h])]
  simp [h]
theorem sizeSV : (Try.prog.info? 26).map (·.size) = some 37 := by kernel_rfl
/-- A state that is made anew. -/
theorem wpList_allocV {ops : Array Oper} {rest : List Oper} {o : Oper} {a : Act} {w : World} {Q : Exit → Act → World → Prop} (hgd : o.guard = none) (ho : o.op = .alloc 26)
    (h : ∀ w1, Blk w1 w.heap.size SV.zero.c 26 → w1.heap.size = w.heap.size + 1 → Below w.heap.size w w1 → wpList Try.prog ops Q rest (a.put o.dst (.pointer (some ⟨w.heap.size, 0, none⟩))) w1) : wpList Try.prog ops Q (o :: rest) a w := by
  refine Great.wpList_runTo hgd o.dst rfl (.pointer (some ⟨w.heap.size, 0, none⟩)) (w.alloc (.cells SV.zero.c 26)) ?_ (h _ (Blk.new w _ _) (by simp) (below_new w _))
  obtain ⟨dst, op, ty, pos, aft, gd⟩ := o
  simp only at ho
  subst ho
  kernel_rfl
theorem only_rowV (w : World) (g : Nat) (cs : Array Value) : Only g w (w.setRow g cs) := by
  refine ⟨rfl, rfl, rfl, by simp [World.setRow], fun k hk => ?_⟩
  simp only [World.setRow, Array.getElem?_modify]
  rw [if_neg (fun e => hk e.symm)]
/-- A state that is put. -/
theorem wpList_storeV {ops : Array Oper} {rest : List Oper} {o : Oper} {a : Act} {w : World} {Q : Exit → Act → World → Prop} (hgd : o.guard = none) (hd : o.dst = none) (x y : Operand) (ho : o.op = .store 26 x y)
    (g : Nat) (s t : SV) (hx : a.eval x = .pointer (some ⟨g, 0, none⟩)) (hy : a.eval y = .agg t.c) (hg : Blk w g s.c 26) (hs : s.R.length = 32) (ht : t.R.length = 32)
    (h : ∀ w1, Blk w1 g t.c 26 → Only g w w1 → wpList Try.prog ops Q rest a w1) : wpList Try.prog ops Q (o :: rest) a w := by
  refine wpList_store_row hgd 26 x y ho g t.c hx hy 26 s.c hg (by rw [SV.size ht]; exact sizeSV) (by rw [SV.size hs, SV.size ht]) (SV.one t) ?_
  rw [hd]
  exact h _ (setRow_heap w g s.c t.c 26 (0, 0) hg) (only_rowV w g t.c)
theorem wpList_loadV {ops : Array Oper} {rest : List Oper} {o : Oper} {a : Act} {w : World} {Q : Exit → Act → World → Prop} (hgd : o.guard = none) (x : Operand) (ho : o.op = .load 26 x)
    (g : Nat) (s : SV) (hx : a.eval x = .pointer (some ⟨g, 0, none⟩)) (hg : Blk w g s.c 26) (hs : s.R.length = 32)
    (h : wpList Try.prog ops Q rest (a.put o.dst (.agg s.c)) w) : wpList Try.prog ops Q (o :: rest) a w :=
  wpList_load_row hgd 26 x ho g hx 26 s.c (0, 0) _ hg Try.underlying26 rfl (by rw [SV.size hs]; exact sizeSV) h
/-- A cell of a state that is put. -/
theorem setCell_V {w : World} {g : Nat} {s : SV} (h : Blk w g s.c 26) (hs : s.R.length = 32) {k : Nat} (hk : k < 32) (v : Int) : Blk (w.setCell ⟨g, k, none⟩ (.int .u32 v)) g (SV.c { s with R := s.R.set k v }) 26 := by
  have h2 := heap_setCell_same w g k s.c 26 (.int .u32 v) h
  rw [SV.setR hs hk] at h2
  exact h2
theorem setCell_hi {w : World} {g : Nat} {s : SV} (h : Blk w g s.c 26) (hs : s.R.length = 32) (v : Int) : Blk (w.setCell ⟨g, 32, none⟩ (.int .u32 v)) g (SV.c { s with hi := v }) 26 := by
  have h2 := heap_setCell_same w g 32 s.c 26 (.int .u32 v) h
  rw [SV.set_hi hs] at h2
  exact h2
theorem setCell_lo {w : World} {g : Nat} {s : SV} (h : Blk w g s.c 26) (hs : s.R.length = 32) (v : Int) : Blk (w.setCell ⟨g, 33, none⟩ (.int .u32 v)) g (SV.c { s with lo := v }) 26 := by
  have h2 := heap_setCell_same w g 33 s.c 26 (.int .u32 v) h
  rw [SV.set_lo hs] at h2
  exact h2
theorem setCell_pc {w : World} {g : Nat} {s : SV} (h : Blk w g s.c 26) (hs : s.R.length = 32) (v : Int) : Blk (w.setCell ⟨g, 34, none⟩ (.int .u32 v)) g (SV.c { s with pc := v }) 26 := by
  have h2 := heap_setCell_same w g 34 s.c 26 (.int .u32 v) h
  rw [SV.set_pc hs] at h2
  exact h2
theorem setCell_nx {w : World} {g : Nat} {s : SV} (h : Blk w g s.c 26) (hs : s.R.length = 32) (v : Int) : Blk (w.setCell ⟨g, 35, none⟩ (.int .u32 v)) g (SV.c { s with nx := v }) 26 := by
  have h2 := heap_setCell_same w g 35 s.c 26 (.int .u32 v) h
  rw [SV.set_nx hs] at h2
  exact h2
theorem setCell_sl {w : World} {g : Nat} {s : SV} (h : Blk w g s.c 26) (hs : s.R.length = 32) (v : Bool) : Blk (w.setCell ⟨g, 36, none⟩ (.bool v)) g (SV.c { s with sl := v }) 26 := by
  have h2 := heap_setCell_same w g 36 s.c 26 (.bool v) h
  rw [SV.set_sl hs] at h2
  exact h2
/-- The registers as a row. -/
def SV.r (s : SV) : Array Value := (s.R.map (Value.int .u32)).toArray
theorem sizeRV : (Try.prog.info? 24).map (·.size) = some 32 := by kernel_rfl
theorem wpList_loadRV {ops : Array Oper} {rest : List Oper} {o : Oper} {a : Act} {w : World} {Q : Exit → Act → World → Prop} (hgd : o.guard = none) (x : Operand) (ho : o.op = .load 24 x)
    (g : Nat) (s : SV) (hx : a.eval x = .pointer (some ⟨g, 0, none⟩)) (hg : Blk w g s.c 26) (hs : s.R.length = 32)
    (h : wpList Try.prog ops Q rest (a.put o.dst (.agg s.r)) w) : wpList Try.prog ops Q (o :: rest) a w := by
  refine wpList_load_mid hgd 24 x ho g 0 hx (s.R.map (Value.int .u32)) _ ?_ Try.underlying24 rfl (by rw [List.length_map, hs]; exact sizeRV) h
  intro j v hv
  rw [Nat.zero_add]
  refine hg.cell ?_
  have hj : j < 32 := by
    have := (List.getElem?_eq_some_iff.1 hv).1
    rw [List.length_map, hs] at this
    exact this
  rw [SV.get]
  unfold SV.l
  rw [List.getElem?_append_left (by simp [hs, hj])]
  exact hv
theorem plainUV : Try.prog.plainKey 23 = true := by kernel_rfl
theorem cellsUV : Try.prog.cellsOf 23 = 1 := by kernel_rfl
theorem infoUV : ∃ i, Try.prog.info? 23 = some i := info_of_underlying Try.underlying23
theorem SV.rget {s : SV} (hs : s.R.length = 32) {k : Nat} (hk : k < 32) : s.r[k]? = some (.int .u32 (s.R.getD k 0)) := by
  unfold SV.r
  rw [List.getElem?_toArray, List.getElem?_map, List.getD_eq_getElem?_getD, List.getElem?_eq_getElem (by omega)]
  rfl
theorem eqItemsV (d : Nat) {s t : SV} (hs : s.R.length = 32) (ht : t.R.length = 32) (w : World) : ∀ is : List Nat, (∀ i ∈ is, i < 32) → (Op.eqItems (d + 1) 23 (Try.prog.cellsOf 23) s.r t.r is).run Try.prog w = .ok (is.all fun i => s.R.getD i 0 == t.R.getD i 0) w
  | [], _ => by simp [Op.eqItems]
  | i :: is, h => by
    have hi := h i (List.mem_cons_self ..)
    have ih := eqItemsV d hs ht w is (fun j hj => h j (List.mem_cons_of_mem _ hj))
    rw [cellsUV] at ih ⊢
    have p1 := run_part_plain (P := Try.prog) w plainUV (off := i * 1) (by rw [Nat.mul_one]; exact SV.rget hs hi)
    have p2 := run_part_plain (P := Try.prog) w plainUV (off := i * 1) (by rw [Nat.mul_one]; exact SV.rget ht hi)
    have p3 := run_equalIn_int (P := Try.prog) w d 23 .u32 .u32 (s.R.getD i 0) (t.R.getD i 0) Try.underlying23
    simp only [Op.eqItems, Sem.run_bind, p1, p2, p3, Result.andThen_ok, List.all_cons]
    cases hb : (s.R.getD i 0 == t.R.getD i 0) with
    | false => simp
    | true => simpa using ih
theorem all_getD {l m : List Int} (hl : l.length = 32) (hm : m.length = 32) : ((List.range 32).all fun i => l.getD i 0 == m.getD i 0) = decide (l = m) := by
  rw [Bool.eq_iff_iff, List.all_eq_true, decide_eq_true_eq]
  constructor
  · intro h
    refine List.ext_getElem (by rw [hl, hm]) fun i h1 h2 => ?_
    have := h i (List.mem_range.2 (by omega))
    rw [beq_iff_eq, List.getD_eq_getElem?_getD, List.getD_eq_getElem?_getD, List.getElem?_eq_getElem h1, List.getElem?_eq_getElem h2] at this
    exact this
  · rintro rfl i _
    exact beq_self_eq_true _
theorem run_eqRV {s t : SV} (hs : s.R.length = 32) (ht : t.R.length = 32) (w : World) : (binOp .eql 24 (.agg s.r) (.agg t.r)).run Try.prog w = .ok (.bool (decide (s.R = t.R))) w := by
  obtain ⟨i, hi⟩ := infoUV
  rw [run_eql_struct, run_equalIn_array (P := Try.prog) w 9999 s.r t.r Try.underlying24 hi, eqItemsV 9998 hs ht w (List.range 32) (fun j hj => List.mem_range.1 hj), all_getD hs ht]
  rfl
theorem wpList_eqRV {ops : Array Oper} {rest : List Oper} {o : Oper} {a : Act} {w : World} {Q : Exit → Act → World → Prop} (hgd : o.guard = none) (x y : Operand) (ho : o.op = .binOp .eql 24 x y 24)
    (s t : SV) (hs : s.R.length = 32) (ht : t.R.length = 32) (hx : a.eval x = .agg s.r) (hy : a.eval y = .agg t.r)
    (h : wpList Try.prog ops Q rest (a.put o.dst (.bool (decide (s.R = t.R)))) w) : wpList Try.prog ops Q (o :: rest) a w := by
  refine Great.wpList_runTo hgd o.dst rfl (.bool (decide (s.R = t.R))) w ?_ h
  have he : (eqGuard .eql 24 x y (.agg s.r) (.agg t.r)).run Try.prog w = .ok () w := run_eqGuard_agg (P := Try.prog) w .eql 24 x y s.r t.r (by kernel_rfl)
  unfold execOp
  simp only [ho, hx, hy, Sem.run_bind, he, run_eqRV hs ht, Result.andThen_ok, Sem.run_pure]
set_option maxRecDepth 20000 in
set_option maxHeartbeats 1000000 in
theorem sameState_eq (w : World) (s : SV) (hs : s.R.length = 32) : Calls Try.prog 12 #[.agg s.c, .agg s.c] w fun e w' => e = .returned (.bool true) ∧ Below w.heap.size w w' := by
  obtain ⟨n, hn⟩ : ∃ n, w.heap.size = n := ⟨_, rfl⟩
  obtain ⟨C, hC⟩ : ∃ C, s.c = C := ⟨_, rfl⟩
  obtain ⟨W, hW⟩ : ∃ W, (w.alloc (.cells C 26)).alloc (.cells C 26) = W := ⟨_, rfl⟩
  have k1 : Blk W n s.c 26 := by rw [← hW, ← hn, hC]; exact (heap_alloc_old _ _ (by simp)).trans (Blk.new w _ _)
  have k2 : Blk W (n + 1) s.c 26 := by
    have := Blk.new (w.alloc (.cells C 26)) C 26
    rw [World.size_alloc, hn] at this
    rw [← hW, hC]; exact this
  have hB : Below n w W := by rw [← hW, ← hn]; exact ((Below.refl _ w).alloc (Nat.le_refl _) _).alloc (by simp) _
  have c32 : W.cell? ⟨n, 32, none⟩ = some (.int .u32 s.hi) := k1.cell (SV.get_hi hs)
  have c33 : W.cell? ⟨n, 33, none⟩ = some (.int .u32 s.lo) := k1.cell (SV.get_lo hs)
  have c34 : W.cell? ⟨n, 34, none⟩ = some (.int .u32 s.pc) := k1.cell (SV.get_pc hs)
  have c35 : W.cell? ⟨n, 35, none⟩ = some (.int .u32 s.nx) := k1.cell (SV.get_nx hs)
  have c36 : W.cell? ⟨n, 36, none⟩ = some (.bool s.sl) := k1.cell (SV.get_sl hs)
  have d32 : W.cell? ⟨n + 1, 32, none⟩ = some (.int .u32 s.hi) := k2.cell (SV.get_hi hs)
  have d33 : W.cell? ⟨n + 1, 33, none⟩ = some (.int .u32 s.lo) := k2.cell (SV.get_lo hs)
  have d34 : W.cell? ⟨n + 1, 34, none⟩ = some (.int .u32 s.pc) := k2.cell (SV.get_pc hs)
  have d35 : W.cell? ⟨n + 1, 35, none⟩ = some (.int .u32 s.nx) := k2.cell (SV.get_nx hs)
  have d36 : W.cell? ⟨n + 1, 36, none⟩ = some (.bool s.sl) := k2.cell (SV.get_sl hs)
  have K1 := hidden k1
  have K2 := hidden k2
  have HB := hidden hB
  have HS := hidden hs
  have T1 : Hid True := trivial
  have hee := decide_eq_true (rfl : s.R = s.R)
  clear k1 k2 hB hs
  rw [hC]
  go_enter Try.func12, Try.ntmps12
  go_wp2_with (first
    | (clear T1; refine wpList_loadRV rfl _ rfl n s rfl (Hid.out K1) (Hid.out HS) ?_)
    | (refine wpList_loadRV rfl _ rfl (n + 1) s rfl (Hid.out K2) (Hid.out HS) ?_)
    | (refine wpList_eqRV rfl _ _ rfl s s (Hid.out HS) (Hid.out HS) rfl rfl ?_; rw [hee]))
  go_ret
  exact ⟨rfl, Hid.out HB⟩
end Go.Proofs.Ytobnocioefchlaa

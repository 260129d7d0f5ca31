/- The chapter's rows stand apart: a word is of one row at most; words out of fields. -/
import Derived.Test.YtobnocioefchlaaPMAR
import Derived.Test.YtobnocioefchlaaPMAN
namespace Go.Proofs.Ytobnocioefchlaa
open Go.RowKit
set_option linter.unusedVariables false
/-- Two rows that ask unlike things of one field. -/
def dgApart (a b : Dg) : Bool := !(a.wo &&& b.mo == b.wo &&& a.mo) || (!(a.ws &&& b.ms == b.ws &&& a.ms) || (!(a.wt &&& b.mt == b.wt &&& a.mt) || (!(a.wd &&& b.md == b.wd &&& a.md) || (!(a.wa &&& b.ma == b.wa &&& a.ma) || !(a.wf &&& b.mf == b.wf &&& a.mf)))))
theorem and_both {x a b u v : Nat} (h1 : x &&& a = u) (h2 : x &&& b = v) : u &&& b = v &&& a := by
  rw [← h1, ← h2, Nat.and_assoc, Nat.and_assoc, Nat.and_comm a b]
theorem apart_no {a b : Dg} {w : Nat} (h : dgApart a b = true) (h1 : dfit a w = true) : dfit b w = false := by
  cases h2 : dfit b w with
  | false => rfl
  | true =>
    exfalso
    rw [dfit_iff] at h1 h2
    obtain ⟨p1, p2, p3, p4, p5, p6⟩ := h1
    obtain ⟨q1, q2, q3, q4, q5, q6⟩ := h2
    unfold dgApart at h
    simp only [Bool.or_eq_true, Bool.not_eq_true', beq_eq_false_iff_ne] at h
    rcases h with h | h | h | h | h | h
    · exact h (and_both p1 q1)
    · exact h (and_both p2 q2)
    · exact h (and_both p3 q3)
    · exact h (and_both p4 q4)
    · exact h (and_both p5 q5)
    · exact h (and_both p6 q6)
set_option maxRecDepth 100000 in
theorem rows_apart : (List.range 69).all (fun k => (List.range k).all fun j => dgApart (dgR k) (dgR j)) = true := by kernel_rfl
theorem rfit_dfit {w k : Nat} (h : rfit w k = true) : dfit (dgR k) w = true := by
  unfold rfit at h
  rw [Bool.and_eq_true] at h
  exact h.1
theorem rfit_one {w k j : Nat} (hk : k < 69) (hj : j < k) (h : rfit w k = true) : rfit w j = false := by
  have h1 := List.all_eq_true.1 (List.all_eq_true.1 rows_apart k (List.mem_range.2 hk)) j (List.mem_range.2 hj)
  have h2 := apart_no h1 (rfit_dfit h)
  unfold rfit
  rw [h2, Bool.false_and]
/-- A word of a row is that row's instruction. -/
theorem insR_at {w k : Nat} (hk : k < 69) (h : rfit w k = true) : insR w = ⟨(rowR k).1, tkR (rowR k).2.1 w⟩ := by
  unfold insR
  rw [findP_some.2 ⟨h, hk, fun j hj => rfit_one hk hj h⟩]
/-- A word out of fields. -/
def mkW (o s t d a f : Nat) : Nat := o * 67108864 + s * 2097152 + t * 65536 + d * 2048 + a * 64 + f
theorem mkW_fields {o s t d a f : Nat} (h0 : o < 64) (h1 : s < 32) (h2 : t < 32) (h3 : d < 32) (h4 : a < 32) (h5 : f < 64) :
    fO (mkW o s t d a f) = o ∧ fS (mkW o s t d a f) = s ∧ fT (mkW o s t d a f) = t ∧ fD (mkW o s t d a f) = d ∧ fA (mkW o s t d a f) = a ∧ fF (mkW o s t d a f) = f ∧ mkW o s t d a f < 4294967296 := by
  unfold fO fS fT fD fA fF mkW
  refine ⟨?_, ?_, ?_, ?_, ?_, ?_, ?_⟩ <;> omega
/-- A word out of a row's number, two registers and a half. -/
def mkI (o s t m : Nat) : Nat := o * 67108864 + s * 2097152 + t * 65536 + m
theorem mkI_fields {o s t m : Nat} (h0 : o < 64) (h1 : s < 32) (h2 : t < 32) (h3 : m < 65536) :
    fO (mkI o s t m) = o ∧ fS (mkI o s t m) = s ∧ fT (mkI o s t m) = t ∧ mkI o s t m % 65536 = m ∧ mkI o s t m < 4294967296 := by
  unfold fO fS fT mkI
  refine ⟨?_, ?_, ?_, ?_, ?_⟩ <;> omega
/-- A word out of a row's number and a place (j, jal). -/
def mkJ (o m : Nat) : Nat := o * 67108864 + m
theorem mkJ_fields {o m : Nat} (h0 : o < 64) (h3 : m < 67108864) : fO (mkJ o m) = o ∧ mkJ o m % 67108864 = m ∧ mkJ o m < 4294967296 := by
  unfold fO mkJ
  refine ⟨?_, ?_, ?_⟩ <;> omega
end Go.Proofs.Ytobnocioefchlaa
namespace Go.Proofs.Ytobnocioefchlaa
open Go.RowKit
set_option linter.unusedVariables false
theorem rfit_fit (k w : Nat) (hw : w < 4294967296) : rfit w k = fitX (rowR k).2.1 (rowR k).2.2.1 (rowR k).2.2.2 w := (fitX_eq _ _ _ w hw).symm
theorem insR_row {w k p c o f : Nat} (hk : k < 69) (hr : rowR k = (p, c, o, f)) (hw : w < 4294967296) (h : fitX c o f w = true) : insR w = ⟨p, tkR c w⟩ := by
  have h2 : rfit w k = true := by rw [rfit_fit k w hw, hr]; exact h
  rw [insR_at hk h2, hr]
theorem sxw_mod (w : Nat) : sxw (w % 65536) = sxw w := by unfold sxw; rw [Nat.mod_mod]
theorem tkR_68 (w : Nat) : tkR 68 w = ⟨fS w, fT w, fD w, 0, 0⟩ := rfl
theorem fitY_68 (o f w : Nat) : fitX 68 o f w = true ↔ (fO w = o ∧ fF w = f ∧ fA w = 0) := by
  unfold fitX
  by_cases e : fO w = o <;> simp [e]
theorem tkR_72 (w : Nat) : tkR 72 w = ⟨0, fT w, fD w, fA w, 0⟩ := rfl
theorem fitY_72 (o f w : Nat) : fitX 72 o f w = true ↔ (fO w = o ∧ fF w = f ∧ fS w = 0) := by
  unfold fitX
  by_cases e : fO w = o <;> simp [e]
theorem tkR_77 (w : Nat) : tkR 77 w = ⟨fS w, fT w, 0, 0, 0⟩ := rfl
theorem fitY_77 (o f w : Nat) : fitX 77 o f w = true ↔ (fO w = o ∧ fF w = f ∧ fD w = 0 ∧ fA w = 0) := by
  unfold fitX
  by_cases e : fO w = o <;> simp [e]
theorem tkR_70 (w : Nat) : tkR 70 w = ⟨0, 0, fD w, 0, 0⟩ := rfl
theorem fitY_70 (o f w : Nat) : fitX 70 o f w = true ↔ (fO w = o ∧ fF w = f ∧ fS w = 0 ∧ fT w = 0 ∧ fA w = 0) := by
  unfold fitX
  by_cases e : fO w = o <;> simp [e]
theorem tkR_76 (w : Nat) : tkR 76 w = ⟨fS w, 0, 0, 0, 0⟩ := rfl
theorem fitY_76 (o f w : Nat) : fitX 76 o f w = true ↔ (fO w = o ∧ fF w = f ∧ fT w = 0 ∧ fD w = 0 ∧ fA w = 0) := by
  unfold fitX
  by_cases e : fO w = o <;> simp [e]
theorem tkR_71 (w : Nat) : tkR 71 w = ⟨fS w, 0, fD w, 0, 0⟩ := rfl
theorem fitY_71 (o f w : Nat) : fitX 71 o f w = true ↔ (fO w = o ∧ fF w = f ∧ fT w = 0 ∧ fA w = 0) := by
  unfold fitX
  by_cases e : fO w = o <;> simp [e]
theorem tkR_84 (w : Nat) : tkR 84 w = ⟨fS w, fT w, 0, 0, w / 64 % 1024⟩ := rfl
theorem fitY_84 (o f w : Nat) : fitX 84 o f w = true ↔ (fO w = o ∧ fF w = f) := by
  unfold fitX
  by_cases e : fO w = o <;> simp [e]
theorem tkR_67 (w : Nat) : tkR 67 w = ⟨0, 0, 0, 0, w / 64 % 1048576⟩ := rfl
theorem fitY_67 (o f w : Nat) : fitX 67 o f w = true ↔ (fO w = o ∧ fF w = f) := by
  unfold fitX
  by_cases e : fO w = o <;> simp [e]
theorem tkR_88 (w : Nat) : tkR 88 w = ⟨fS w, fT w, fD w, 0, 0⟩ := rfl
theorem fitY_88 (o f w : Nat) : fitX 88 o f w = true ↔ (fO w = o ∧ fF w = f ∧ fA w = 0) := by
  unfold fitX
  by_cases e : fO w = o <;> simp [e]
theorem tkR_89 (w : Nat) : tkR 89 w = ⟨fS w, fT w, fD w, 0, 0⟩ := rfl
theorem fitY_89 (o f w : Nat) : fitX 89 o f w = true ↔ (fO w = o ∧ fF w = f ∧ fA w = 0 ∧ fT w = fD w) := by
  unfold fitX
  by_cases e : fO w = o <;> simp [e]
theorem tkR_73 (w : Nat) : tkR 73 w = ⟨fS w, fT w, 0, 0, sxw w⟩ := rfl
theorem fitY_73 (o f w : Nat) : fitX 73 o f w = true ↔ (fO w = o) := by
  unfold fitX
  by_cases e : fO w = o <;> simp [e]
theorem tkR_85 (w : Nat) : tkR 85 w = ⟨fS w, fT w, 0, 0, w % 65536⟩ := rfl
theorem fitY_85 (o f w : Nat) : fitX 85 o f w = true ↔ (fO w = o) := by
  unfold fitX
  by_cases e : fO w = o <;> simp [e]
theorem tkR_86 (w : Nat) : tkR 86 w = ⟨0, fT w, 0, 0, w % 65536⟩ := rfl
theorem fitY_86 (o f w : Nat) : fitX 86 o f w = true ↔ (fO w = o ∧ fS w = 0) := by
  unfold fitX
  by_cases e : fO w = o <;> simp [e]
theorem tkR_80 (w : Nat) : tkR 80 w = ⟨fS w, fT w, 0, 0, sxw w⟩ := rfl
theorem fitY_80 (o f w : Nat) : fitX 80 o f w = true ↔ (fO w = o) := by
  unfold fitX
  by_cases e : fO w = o <;> simp [e]
theorem tkR_66 (w : Nat) : tkR 66 w = ⟨fS w, fT w, 0, 0, sxw w * 4 % 4294967296⟩ := rfl
theorem fitY_66 (o f w : Nat) : fitX 66 o f w = true ↔ (fO w = o) := by
  unfold fitX
  by_cases e : fO w = o <;> simp [e]
theorem tkR_90 (w : Nat) : tkR 90 w = ⟨fS w, 0, 0, 0, sxw w * 4 % 4294967296⟩ := rfl
theorem fitY_90 (o f w : Nat) : fitX 90 o f w = true ↔ (fO w = o ∧ fT w = 0) := by
  unfold fitX
  by_cases e : fO w = o <;> simp [e]
theorem tkR_82 (w : Nat) : tkR 82 w = ⟨fS w, 0, 0, 0, sxw w * 4 % 4294967296⟩ := rfl
theorem fitY_82 (o f w : Nat) : fitX 82 o f w = true ↔ (fO w = o ∧ fT w = f) := by
  unfold fitX
  by_cases e : fO w = o <;> simp [e]
theorem tkR_74 (w : Nat) : tkR 74 w = ⟨0, 0, 0, 0, w % 67108864 * 4⟩ := rfl
theorem fitY_74 (o f w : Nat) : fitX 74 o f w = true ↔ (fO w = o) := by
  unfold fitX
  by_cases e : fO w = o <;> simp [e]
theorem dec_68 {k p o f s t d : Nat} (hk : k < 69) (hr : rowR k = (p, 68, o, f)) (ho : o < 64) (hf : f < 64) (hs : s < 32) (ht : t < 32) (hd : d < 32) : insR (mkW o s t d 0 f) = ⟨p, ⟨s, t, d, 0, 0⟩⟩ := by
  obtain ⟨e0, e1, e2, e3, e4, e5, hw⟩ := mkW_fields ho hs ht hd (show 0 < 32 by omega) hf
  have h : fitX 68 o f (mkW o s t d 0 f) = true := (fitY_68 o f _).2 ⟨e0, e5, e4⟩
  rw [insR_row hk hr hw h, tkR_68]
  rw [e1, e2, e3]
theorem dec_88 {k p o f s t d : Nat} (hk : k < 69) (hr : rowR k = (p, 88, o, f)) (ho : o < 64) (hf : f < 64) (hs : s < 32) (ht : t < 32) (hd : d < 32) : insR (mkW o s t d 0 f) = ⟨p, ⟨s, t, d, 0, 0⟩⟩ := by
  obtain ⟨e0, e1, e2, e3, e4, e5, hw⟩ := mkW_fields ho hs ht hd (show 0 < 32 by omega) hf
  have h : fitX 88 o f (mkW o s t d 0 f) = true := (fitY_88 o f _).2 ⟨e0, e5, e4⟩
  rw [insR_row hk hr hw h, tkR_88]
  rw [e1, e2, e3]
theorem dec_89 {k p o f s d : Nat} (hk : k < 69) (hr : rowR k = (p, 89, o, f)) (ho : o < 64) (hf : f < 64) (hs : s < 32) (hd : d < 32) : insR (mkW o s d d 0 f) = ⟨p, ⟨s, d, d, 0, 0⟩⟩ := by
  obtain ⟨e0, e1, e2, e3, e4, e5, hw⟩ := mkW_fields ho hs hd hd (show 0 < 32 by omega) hf
  have h : fitX 89 o f (mkW o s d d 0 f) = true := (fitY_89 o f _).2 ⟨e0, e5, e4, (e2.trans e3.symm)⟩
  rw [insR_row hk hr hw h, tkR_89]
  rw [e1, e2, e3]
theorem dec_72 {k p o f t d a : Nat} (hk : k < 69) (hr : rowR k = (p, 72, o, f)) (ho : o < 64) (hf : f < 64) (ht : t < 32) (hd : d < 32) (ha : a < 32) : insR (mkW o 0 t d a f) = ⟨p, ⟨0, t, d, a, 0⟩⟩ := by
  obtain ⟨e0, e1, e2, e3, e4, e5, hw⟩ := mkW_fields ho (show 0 < 32 by omega) ht hd ha hf
  have h : fitX 72 o f (mkW o 0 t d a f) = true := (fitY_72 o f _).2 ⟨e0, e5, e1⟩
  rw [insR_row hk hr hw h, tkR_72]
  rw [e2, e3, e4]
theorem dec_77 {k p o f s t : Nat} (hk : k < 69) (hr : rowR k = (p, 77, o, f)) (ho : o < 64) (hf : f < 64) (hs : s < 32) (ht : t < 32) : insR (mkW o s t 0 0 f) = ⟨p, ⟨s, t, 0, 0, 0⟩⟩ := by
  obtain ⟨e0, e1, e2, e3, e4, e5, hw⟩ := mkW_fields ho hs ht (show 0 < 32 by omega) (show 0 < 32 by omega) hf
  have h : fitX 77 o f (mkW o s t 0 0 f) = true := (fitY_77 o f _).2 ⟨e0, e5, e3, e4⟩
  rw [insR_row hk hr hw h, tkR_77]
  rw [e1, e2]
theorem dec_70 {k p o f d : Nat} (hk : k < 69) (hr : rowR k = (p, 70, o, f)) (ho : o < 64) (hf : f < 64) (hd : d < 32) : insR (mkW o 0 0 d 0 f) = ⟨p, ⟨0, 0, d, 0, 0⟩⟩ := by
  obtain ⟨e0, e1, e2, e3, e4, e5, hw⟩ := mkW_fields ho (show 0 < 32 by omega) (show 0 < 32 by omega) hd (show 0 < 32 by omega) hf
  have h : fitX 70 o f (mkW o 0 0 d 0 f) = true := (fitY_70 o f _).2 ⟨e0, e5, e1, e2, e4⟩
  rw [insR_row hk hr hw h, tkR_70]
  rw [e3]
theorem dec_76 {k p o f s : Nat} (hk : k < 69) (hr : rowR k = (p, 76, o, f)) (ho : o < 64) (hf : f < 64) (hs : s < 32) : insR (mkW o s 0 0 0 f) = ⟨p, ⟨s, 0, 0, 0, 0⟩⟩ := by
  obtain ⟨e0, e1, e2, e3, e4, e5, hw⟩ := mkW_fields ho hs (show 0 < 32 by omega) (show 0 < 32 by omega) (show 0 < 32 by omega) hf
  have h : fitX 76 o f (mkW o s 0 0 0 f) = true := (fitY_76 o f _).2 ⟨e0, e5, e2, e3, e4⟩
  rw [insR_row hk hr hw h, tkR_76]
  rw [e1]
theorem dec_71 {k p o f s d : Nat} (hk : k < 69) (hr : rowR k = (p, 71, o, f)) (ho : o < 64) (hf : f < 64) (hs : s < 32) (hd : d < 32) : insR (mkW o s 0 d 0 f) = ⟨p, ⟨s, 0, d, 0, 0⟩⟩ := by
  obtain ⟨e0, e1, e2, e3, e4, e5, hw⟩ := mkW_fields ho hs (show 0 < 32 by omega) hd (show 0 < 32 by omega) hf
  have h : fitX 71 o f (mkW o s 0 d 0 f) = true := (fitY_71 o f _).2 ⟨e0, e5, e2, e4⟩
  rw [insR_row hk hr hw h, tkR_71]
  rw [e1, e3]
theorem dec_84 {k p o f s t d a : Nat} (hk : k < 69) (hr : rowR k = (p, 84, o, f)) (ho : o < 64) (hf : f < 64) (hs : s < 32) (ht : t < 32) (hd : d < 32) (ha : a < 32) : insR (mkW o s t d a f) = ⟨p, ⟨s, t, 0, 0, d * 32 + a⟩⟩ := by
  obtain ⟨e0, e1, e2, e3, e4, e5, hw⟩ := mkW_fields ho hs ht hd ha hf
  have h : fitX 84 o f (mkW o s t d a f) = true := (fitY_84 o f _).2 ⟨e0, e5⟩
  rw [insR_row hk hr hw h, tkR_84]
  have e6 : (mkW o s t d a f) / 64 % 1024 = d * 32 + a := by unfold mkW; omega
  rw [e1, e2, e6]
theorem dec_67 {k p o f s t d a : Nat} (hk : k < 69) (hr : rowR k = (p, 67, o, f)) (ho : o < 64) (hf : f < 64) (hs : s < 32) (ht : t < 32) (hd : d < 32) (ha : a < 32) : insR (mkW o s t d a f) = ⟨p, ⟨0, 0, 0, 0, s * 32768 + t * 1024 + d * 32 + a⟩⟩ := by
  obtain ⟨e0, e1, e2, e3, e4, e5, hw⟩ := mkW_fields ho hs ht hd ha hf
  have h : fitX 67 o f (mkW o s t d a f) = true := (fitY_67 o f _).2 ⟨e0, e5⟩
  rw [insR_row hk hr hw h, tkR_67]
  have e6 : (mkW o s t d a f) / 64 % 1048576 = s * 32768 + t * 1024 + d * 32 + a := by unfold mkW; omega
  rw [e6]
theorem dec_73 {k p o f s t m : Nat} (hk : k < 69) (hr : rowR k = (p, 73, o, f)) (ho : o < 64) (hs : s < 32) (ht : t < 32) (hm : m < 65536) : insR (mkI o s t m) = ⟨p, ⟨s, t, 0, 0, sxw m⟩⟩ := by
  obtain ⟨e0, e1, e2, e3, hw⟩ := mkI_fields ho hs ht hm
  have h : fitX 73 o f (mkI o s t m) = true := (fitY_73 o f _).2 e0
  rw [insR_row hk hr hw h, tkR_73]
  rw [e1, e2, ← sxw_mod, e3]
theorem dec_80 {k p o f s t m : Nat} (hk : k < 69) (hr : rowR k = (p, 80, o, f)) (ho : o < 64) (hs : s < 32) (ht : t < 32) (hm : m < 65536) : insR (mkI o s t m) = ⟨p, ⟨s, t, 0, 0, sxw m⟩⟩ := by
  obtain ⟨e0, e1, e2, e3, hw⟩ := mkI_fields ho hs ht hm
  have h : fitX 80 o f (mkI o s t m) = true := (fitY_80 o f _).2 e0
  rw [insR_row hk hr hw h, tkR_80]
  rw [e1, e2, ← sxw_mod, e3]
theorem dec_85 {k p o f s t m : Nat} (hk : k < 69) (hr : rowR k = (p, 85, o, f)) (ho : o < 64) (hs : s < 32) (ht : t < 32) (hm : m < 65536) : insR (mkI o s t m) = ⟨p, ⟨s, t, 0, 0, m⟩⟩ := by
  obtain ⟨e0, e1, e2, e3, hw⟩ := mkI_fields ho hs ht hm
  have h : fitX 85 o f (mkI o s t m) = true := (fitY_85 o f _).2 e0
  rw [insR_row hk hr hw h, tkR_85]
  rw [e1, e2, e3]
theorem dec_86 {k p o f t m : Nat} (hk : k < 69) (hr : rowR k = (p, 86, o, f)) (ho : o < 64) (ht : t < 32) (hm : m < 65536) : insR (mkI o 0 t m) = ⟨p, ⟨0, t, 0, 0, m⟩⟩ := by
  obtain ⟨e0, e1, e2, e3, hw⟩ := mkI_fields ho (show 0 < 32 by omega) ht hm
  have h : fitX 86 o f (mkI o 0 t m) = true := (fitY_86 o f _).2 ⟨e0, e1⟩
  rw [insR_row hk hr hw h, tkR_86]
  rw [e2, e3]
theorem dec_66 {k p o f s t m : Nat} (hk : k < 69) (hr : rowR k = (p, 66, o, f)) (ho : o < 64) (hs : s < 32) (ht : t < 32) (hm : m < 65536) : insR (mkI o s t m) = ⟨p, ⟨s, t, 0, 0, sxw m * 4 % 4294967296⟩⟩ := by
  obtain ⟨e0, e1, e2, e3, hw⟩ := mkI_fields ho hs ht hm
  have h : fitX 66 o f (mkI o s t m) = true := (fitY_66 o f _).2 e0
  rw [insR_row hk hr hw h, tkR_66]
  rw [e1, e2, ← sxw_mod, e3]
theorem dec_90 {k p o f s m : Nat} (hk : k < 69) (hr : rowR k = (p, 90, o, f)) (ho : o < 64) (hs : s < 32) (hm : m < 65536) : insR (mkI o s 0 m) = ⟨p, ⟨s, 0, 0, 0, sxw m * 4 % 4294967296⟩⟩ := by
  obtain ⟨e0, e1, e2, e3, hw⟩ := mkI_fields ho hs (show 0 < 32 by omega) hm
  have h : fitX 90 o f (mkI o s 0 m) = true := (fitY_90 o f _).2 ⟨e0, e2⟩
  rw [insR_row hk hr hw h, tkR_90]
  rw [e1, ← sxw_mod, e3]
theorem dec_82 {k p o f s m : Nat} (hk : k < 69) (hr : rowR k = (p, 82, o, f)) (ho : o < 64) (hs : s < 32) (hf : f < 32) (hm : m < 65536) : insR (mkI o s f m) = ⟨p, ⟨s, 0, 0, 0, sxw m * 4 % 4294967296⟩⟩ := by
  obtain ⟨e0, e1, e2, e3, hw⟩ := mkI_fields ho hs hf hm
  have h : fitX 82 o f (mkI o s f m) = true := (fitY_82 o f _).2 ⟨e0, e2⟩
  rw [insR_row hk hr hw h, tkR_82]
  rw [e1, ← sxw_mod, e3]
theorem dec_74 {k p o f m : Nat} (hk : k < 69) (hr : rowR k = (p, 74, o, f)) (ho : o < 64) (hm : m < 67108864) : insR (mkJ o m) = ⟨p, ⟨0, 0, 0, 0, m * 4⟩⟩ := by
  obtain ⟨e0, e1, hw⟩ := mkJ_fields ho hm
  have h : fitX 74 o f (mkJ o m) = true := (fitY_74 o f _).2 e0
  rw [insR_row hk hr hw h, tkR_74]
  rw [e1]
end Go.Proofs.Ytobnocioefchlaa
namespace Go.Proofs.Ytobnocioefchlaa
open Go.ChangeShapes Go.WideShapes Go.ChangeAt Go.RowKit
set_option linter.unusedVariables false
def dmask (g : Dg) : Nat := 2 ^ 26 * g.mo + (2 ^ 21 * g.ms + (2 ^ 16 * g.mt + (2 ^ 11 * g.md + (2 ^ 6 * g.ma + g.mf))))
def dword (g : Dg) : Nat := 2 ^ 26 * g.wo + (2 ^ 21 * g.ws + (2 ^ 16 * g.wt + (2 ^ 11 * g.wd + (2 ^ 6 * g.wa + g.wf))))
def dok (g : Dg) : Bool := decide (g.ms < 32) && (decide (g.mt < 32) && (decide (g.md < 32) && (decide (g.ma < 32) && (decide (g.mf < 64) && (decide (g.ws < 32) && (decide (g.wt < 32) && (decide (g.wd < 32) && (decide (g.wa < 32) && decide (g.wf < 64)))))))))
theorem and_split {k x y p q : Nat} (hy : y < 2 ^ k) (hq : q < 2 ^ k) : (2 ^ k * x + y) &&& (2 ^ k * p + q) = 2 ^ k * (x &&& p) + (y &&& q) := by
  apply Nat.eq_of_testBit_eq
  intro i
  have hyq : y &&& q < 2 ^ k := Nat.and_lt_two_pow y hq
  rw [Nat.testBit_and, Nat.testBit_two_pow_mul_add _ hy, Nat.testBit_two_pow_mul_add _ hq, Nat.testBit_two_pow_mul_add _ hyq]
  split
  · rw [Nat.testBit_and]
  · rw [Nat.testBit_and]
theorem and_fields (g : Dg) (hg : dok g = true) (w : Nat) : w &&& dmask g = 2 ^ 26 * (fO w &&& g.mo) + (2 ^ 21 * (fS w &&& g.ms) + (2 ^ 16 * (fT w &&& g.mt) + (2 ^ 11 * (fD w &&& g.md) + (2 ^ 6 * (fA w &&& g.ma) + (fF w &&& g.mf))))) := by
  unfold dok at hg
  simp only [Bool.and_eq_true, decide_eq_true_eq] at hg
  obtain ⟨h1, h2, h3, h4, h5, _⟩ := hg
  obtain ⟨b1, b2, b3, b4, b5⟩ := fields_lt w
  have e := word_fields w
  unfold dmask
  rw [show w &&& _ = (2 ^ 26 * fO w + (2 ^ 21 * fS w + (2 ^ 16 * fT w + (2 ^ 11 * fD w + (2 ^ 6 * fA w + fF w))))) &&& _ from congrArg (· &&& _) e]
  rw [and_split (by omega) (by omega), and_split (by omega) (by omega), and_split (by omega) (by omega), and_split (by omega) (by omega), and_split (by omega) (by omega)]
theorem dfit_eq (g : Dg) (hg : dok g = true) (w : Nat) : ((w &&& dmask g) == dword g) = dfit g w := by
  rw [and_fields g hg w]
  unfold dok at hg
  simp only [Bool.and_eq_true, decide_eq_true_eq] at hg
  obtain ⟨h1, h2, h3, h4, h5, h6, h7, h8, h9, h10⟩ := hg
  obtain ⟨b1, b2, b3, b4, b5⟩ := fields_lt w
  have c1 : fS w &&& g.ms < 32 := Nat.lt_of_le_of_lt Nat.and_le_left b1
  have c2 : fT w &&& g.mt < 32 := Nat.lt_of_le_of_lt Nat.and_le_left b2
  have c3 : fD w &&& g.md < 32 := Nat.lt_of_le_of_lt Nat.and_le_left b3
  have c4 : fA w &&& g.ma < 32 := Nat.lt_of_le_of_lt Nat.and_le_left b4
  have c5 : fF w &&& g.mf < 64 := Nat.lt_of_le_of_lt Nat.and_le_left b5
  unfold dfit dword
  generalize fO w &&& g.mo = x0 at *
  generalize fS w &&& g.ms = x1 at *
  generalize fT w &&& g.mt = x2 at *
  generalize fD w &&& g.md = x3 at *
  generalize fA w &&& g.ma = x4 at *
  generalize fF w &&& g.mf = x5 at *
  rw [Bool.eq_iff_iff]
  simp only [Bool.and_eq_true, beq_iff_eq]
  constructor
  · intro h
    refine ⟨?_, ?_, ?_, ?_, ?_, ?_⟩ <;> omega
  · rintro ⟨rfl, rfl, rfl, rfl, rfl, rfl⟩
    rfl
/-- What the forms ask. -/
def dgT : List (Nat → Dg) := [fun n => ⟨63, 0, 0, 0, 31, 63, 0, 0, 0, 0, 0, n⟩, fun n => ⟨63, 31, 0, 0, 0, 63, 0, 0, 0, 0, 0, n⟩, fun n => ⟨63, 0, 0, 31, 31, 63, 0, 0, 0, 0, 0, n⟩, fun n => ⟨63, 31, 31, 0, 31, 63, 0, 0, 0, 0, 0, n⟩, fun n => ⟨63, 0, 31, 31, 31, 63, 0, 0, 0, 0, 0, n⟩, fun n => ⟨63, 0, 31, 0, 31, 63, 0, 0, 0, 0, 0, n⟩, fun n => ⟨63, 0, 0, 0, 0, 63, 0, 0, 0, 0, 0, n⟩, fun n => ⟨63, 0, 0, 0, 0, 63, 0, 0, 0, 0, 0, n⟩, fun n => ⟨63, 0, 0, 0, 31, 63, 28, 0, 0, 0, 0, n⟩, fun n => ⟨63, 0, 0, 0, 31, 63, 28, 0, 0, 0, 0, n⟩, fun n => ⟨63, 0, 0, 0, 0, 0, n, 0, 0, 0, 0, 0⟩, fun n => ⟨63, 0, 0, 0, 0, 0, n, 0, 0, 0, 0, 0⟩, fun n => ⟨63, 31, 0, 0, 0, 0, n, 0, 0, 0, 0, 0⟩, fun n => ⟨63, 0, 0, 0, 0, 0, n, 0, 0, 0, 0, 0⟩, fun n => ⟨63, 0, 0, 0, 0, 0, n, 0, 0, 0, 0, 0⟩, fun n => ⟨63, 0, 31, 0, 0, 0, n, 0, 0, 0, 0, 0⟩, fun n => ⟨63, 0, 31, 0, 0, 0, 1, 0, n, 0, 0, 0⟩, fun n => ⟨63, 0, 0, 0, 0, 0, n, 0, 0, 0, 0, 0⟩]
def dg0 (n : Nat) : Dg := ⟨0, 0, 0, 0, 0, 0, 0, 0, 0, 0, 0, n⟩
def dgL (l : Ln) : Dg := (dgT.getD l.form.toNat dg0) l.num.toNat
set_option maxRecDepth 20000 in
theorem lines_dg : linL.all (fun l => dok (dgL l) && (bits .xor .u32 IntKind.u32.max (freeV (shOf l.form)) == ((dmask (dgL l) : Nat) : Int) && wordV (shOf l.form) l.num == ((dword (dgL l) : Nat) : Int))) = true := by kernel_rfl
theorem line_dg {k : Nat} (hk : k < 69) : dok (dgL (linL.getD k noLn)) = true ∧ bits .xor .u32 IntKind.u32.max (freeV (shOf (linL.getD k noLn).form)) = ((dmask (dgL (linL.getD k noLn)) : Nat) : Int) ∧ wordV (shOf (linL.getD k noLn).form) (linL.getD k noLn).num = ((dword (dgL (linL.getD k noLn)) : Nat) : Int) := by
  have h := List.all_eq_true.1 lines_dg (linL.getD k noLn) (by
    rw [List.getD_eq_getElem?_getD, List.getElem?_eq_getElem (by rw [linL_len]; exact hk)]
    exact List.getElem_mem _)
  simp only [Bool.and_eq_true, beq_iff_eq] at h
  exact h
end Go.Proofs.Ytobnocioefchlaa

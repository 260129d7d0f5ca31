/- What goes on: an instruction that neither jumps nor calls, and a memory of two parts that stand apart. -/
import Derived.Test.YtobnocioefchlaaPAwA
namespace Go.Proofs.Ytobnocioefchlaa
open Go.ChangeShapes Go.WideShapes Go.ChangeAt Go.RowKit
set_option linter.unusedVariables false
/-- The faults of what goes on. -/
def zrK (k : Int) : Prop := k = 8 ∨ k = 9 ∨ k = 2 ∨ k = 3 ∨ k = 5 ∨ k = 6
theorem zr_fault (s : MS) (op : Int) (a : Nat) : faultK s op a = 0 ∨ zrK (faultK s op a) := by
  unfold faultK
  split
  · unfold faultV
    split
    · exact .inr (.inr (.inr (.inl rfl)))
    · split
      · exact .inr (.inr (.inr (.inr (.inr (.inl rfl)))))
      · exact .inl rfl
  · split
    · unfold faultV
      split
      · exact .inr (.inr (.inr (.inr (.inl rfl))))
      · split
        · exact .inr (.inr (.inr (.inr (.inr (.inr rfl)))))
        · exact .inl rfl
    · exact .inl rfl
theorem zr_wrong (s : MS) (op m x t : Int) (a : Nat) (h0 : kindP op ≠ 0) (h36 : op ≠ 36) : (wrongP s false op m x t a).1 = 0 ∨ zrK (wrongP s false op m x t a).1 := by
  unfold wrongP
  rw [if_neg (by rintro (e | e); exact h0 e; exact absurd e.2 (by decide)), if_neg h36]
  split
  · right
    show zrK (if op = 9 ∨ op = 41 ∨ op = 10 then (8 : Int) else 9)
    split
    · exact .inl rfl
    · exact .inr (.inl rfl)
  · split
    · exact .inl rfl
    · exact zr_fault s op a
/-- What goes on. -/
def zrOp (op : Nat) : Prop := (1 ≤ op ∧ op ≤ 26) ∨ (29 ≤ op ∧ op ≤ 32) ∨ (37 ≤ op ∧ op ≤ 46) ∨ (48 ≤ op ∧ op ≤ 59)
theorem zr_set (l : List Int) (hl : l.length = 32) (k : Nat) (o : Option Int) : (setO l k o).length = 32 ∧ (setO l k o).getD 0 0 = 0 := by
  cases o with
  | none =>
    show (l.set 0 0).length = 32 ∧ (l.set 0 0).getD 0 0 = 0
    refine ⟨by simpa using hl, ?_⟩
    rw [List.getD_eq_getElem?_getD, List.getElem?_set_self (by omega)]
    rfl
  | some z =>
    show ((l.set k z).set 0 0).length = 32 ∧ ((l.set k z).set 0 0).getD 0 0 = 0
    refine ⟨by simpa using hl, ?_⟩
    rw [List.getD_eq_getElem?_getD, List.getElem?_set_self (by simp; omega)]
    rfl
theorem zr_ins (s : MS) (v : SV) (hv : v.R.length = 32) (hsl : v.sl = false) (i : Fl) (h : zrOp i.op) : (∃ k b, insP s v i = stopO v k b ∧ zrK k) ∨ ∃ st, insP s v i = wentO st 0 ∧ st.R.length = 32 ∧ st.R.getD 0 0 = 0 ∧ st.pc = v.nx ∧ st.nx = (v.nx + 4) % 4294967296 ∧ st.sl = false := by
  unfold zrOp at h
  have hk := kind_in (k := i.op - 1) (by omega)
  rw [show (((i.op - 1 : Nat) : Int) + 1) = (i.op : Int) by omega] at hk
  by_cases hw : (wrongP s v.sl i.op i.tk.imm (v.reg i.tk.s) (v.reg i.tk.t) (adrP v i)).1 = 0
  · right
    have hj : jumpB (i.op : Int) = false := decide_eq_false (by omega)
    refine ⟨_, insP_went hw (by omega), (zr_set _ hv _ _).1, (zr_set _ hv _ _).2, rfl, ?_, hj⟩
    show (if (jumpB (i.op : Int) && _) = true then _ else _) = _
    rw [hj, Bool.false_and, if_neg (by decide)]
  · left
    refine ⟨_, _, insP_stop hw, ?_⟩
    rw [hsl] at hw ⊢
    exact (zr_wrong s _ _ _ _ _ hk.1 (by omega)).resolve_left hw
/-- Memories: a part, and one on other pages. -/
theorem maps_else (f : AM) (q : Part4) (k : Nat) : ∀ n, (∀ j, j < n → k ≠ pageOf (wrapAt q.at_ j)) → partMaps f q n k = f k
  | 0, _ => rfl
  | n + 1, h => by
    rw [partMaps, amap, if_neg (h n (by omega))]
    exact maps_else f q k n fun j hj => h j (by omega)
theorem pokes_else (f : AM) (q : Part4) (k : Nat) : ∀ n, (∀ j, j < n → k ≠ pageOf (wrapAt q.at_ j)) → partPokes f q n k = f k
  | 0, _ => rfl
  | n + 1, h => by
    rw [partPokes, apoke, if_neg (h n (by omega))]
    exact pokes_else f q k n fun j hj => h j (by omega)
theorem two_else (p q : Part4) (k : Nat) (h : ∀ j, j < max q.data.length 1 → k ≠ pageOf (wrapAt q.at_ j)) (hq : k ≠ pageOf q.at_) : memOf [p, q] k = memOf [p] k := by
  show awatch (awatch (partDone (partDone (fun _ => none) p) q) p.at_ p.on) q.at_ q.on k = awatch (partDone (fun _ => none) p) p.at_ p.on k
  rw [awatch, if_neg hq]
  have e : partDone (partDone (fun _ => none) p) q k = partDone (fun _ => none) p k := by
    rw [partDone, pokes_else _ q k _ fun j hj => h j (by omega), maps_else _ q k _ h]
  unfold awatch
  rw [e]
theorem fetch_page {s : MS} {p : Part4} {W : Nat} (h : s.abs (pageOf p.at_) = memOf [p] (pageOf p.at_)) (hd : p.data = bytesOf [W]) (hz : bits .and .i64 (p.perm % 8) 1 ≠ 0) (hat : p.at_ % 4 = 0) (hsm : p.at_ + 4 ≤ 4294967296) (hw : W < 4294967296) : fetchV s p.at_ = ((W : Int), 0) := by
  have hl : p.data.length = 4 := by rw [hd, bytesOf_len]; rfl
  have hs : (memOf [p] (pageOf p.at_)).isSome = true := (one_some p (by omega) _).2 ⟨0, by omega, by unfold wrapAt; rw [Nat.add_zero, Nat.mod_eq_of_lt (by omega)]⟩
  have hp : s.perm p.at_ = p.perm % 8 := by
    rw [perm_abs, h]
    cases hq : memOf [p] (pageOf p.at_) with
    | none => rw [hq] at hs; cases hs
    | some x => exact one_allP p _ _ hq
  have hb : preW s p.at_ 4 = W := preW_bytes s _ _ hw (fun j hj => by
    have e : pageOf (wrapAt p.at_ j) = pageOf p.at_ := by unfold pageOf wrapAt; omega
    have e2 : getA s.abs (wrapAt p.at_ j) = getA (memOf [p]) (wrapAt p.at_ j) := by
      unfold getA
      rw [e, h]
    rw [get_getA, e2, one_get p (by omega) (by omega) j (by omega), hd]
    have := bytesOf_get [W] 0 j (by simp) hj
    rw [Nat.mul_zero, Nat.zero_add] at this
    exact this)
  unfold fetchV
  rw [if_neg (by omega), hp, if_neg hz, hb]
/-- The words of each form. -/
theorem form_row {k c : Nat} (hk : k < 69) (hc : (rowR k).2.1 = c) : ∃ o f, rowR k = (k + 1, c, o, f) ∧ o < 64 ∧ f < 64 := by
  have h := List.all_eq_true.1 rows_ok k (List.mem_range.2 hk)
  simp only [Bool.and_eq_true, Bool.or_eq_true, decide_eq_true_eq] at h
  have h1 := (rows_at hk).2.1
  refine ⟨(rowR k).2.2.1, (rowR k).2.2.2, ?_, h.1, h.2.1⟩
  rw [← hc, ← h1]
theorem op_68 {k s t d m : Nat} (hk : k < 69) (hc : (rowR k).2.1 = 68) (hs : s < 32) (ht : t < 32) (hd : d < 32) : (insR (wordK k s t d 0 m)).op = k + 1 ∧ wordK k s t d 0 m < 4294967296 := by
  obtain ⟨o, f, hr, ho, hf⟩ := form_row hk hc
  have e : wordK k s t d 0 m = mkW o s t d 0 f := by
    unfold wordK
    rw [hr]
    simp [wordN, mkW]
  rw [e]
  exact ⟨by rw [dec_68 hk hr ho hf hs ht hd], (mkW_fields ho hs ht hd (show 0 < 32 by omega) hf).2.2.2.2.2.2⟩
theorem op_88 {k s t d m : Nat} (hk : k < 69) (hc : (rowR k).2.1 = 88) (hs : s < 32) (ht : t < 32) (hd : d < 32) : (insR (wordK k s t d 0 m)).op = k + 1 ∧ wordK k s t d 0 m < 4294967296 := by
  obtain ⟨o, f, hr, ho, hf⟩ := form_row hk hc
  have e : wordK k s t d 0 m = mkW o s t d 0 f := by
    unfold wordK
    rw [hr]
    simp [wordN, mkW]
  rw [e]
  exact ⟨by rw [dec_88 hk hr ho hf hs ht hd], (mkW_fields ho hs ht hd (show 0 < 32 by omega) hf).2.2.2.2.2.2⟩
theorem op_89 {k s d m : Nat} (hk : k < 69) (hc : (rowR k).2.1 = 89) (hs : s < 32) (hd : d < 32) : (insR (wordK k s d d 0 m)).op = k + 1 ∧ wordK k s d d 0 m < 4294967296 := by
  obtain ⟨o, f, hr, ho, hf⟩ := form_row hk hc
  have e : wordK k s d d 0 m = mkW o s d d 0 f := by
    unfold wordK
    rw [hr]
    simp [wordN, mkW]
  rw [e]
  exact ⟨by rw [dec_89 hk hr ho hf hs hd], (mkW_fields ho hs hd hd (show 0 < 32 by omega) hf).2.2.2.2.2.2⟩
theorem op_72 {k t d a m : Nat} (hk : k < 69) (hc : (rowR k).2.1 = 72) (ht : t < 32) (hd : d < 32) (ha : a < 32) : (insR (wordK k 0 t d a m)).op = k + 1 ∧ wordK k 0 t d a m < 4294967296 := by
  obtain ⟨o, f, hr, ho, hf⟩ := form_row hk hc
  have e : wordK k 0 t d a m = mkW o 0 t d a f := by
    unfold wordK
    rw [hr]
    simp [wordN, mkW]
  rw [e]
  exact ⟨by rw [dec_72 hk hr ho hf ht hd ha], (mkW_fields ho (show 0 < 32 by omega) ht hd ha hf).2.2.2.2.2.2⟩
theorem op_77 {k s t m : Nat} (hk : k < 69) (hc : (rowR k).2.1 = 77) (hs : s < 32) (ht : t < 32) : (insR (wordK k s t 0 0 m)).op = k + 1 ∧ wordK k s t 0 0 m < 4294967296 := by
  obtain ⟨o, f, hr, ho, hf⟩ := form_row hk hc
  have e : wordK k s t 0 0 m = mkW o s t 0 0 f := by
    unfold wordK
    rw [hr]
    simp [wordN, mkW]
  rw [e]
  exact ⟨by rw [dec_77 hk hr ho hf hs ht], (mkW_fields ho hs ht (show 0 < 32 by omega) (show 0 < 32 by omega) hf).2.2.2.2.2.2⟩
theorem op_70 {k d m : Nat} (hk : k < 69) (hc : (rowR k).2.1 = 70) (hd : d < 32) : (insR (wordK k 0 0 d 0 m)).op = k + 1 ∧ wordK k 0 0 d 0 m < 4294967296 := by
  obtain ⟨o, f, hr, ho, hf⟩ := form_row hk hc
  have e : wordK k 0 0 d 0 m = mkW o 0 0 d 0 f := by
    unfold wordK
    rw [hr]
    simp [wordN, mkW]
  rw [e]
  exact ⟨by rw [dec_70 hk hr ho hf hd], (mkW_fields ho (show 0 < 32 by omega) (show 0 < 32 by omega) hd (show 0 < 32 by omega) hf).2.2.2.2.2.2⟩
theorem op_73 {k s t m : Nat} (hk : k < 69) (hc : (rowR k).2.1 = 73) (hs : s < 32) (ht : t < 32) : (insR (wordK k s t 0 0 m)).op = k + 1 ∧ wordK k s t 0 0 m < 4294967296 := by
  obtain ⟨o, f, hr, ho, hf⟩ := form_row hk hc
  have e : wordK k s t 0 0 m = mkI o s t (m % 65536) := by
    unfold wordK
    rw [hr]
    simp [wordN, mkI]
  rw [e]
  exact ⟨by rw [dec_73 hk hr ho hs ht (show m % 65536 < 65536 by omega)], (mkI_fields ho hs ht (show m % 65536 < 65536 by omega)).2.2.2.2⟩
theorem op_80 {k s t m : Nat} (hk : k < 69) (hc : (rowR k).2.1 = 80) (hs : s < 32) (ht : t < 32) : (insR (wordK k s t 0 0 m)).op = k + 1 ∧ wordK k s t 0 0 m < 4294967296 := by
  obtain ⟨o, f, hr, ho, hf⟩ := form_row hk hc
  have e : wordK k s t 0 0 m = mkI o s t (m % 65536) := by
    unfold wordK
    rw [hr]
    simp [wordN, mkI]
  rw [e]
  exact ⟨by rw [dec_80 hk hr ho hs ht (show m % 65536 < 65536 by omega)], (mkI_fields ho hs ht (show m % 65536 < 65536 by omega)).2.2.2.2⟩
theorem op_85 {k s t m : Nat} (hk : k < 69) (hc : (rowR k).2.1 = 85) (hs : s < 32) (ht : t < 32) : (insR (wordK k s t 0 0 m)).op = k + 1 ∧ wordK k s t 0 0 m < 4294967296 := by
  obtain ⟨o, f, hr, ho, hf⟩ := form_row hk hc
  have e : wordK k s t 0 0 m = mkI o s t (m % 65536) := by
    unfold wordK
    rw [hr]
    simp [wordN, mkI]
  rw [e]
  exact ⟨by rw [dec_85 hk hr ho hs ht (show m % 65536 < 65536 by omega)], (mkI_fields ho hs ht (show m % 65536 < 65536 by omega)).2.2.2.2⟩
theorem op_84 {k s t : Nat} (hk : k < 69) (hc : (rowR k).2.1 = 84) (hs : s < 32) (ht : t < 32) : (insR (wordK k s t 0 0 0)).op = k + 1 ∧ wordK k s t 0 0 0 < 4294967296 := by
  obtain ⟨o, f, hr, ho, hf⟩ := form_row hk hc
  have e : wordK k s t 0 0 0 = mkW o s t 0 0 f := by
    unfold wordK
    rw [hr]
    simp [wordN, mkW]
  rw [e]
  exact ⟨by rw [dec_84 hk hr ho hf hs ht (show 0 < 32 by omega) (show 0 < 32 by omega)], (mkW_fields ho hs ht (show 0 < 32 by omega) (show 0 < 32 by omega) hf).2.2.2.2.2.2⟩
end Go.Proofs.Ytobnocioefchlaa
namespace Go.Proofs.Ytobnocioefchlaa
open Go.ChangeShapes Go.WideShapes Go.ChangeAt Go.RowKit
set_option linter.unusedVariables false
/-- A word of what goes on. -/
def PlW (w : World) (e : Ending) (w' : World) : Prop := ∃ W : Nat, e = .returned (.int .u32 (W : Int)) ∧ W < 4294967296 ∧ zrOp (insR W).op ∧ Below w.heap.size w w'
theorem word00_int (kk : Nat) (op s t d a m : Int) (hop : op = (kk : Int) + 1) (hk : kk < 69) (hs : 0 ≤ s ∧ s < 32) (ht : 0 ≤ t ∧ t < 32) (hd : 0 ≤ d ∧ d < 32) (ha : 0 ≤ a ∧ a < 32) (hm : 0 ≤ m ∧ m < 4294967296) (hz : zrOp (kk + 1)) (hx : (insR (wordK kk s.toNat t.toNat d.toNat a.toNat m.toNat)).op = kk + 1 ∧ wordK kk s.toNat t.toNat d.toNat a.toNat m.toNat < 4294967296) (w : World) : Calls Try.prog 16 #[.int .i64 op, .int .i64 s, .int .i64 t, .int .i64 d, .int .i64 a, .int .u32 m] w (PlW w) := by
  obtain ⟨s, rfl⟩ := Int.eq_ofNat_of_zero_le hs.1
  obtain ⟨t, rfl⟩ := Int.eq_ofNat_of_zero_le ht.1
  obtain ⟨d, rfl⟩ := Int.eq_ofNat_of_zero_le hd.1
  obtain ⟨a, rfl⟩ := Int.eq_ofNat_of_zero_le ha.1
  obtain ⟨m, rfl⟩ := Int.eq_ofNat_of_zero_le hm.1
  refine (word00_any op kk s t d a m hop hk (by omega) (by omega) (by omega) (by omega) (by omega) hx.2 w).mono ?_
  rintro e w' ⟨rfl, b⟩
  have hx1 := hx.1
  exact ⟨_, rfl, hx.2, by show zrOp (insR (wordK kk s t d a m)).op; rw [show (insR (wordK kk s t d a m)).op = kk + 1 from hx1]; exact hz, b⟩
theorem plain_68 (op s t d : Int) (h1 : 1 ≤ op) (h2 : op ≤ 15) (hs : 0 ≤ s ∧ s < 32) (ht : 0 ≤ t ∧ t < 32) (hd : 0 ≤ d ∧ d < 32) (w : World) : Calls Try.prog 16 #[.int .i64 op, .int .i64 s, .int .i64 t, .int .i64 d, .int .i64 0, .int .u32 0] w (PlW w) := by
  obtain ⟨kk, rfl⟩ : ∃ kk : Nat, op = (kk : Int) + 1 := ⟨(op - 1).toNat, by omega⟩
  have hc : (rowR kk).2.1 = 68 := by
    have : kk = 0 ∨ kk = 1 ∨ kk = 2 ∨ kk = 3 ∨ kk = 4 ∨ kk = 5 ∨ kk = 6 ∨ kk = 7 ∨ kk = 8 ∨ kk = 9 ∨ kk = 10 ∨ kk = 11 ∨ kk = 12 ∨ kk = 13 ∨ kk = 14 := by omega
    rcases this with rfl | rfl | rfl | rfl | rfl | rfl | rfl | rfl | rfl | rfl | rfl | rfl | rfl | rfl | rfl <;> rfl
  exact word00_int kk _ s t d 0 0 rfl (by omega) hs ht hd ⟨by omega, by omega⟩ ⟨by omega, by omega⟩ (by unfold zrOp; omega) (by have h := op_68 (k := kk) (s := s.toNat) (t := t.toNat) (d := d.toNat) (m := 0) (by omega) hc (show s.toNat < 32 by omega) (show t.toNat < 32 by omega) (show d.toNat < 32 by omega); exact h) w
theorem plain_72 (op t d a : Int) (h1 : 16 ≤ op) (h2 : op ≤ 18) (ht : 0 ≤ t ∧ t < 32) (hd : 0 ≤ d ∧ d < 32) (ha : 0 ≤ a ∧ a < 32) (w : World) : Calls Try.prog 16 #[.int .i64 op, .int .i64 0, .int .i64 t, .int .i64 d, .int .i64 a, .int .u32 0] w (PlW w) := by
  obtain ⟨kk, rfl⟩ : ∃ kk : Nat, op = (kk : Int) + 1 := ⟨(op - 1).toNat, by omega⟩
  have hc : (rowR kk).2.1 = 72 := by
    have : kk = 15 ∨ kk = 16 ∨ kk = 17 := by omega
    rcases this with rfl | rfl | rfl <;> rfl
  exact word00_int kk _ 0 t d a 0 rfl (by omega) ⟨by omega, by omega⟩ ht hd ha ⟨by omega, by omega⟩ (by unfold zrOp; omega) (by have h := op_72 (k := kk) (t := t.toNat) (d := d.toNat) (a := a.toNat) (m := 0) (by omega) hc (show t.toNat < 32 by omega) (show d.toNat < 32 by omega) (show a.toNat < 32 by omega); exact h) w
theorem plain_77 (op s t : Int) (h1 : 19 ≤ op) (h2 : op ≤ 22) (hs : 0 ≤ s ∧ s < 32) (ht : 0 ≤ t ∧ t < 32) (w : World) : Calls Try.prog 16 #[.int .i64 op, .int .i64 s, .int .i64 t, .int .i64 0, .int .i64 0, .int .u32 0] w (PlW w) := by
  obtain ⟨kk, rfl⟩ : ∃ kk : Nat, op = (kk : Int) + 1 := ⟨(op - 1).toNat, by omega⟩
  have hc : (rowR kk).2.1 = 77 := by
    have : kk = 18 ∨ kk = 19 ∨ kk = 20 ∨ kk = 21 := by omega
    rcases this with rfl | rfl | rfl | rfl <;> rfl
  exact word00_int kk _ s t 0 0 0 rfl (by omega) hs ht ⟨by omega, by omega⟩ ⟨by omega, by omega⟩ ⟨by omega, by omega⟩ (by unfold zrOp; omega) (by have h := op_77 (k := kk) (s := s.toNat) (t := t.toNat) (m := 0) (by omega) hc (show s.toNat < 32 by omega) (show t.toNat < 32 by omega); exact h) w
theorem plain_70 (op d : Int) (h1 : 23 ≤ op) (h2 : op ≤ 24) (hd : 0 ≤ d ∧ d < 32) (w : World) : Calls Try.prog 16 #[.int .i64 op, .int .i64 0, .int .i64 0, .int .i64 d, .int .i64 0, .int .u32 0] w (PlW w) := by
  obtain ⟨kk, rfl⟩ : ∃ kk : Nat, op = (kk : Int) + 1 := ⟨(op - 1).toNat, by omega⟩
  have hc : (rowR kk).2.1 = 70 := by
    have : kk = 22 ∨ kk = 23 := by omega
    rcases this with rfl | rfl <;> rfl
  exact word00_int kk _ 0 0 d 0 0 rfl (by omega) ⟨by omega, by omega⟩ ⟨by omega, by omega⟩ hd ⟨by omega, by omega⟩ ⟨by omega, by omega⟩ (by unfold zrOp; omega) (by have h := op_70 (k := kk) (d := d.toNat) (m := 0) (by omega) hc (show d.toNat < 32 by omega); exact h) w
theorem plain_73 (op s t m : Int) (h1 : 40 ≤ op) (h2 : op ≤ 43) (hs : 0 ≤ s ∧ s < 32) (ht : 0 ≤ t ∧ t < 32) (hm : 0 ≤ m ∧ m < 4294967296) (w : World) : Calls Try.prog 16 #[.int .i64 op, .int .i64 s, .int .i64 t, .int .i64 0, .int .i64 0, .int .u32 m] w (PlW w) := by
  obtain ⟨kk, rfl⟩ : ∃ kk : Nat, op = (kk : Int) + 1 := ⟨(op - 1).toNat, by omega⟩
  have hc : (rowR kk).2.1 = 73 := by
    have : kk = 39 ∨ kk = 40 ∨ kk = 41 ∨ kk = 42 := by omega
    rcases this with rfl | rfl | rfl | rfl <;> rfl
  exact word00_int kk _ s t 0 0 m rfl (by omega) hs ht ⟨by omega, by omega⟩ ⟨by omega, by omega⟩ hm (by unfold zrOp; omega) (by have h := op_73 (k := kk) (s := s.toNat) (t := t.toNat) (m := m.toNat) (by omega) hc (show s.toNat < 32 by omega) (show t.toNat < 32 by omega); exact h) w
theorem plain_85 (op s t m : Int) (h1 : 44 ≤ op) (h2 : op ≤ 46) (hs : 0 ≤ s ∧ s < 32) (ht : 0 ≤ t ∧ t < 32) (hm : 0 ≤ m ∧ m < 4294967296) (w : World) : Calls Try.prog 16 #[.int .i64 op, .int .i64 s, .int .i64 t, .int .i64 0, .int .i64 0, .int .u32 m] w (PlW w) := by
  obtain ⟨kk, rfl⟩ : ∃ kk : Nat, op = (kk : Int) + 1 := ⟨(op - 1).toNat, by omega⟩
  have hc : (rowR kk).2.1 = 85 := by
    have : kk = 43 ∨ kk = 44 ∨ kk = 45 := by omega
    rcases this with rfl | rfl | rfl <;> rfl
  exact word00_int kk _ s t 0 0 m rfl (by omega) hs ht ⟨by omega, by omega⟩ ⟨by omega, by omega⟩ hm (by unfold zrOp; omega) (by have h := op_85 (k := kk) (s := s.toNat) (t := t.toNat) (m := m.toNat) (by omega) hc (show s.toNat < 32 by omega) (show t.toNat < 32 by omega); exact h) w
theorem plain_88 (op s t d : Int) (h1 : 37 ≤ op) (h2 : op ≤ 37) (hs : 0 ≤ s ∧ s < 32) (ht : 0 ≤ t ∧ t < 32) (hd : 0 ≤ d ∧ d < 32) (w : World) : Calls Try.prog 16 #[.int .i64 op, .int .i64 s, .int .i64 t, .int .i64 d, .int .i64 0, .int .u32 0] w (PlW w) := by
  obtain ⟨kk, rfl⟩ : ∃ kk : Nat, op = (kk : Int) + 1 := ⟨(op - 1).toNat, by omega⟩
  have hc : (rowR kk).2.1 = 88 := by
    have : kk = 36 := by omega
    rcases this with rfl <;> rfl
  exact word00_int kk _ s t d 0 0 rfl (by omega) hs ht hd ⟨by omega, by omega⟩ ⟨by omega, by omega⟩ (by unfold zrOp; omega) (by have h := op_88 (k := kk) (s := s.toNat) (t := t.toNat) (d := d.toNat) (m := 0) (by omega) hc (show s.toNat < 32 by omega) (show t.toNat < 32 by omega) (show d.toNat < 32 by omega); exact h) w
theorem plain_80 (op s t m : Int) (h1 : 48 ≤ op) (h2 : op ≤ 59) (hs : 0 ≤ s ∧ s < 32) (ht : 0 ≤ t ∧ t < 32) (hm : 0 ≤ m ∧ m < 4294967296) (w : World) : Calls Try.prog 16 #[.int .i64 op, .int .i64 s, .int .i64 t, .int .i64 0, .int .i64 0, .int .u32 m] w (PlW w) := by
  obtain ⟨kk, rfl⟩ : ∃ kk : Nat, op = (kk : Int) + 1 := ⟨(op - 1).toNat, by omega⟩
  have hc : (rowR kk).2.1 = 80 := by
    have : kk = 47 ∨ kk = 48 ∨ kk = 49 ∨ kk = 50 ∨ kk = 51 ∨ kk = 52 ∨ kk = 53 ∨ kk = 54 ∨ kk = 55 ∨ kk = 56 ∨ kk = 57 ∨ kk = 58 := by omega
    rcases this with rfl | rfl | rfl | rfl | rfl | rfl | rfl | rfl | rfl | rfl | rfl | rfl <;> rfl
  exact word00_int kk _ s t 0 0 m rfl (by omega) hs ht ⟨by omega, by omega⟩ ⟨by omega, by omega⟩ hm (by unfold zrOp; omega) (by have h := op_80 (k := kk) (s := s.toNat) (t := t.toNat) (m := m.toNat) (by omega) hc (show s.toNat < 32 by omega) (show t.toNat < 32 by omega); exact h) w
theorem plain_84 (op s t : Int) (h1 : 29 ≤ op) (h2 : op ≤ 32) (hs : 0 ≤ s ∧ s < 32) (ht : 0 ≤ t ∧ t < 32) (w : World) : Calls Try.prog 16 #[.int .i64 op, .int .i64 s, .int .i64 t, .int .i64 0, .int .i64 0, .int .u32 0] w (PlW w) := by
  obtain ⟨kk, rfl⟩ : ∃ kk : Nat, op = (kk : Int) + 1 := ⟨(op - 1).toNat, by omega⟩
  have hc : (rowR kk).2.1 = 84 := by
    have : kk = 28 ∨ kk = 29 ∨ kk = 30 ∨ kk = 31 := by omega
    rcases this with rfl | rfl | rfl | rfl <;> rfl
  exact word00_int kk _ s t 0 0 0 rfl (by omega) hs ht ⟨by omega, by omega⟩ ⟨by omega, by omega⟩ ⟨by omega, by omega⟩ (by unfold zrOp; omega) (by have h := op_84 (k := kk) (s := s.toNat) (t := t.toNat) (by omega) hc (show s.toNat < 32 by omega) (show t.toNat < 32 by omega); exact h) w
theorem plain_89 (op s d : Int) (h1 : 38 ≤ op) (h2 : op ≤ 39) (hs : 0 ≤ s ∧ s < 32) (hd : 0 ≤ d ∧ d < 32) (w : World) : Calls Try.prog 16 #[.int .i64 op, .int .i64 s, .int .i64 d, .int .i64 d, .int .i64 0, .int .u32 0] w (PlW w) := by
  obtain ⟨kk, rfl⟩ : ∃ kk : Nat, op = (kk : Int) + 1 := ⟨(op - 1).toNat, by omega⟩
  have hc : (rowR kk).2.1 = 89 := by
    have : kk = 37 ∨ kk = 38 := by omega
    rcases this with rfl | rfl <;> rfl
  exact word00_int kk _ s d d 0 0 rfl (by omega) hs hd hd ⟨by omega, by omega⟩ ⟨by omega, by omega⟩ (by unfold zrOp; omega) (by have h := op_89 (k := kk) (s := s.toNat) (d := d.toNat) (m := 0) (by omega) hc (show s.toNat < 32 by omega) (show d.toNat < 32 by omega); exact h) w
theorem exec_and31 {ρ : Operand → Value} {o : Oper} {x y : Operand} {m : Int} (hop : o.op = .binOp .and 23 x y 23) (hx : ρ x = .int .u32 m) (hy : ρ y = .int .u32 31) (w : World) : (execOp ρ o).run Try.prog w = .ok (.value (.int .u32 (bits .and .u32 m 31))) w := by
  unfold execOp
  rw [hop]
  simp [hx, hy, go_sem]
theorem wpList_and31 {ops : Array Oper} {rest : List Oper} {o : Oper} {a : Act} {w : World} {Q : Exit → Act → World → Prop} (hgd : o.guard = none) (x y : Operand) (ho : o.op = .binOp .and 23 x y 23) (m z : Int) (hx : a.eval x = .int .u32 m) (hy : a.eval y = .int .u32 31) (hz : bits .and .u32 m 31 = z)
    (h : wpList Try.prog ops Q rest (a.put o.dst (.int .u32 z)) w) : wpList Try.prog ops Q (o :: rest) a w := by
  subst hz
  exact Great.wpList_runTo hgd o.dst rfl (.int .u32 (bits .and .u32 m 31)) w (exec_and31 ho hx hy w) h
theorem i64_and63 (x : Nat) (hx : x < 9223372036854775808) : bits .and .i64 (x : Int) 63 = ((x % 64 : Nat) : Int) := by
  have e : ∀ y : Nat, y < 9223372036854775808 → (BitVec.ofInt 64 (y : Int)).toNat = y := fun y hy => by
    rw [ofInt_toNat]
    omega
  show IntKind.i64.wrap ((BitVec.ofInt 64 (x : Int) &&& BitVec.ofInt 64 63).toNat : Nat) = _
  rw [BitVec.toNat_and, e x hx, show (BitVec.ofInt 64 63).toNat = 2 ^ 6 - 1 from rfl, Nat.and_two_pow_sub_one_eq_mod, IntKind.wrap_i64]
  omega
end Go.Proofs.Ytobnocioefchlaa

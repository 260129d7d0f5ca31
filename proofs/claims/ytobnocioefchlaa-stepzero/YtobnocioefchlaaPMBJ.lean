/- Parts that came in as a slice, opened. -/
import Derived.Test.YtobnocioefchlaaPMAK
import Derived.Deep.Slices
import Derived.Test.YtobnocioefchlaaPMAZ
import Derived.Test.YtobnocioefchlaaPStH
namespace Go.Proofs.Ytobnocioefchlaa
open Go.ChangeShapes Go.WideShapes Go.ChangeAt Go.RowKit Go.Deep
set_option linter.unusedVariables false
theorem wf_u32 {a : Int} (h : (Lit.int .u32 a).wf = true) : ∃ n : Nat, a = (n : Int) ∧ n < 4294967296 := by
  have : 0 ≤ a ∧ a ≤ 4294967295 := by simpa [Lit.wf, IntKind.min, IntKind.max, IntKind.signed, IntKind.bits] using h
  exact ⟨a.toNat, by omega, by omega⟩
theorem wf_u8 {a : Int} (h : (Lit.int .u8 a).wf = true) : ∃ v : UInt8, a = (v.toNat : Int) := by
  have h1 : 0 ≤ a ∧ a ≤ 255 := by simpa [Lit.wf, IntKind.min, IntKind.max, IntKind.signed, IntKind.bits] using h
  exact ⟨UInt8.ofNat a.toNat, by rw [UInt8.toNat_ofNat']; omega⟩
theorem cells57 : Try.prog.cellsOf 44 = 4 := by kernel_rfl
theorem cells27 : Try.prog.cellsOf 23 = 1 := by kernel_rfl
theorem cells45 : Try.prog.cellsOf 40 = 1 := by kernel_rfl
theorem cells3 : Try.prog.cellsOf 3 = 1 := by kernel_rfl
theorem cells4 : Try.prog.cellsOf 4 = 1 := by kernel_rfl
/-- A slice of bytes that came in. -/
theorem open_row {H : Type} {enc : TypeId × Value → H} {w : World} {base n : Nat} {spare : Nat → Bool} {held : Bool} {cs : List Value} {x : DataW H × List MemPlace} (h : DataW.trod enc Try.prog w base spare held n 40 cs = some x) :
    ∃ (ao : Option Addr) (l : List UInt8) (cap : Nat), cs = [.slice ao l.length cap] ∧ Row w ao l cap := by
  rcases open_ints Try.underlying40 Try.underlying5 (by kernel_rfl) h with ⟨hcs, _⟩ | ⟨a, len, cap, zs, hcs, _, hl, hm, hz, _, hcell, hwz⟩
  · exact ⟨none, [], 0, hcs, Row.none w⟩
  · have hzl : len ≤ zs.length := by rw [hz]; split <;> omega
    obtain ⟨f, hf⟩ : ∃ f : Nat → UInt8, ∀ i, i < len → zs.getD i 0 = ((f i).toNat : Int) := by
      refine choose_lt (p := fun i (v : UInt8) => zs.getD i 0 = (v.toNat : Int)) fun i hi => ?_
      refine wf_u8 (hwz _ ?_)
      rw [List.getD_eq_getElem?_getD, List.getElem?_eq_getElem (by omega), Option.getD_some]
      exact List.getElem_mem _
    have hlen : ((List.range len).map f).length = len := by simp
    refine ⟨some a, (List.range len).map f, cap, by rw [hlen]; exact hcs, by rw [hlen]; exact hl, hm, by simp, ?_⟩
    by_cases h0 : len = 0
    · left
      subst h0
      rfl
    · right
      obtain ⟨b, off, spot⟩ := a
      have hc0 := hcell 0 (by omega)
      have hspot : spot = none := by simpa [Addr.add] using World.cell?_spot hc0
      subst hspot
      refine ⟨b, off, rfl, fun j hj => ?_⟩
      rw [hlen] at hj
      have h1 := hcell j (by omega)
      rw [Addr.add_lit] at h1
      rw [h1, hf j hj]
      simp [List.getD_eq_getElem?_getD, hj]
set_option maxRecDepth 20000 in
theorem open_part {H : Type} {enc : TypeId × Value → H} {w : World} {base n : Nat} {spare : Nat → Bool} {held : Bool} {a : Addr} {cs : List Value} {x : DataW H × List MemPlace}
    (h1 : w.cells? base a 4 = some cs) (h2 : DataW.trod enc Try.prog w base spare held n 44 cs = some x) :
    ∃ p : Part4, w.cell? (a.add 0) = some (.int .u32 (p.at_ : Int)) ∧ w.cell? (a.add 1) = some (.slice p.da p.data.length p.dcap) ∧ w.cell? (a.add 2) = some (.int .i64 p.perm) ∧ w.cell? (a.add 3) = some (.bool p.on) ∧ Row w p.da p.data p.dcap ∧ p.at_ < 4294967296 := by
  obtain ⟨_, hlen, hcell⟩ := World.cells?_some h1
  obtain ⟨xs, k, hk, hxy, _, hxl, hf⟩ := DataW.trod_struct Try.underlying44 h2
  match xs, hxl, cs, hlen with
  | [y0, y1, y2, y3], _, [v0, v1, v2, v3], _ =>
    have g0 := hf 0 _ rfl
    have g1 := hf 1 _ rfl
    have g2 := hf 2 _ rfl
    have g3 := hf 3 _ rfl
    simp [cells3, cells4, cells27, cells45] at g0 g1 g2 g3
    obtain ⟨n0, e0, _, w0⟩ := DataW.trod_int Try.underlying23 g0
    obtain ⟨ao, l, cap, e1, hr⟩ := open_row g1
    obtain ⟨n2, e2, _, _⟩ := DataW.trod_int Try.underlying3 g2
    obtain ⟨b3, e3, _⟩ := DataW.trod_bool Try.underlying4 g3
    obtain ⟨m0, rfl, hm0⟩ := wf_u32 w0
    simp only [List.cons.injEq, and_true] at e0 e1 e2 e3
    subst e0 e1 e2 e3
    have c0 := hcell 0 (by omega)
    have c1 := hcell 1 (by omega)
    have c2 := hcell 2 (by omega)
    have c3 := hcell 3 (by omega)
    exact ⟨⟨m0, l, n2, b3, ao, cap⟩, by simpa using c0, by simpa using c1, by simpa using c2, by simpa using c3, hr, hm0⟩
theorem open_parts {H : Type} {enc : TypeId × Value → H} {w : World} {fuel : Nat} {held : Bool} {ao : Option Addr} {len cap : Nat} {x : DataW H × List MemPlace} {spare : Nat → Bool}
    (h : DataW.trod enc Try.prog w 0 spare held fuel 22 [.slice ao len cap] = some x) : ∃ ps : List Part4, ps.length = len ∧ Pieces w ao ps ∧ ps.length ≤ 9223372036854775807 := by
  rcases open_slice Try.underlying22 h with ⟨hcs, _⟩ | ⟨a, l, c, m, n, D, Pl, hcs, hb, hl, hm, hmm, _, hx⟩
  · simp at hcs
    obtain ⟨rfl, rfl, rfl⟩ := hcs
    exact ⟨[], rfl, .inl rfl, by simp⟩
  · simp at hcs
    obtain ⟨rfl, rfl, rfl⟩ := hcs
    simp only [maxLen] at hm
    have hlm : len ≤ m := by rw [hmm]; split <;> omega
    have each : ∀ i, i < len → ∃ p : Part4, w.cell? (a.add (i * 4)) = some (.int .u32 (p.at_ : Int)) ∧ w.cell? (a.add (i * 4 + 1)) = some (.slice p.da p.data.length p.dcap) ∧ w.cell? (a.add (i * 4 + 2)) = some (.int .i64 p.perm) ∧ w.cell? (a.add (i * 4 + 3)) = some (.bool p.on) ∧ Row w p.da p.data p.dcap ∧ p.at_ < 4294967296 := by
      intro i hi
      obtain ⟨cs', h1, h2⟩ := hx i (by omega)
      rw [cells57] at h1
      obtain ⟨p, c0, c1, c2, c3, hr, hlt⟩ := open_part h1 h2
      rw [add_add] at c0 c1 c2 c3
      exact ⟨p, c0, c1, c2, c3, hr, hlt⟩
    have hinh : Inhabited Part4 := ⟨⟨0, [], 0, false, none, 0⟩⟩
    obtain ⟨f, hf⟩ := choose_lt each
    have hlen : ((List.range len).map f).length = len := by simp
    refine ⟨(List.range len).map f, hlen, ?_, by omega⟩
    by_cases h0 : len = 0
    · left
      subst h0
      rfl
    · right
      obtain ⟨b, off, spot⟩ := a
      have hspot : spot = none := by simpa [Addr.add] using World.cell?_spot (hf 0 (by omega)).1
      subst hspot
      refine ⟨b, off, rfl, ?_, fun j hj => ?_⟩
      · have := World.block_lt_of_cell? _ _ (hf 0 (by omega)).1
        simpa [Addr.add_lit] using this
      · rw [hlen] at hj
        obtain ⟨c0, c1, c2, c3, hr, hlt⟩ := hf j hj
        rw [Addr.add_lit] at c0 c1 c2 c3
        simp only [List.getElem_map, List.getElem_range]
        exact ⟨c0, by rw [Nat.add_assoc]; exact c1, by rw [Nat.add_assoc]; exact c2, by rw [Nat.add_assoc]; exact c3, hr, hlt⟩
end Go.Proofs.Ytobnocioefchlaa
namespace Go.Proofs.Ytobnocioefchlaa
open Go.ChangeShapes Go.WideShapes Go.ChangeAt Go.RowKit
set_option linter.unusedVariables false
theorem bytesL_get (x : Nat) : (bytesL x).getD 0 0 = UInt8.ofNat (x / 16777216) ∧ (bytesL x).getD 1 0 = UInt8.ofNat (x / 65536) ∧ (bytesL x).getD 2 0 = UInt8.ofNat (x / 256) ∧ (bytesL x).getD 3 0 = UInt8.ofNat x := ⟨rfl, rfl, rfl, rfl⟩
theorem preW_bytes (s : MS) (a x : Nat) (hx : x < 4294967296) (h : ∀ j, j < 4 → s.get (wrapAt a j) = (bytesL x).getD j 0) : preW s a 4 = x := by
  show (((0 * 256 + (s.get (wrapAt a 0)).toNat) * 256 + (s.get (wrapAt a 1)).toNat) * 256 + (s.get (wrapAt a 2)).toNat) * 256 + (s.get (wrapAt a 3)).toNat = _
  obtain ⟨g0, g1, g2, g3⟩ := bytesL_get x
  rw [h 0 (by omega), h 1 (by omega), h 2 (by omega), h 3 (by omega), g0, g1, g2, g3]
  simp only [UInt8.toNat_ofNat']
  omega
theorem bytesOf_get : ∀ (ws : List Nat) (i j : Nat), i < ws.length → j < 4 → (bytesOf ws).getD (4 * i + j) 0 = (bytesL (ws.getD i 0)).getD j 0
  | [], i, j, h, _ => by simp at h
  | x :: ws, 0, j, _, hj => by
    show (bytesL x ++ bytesOf ws).getD (4 * 0 + j) 0 = _
    rw [List.getD_eq_getElem?_getD, List.getElem?_append_left (by rw [bytesL_len]; omega), ← List.getD_eq_getElem?_getD]
    simp
  | x :: ws, i + 1, j, h, hj => by
    show (bytesL x ++ bytesOf ws).getD (4 * (i + 1) + j) 0 = _
    rw [List.getD_eq_getElem?_getD, List.getElem?_append_right (by rw [bytesL_len]; omega), ← List.getD_eq_getElem?_getD, bytesL_len, show 4 * (i + 1) + j - 4 = 4 * i + j by omega]
    exact bytesOf_get ws i j (by simpa using h) hj
theorem fetch_code {s : MS} {p : Part4} {ws : List Nat} (h : s.abs = memOf [p]) (hd : p.data = bytesOf ws) (hz : bits .and .i64 (p.perm % 8) 1 ≠ 0) (hat : p.at_ % 4 = 0) (hsm : p.at_ + 4 * ws.length ≤ 4294967296) (i : Nat) (hi : i < ws.length) (hw : ws.getD i 0 < 4294967296) : fetchV s (p.at_ + 4 * i) = (((ws.getD i 0 : Nat) : Int), 0) := by
  have hl : p.data.length = 4 * ws.length := by rw [hd, bytesOf_len]
  have hp : s.perm (p.at_ + 4 * i) = p.perm % 8 := by
    refine perm_all (z := p.perm) (by rw [h]; exact one_allP p) _ ?_
    rw [h, one_some p (by omega)]
    exact ⟨4 * i, by omega, by unfold wrapAt; rw [Nat.mod_eq_of_lt (by omega)]⟩
  have hb : preW s (p.at_ + 4 * i) 4 = ws.getD i 0 := preW_bytes s _ _ hw (fun j hj => by
    rw [get_getA, h, show wrapAt (p.at_ + 4 * i) j = wrapAt p.at_ (4 * i + j) by unfold wrapAt; rw [Nat.add_assoc], one_get p (by omega) (by omega) (4 * i + j) (by omega), hd]
    exact bytesOf_get ws i j hi hj)
  unfold fetchV
  rw [if_neg (by omega), hp, if_neg hz, hb]
theorem stepP_at {s : MS} {v : SV} {W : Nat} {i : Fl} (hf : fetchV s v.pc.toNat = ((W : Int), 0)) (hi : insR W = i) : stepP s v = insP s v i ∧ stepL s v = insL s v i := by
  unfold stepP stepL
  rw [hf]
  refine ⟨?_, ?_⟩
  · rw [if_neg (show ¬ ((0 : Int) ≠ 0) by decide)]
    show insP s v (insR ((W : Int)).toNat) = _
    rw [Int.toNat_natCast, hi]
  · rw [if_neg (show ¬ ((0 : Int) ≠ 0) by decide)]
    show insL s v (insR ((W : Int)).toNat) = _
    rw [Int.toNat_natCast, hi]
def adrP (v : SV) (i : Fl) : Nat := ((v.reg i.tk.s + (i.tk.imm : Int)) % 4294967296).toNat
theorem insP_went {s : MS} {v : SV} {i : Fl} (hw : (wrongP s v.sl i.op i.tk.imm (v.reg i.tk.s) (v.reg i.tk.t) (adrP v i)).1 = 0) (h35 : i.op ≠ 35) : insP s v i = wentO (doP s v i.op i.tk.imm i.tk.a (v.reg i.tk.s) (v.reg i.tk.t) (writeV i.op i.tk.t i.tk.d).toNat (adrP v i)) 0 := by
  unfold adrP at hw ⊢
  unfold insP
  simp only
  rw [if_neg (show ¬ (wrongP s v.sl i.op i.tk.imm (v.reg i.tk.s) (v.reg i.tk.t) (((v.reg i.tk.s + (i.tk.imm : Int)) % 4294967296).toNat)).1 ≠ 0 from fun h => h hw), if_neg h35]
theorem insP_stop {s : MS} {v : SV} {i : Fl} (hw : (wrongP s v.sl i.op i.tk.imm (v.reg i.tk.s) (v.reg i.tk.t) (adrP v i)).1 ≠ 0) : insP s v i = stopO v (wrongP s v.sl i.op i.tk.imm (v.reg i.tk.s) (v.reg i.tk.t) (adrP v i)).1 (wrongP s v.sl i.op i.tk.imm (v.reg i.tk.s) (v.reg i.tk.t) (adrP v i)).2 := by
  unfold adrP at hw ⊢
  unfold insP
  simp only
  rw [if_pos (show (wrongP s v.sl i.op i.tk.imm (v.reg i.tk.s) (v.reg i.tk.t) (((v.reg i.tk.s + (i.tk.imm : Int)) % 4294967296).toNat)).1 ≠ 0 from hw)]
theorem faultK_out {s : MS} {op : Int} (h : op < 48 ∨ 59 < op) (a : Nat) : faultK s op a = 0 := by unfold faultK; rw [if_neg (kindP_else h).1, if_neg (kindP_else h).2]
theorem kinds_in : (List.range 69).all (fun k => decide (kindP ((k : Int) + 1) ≠ 0) && (kindP ((k : Int) + 1) == 2) == decide (k = 26 ∨ k = 27 ∨ 59 ≤ k)) = true := by kernel_rfl
theorem kind_in {k : Nat} (hk : k < 69) : kindP ((k : Int) + 1) ≠ 0 ∧ (kindP ((k : Int) + 1) = 2 ↔ (k = 26 ∨ k = 27 ∨ 59 ≤ k)) := by
  have h := List.all_eq_true.1 kinds_in k (List.mem_range.2 hk)
  simp only [Bool.and_eq_true, decide_eq_true_eq] at h
  refine ⟨h.1, ?_⟩
  have h2 := h.2
  constructor
  · intro e
    rw [e] at h2
    exact of_decide_eq_true (eq_of_beq h2).symm
  · intro e
    rw [decide_eq_true e] at h2
    exact eq_of_beq (eq_of_beq h2)
/-- An instruction that jumps, not in a slot: nothing stops it. -/
theorem wrongP_jump (s : MS) {op : Nat} (h : op = 27 ∨ op = 28 ∨ 60 ≤ op ∧ op ≤ 69) (m x t : Int) (a : Nat) : wrongP s false op m x t a = (0, 0) := by
  have hk := kind_in (k := op - 1) (by omega)
  rw [show (((op - 1 : Nat) : Int) + 1) = (op : Int) by omega] at hk
  unfold wrongP
  rw [if_neg (by rintro (e | e); exact hk.1 e; exact absurd e.2 (by decide)), if_neg (by omega)]
  have ht : trapB op x t m = false := by
    unfold trapB
    rw [if_neg (by omega), if_neg (by omega), if_neg (by omega), if_neg (by omega), if_neg (by omega), if_neg (by omega), if_neg (by omega), if_neg (by omega), if_neg (by omega)]
  rw [ht, if_neg (by decide), if_pos (faultK_out (by omega) a)]
/-- One that jumps, in a slot: reserved. -/
theorem wrongP_slot (s : MS) {op : Nat} (h : op = 27 ∨ op = 28 ∨ 60 ≤ op ∧ op ≤ 69) (m x t : Int) (a : Nat) : wrongP s true op m x t a = (7, 0) := by
  have hk := kind_in (k := op - 1) (by omega)
  rw [show (((op - 1 : Nat) : Int) + 1) = (op : Int) by omega] at hk
  unfold wrongP
  rw [if_pos (Or.inr ⟨hk.2.2 (by omega), rfl⟩)]
end Go.Proofs.Ytobnocioefchlaa

/- A state that came in, opened. -/
import Derived.Test.YtobnocioefchlaaPMAX
import Derived.Deep.Slices
import Derived.OpenShut
import Derived.Test.YtobnocioefchlaaPAluPlain
import Derived.Test.YtobnocioefchlaaPMAZ
namespace Go.Proofs.Ytobnocioefchlaa
open Go.ChangeShapes Go.WideShapes Go.ChangeAt Go.RowKit Go.Deep
set_option linter.unusedVariables false
/-- What a state's numbers may be. -/
def SV.ok (s : SV) : Prop := s.R.length = 32 ∧ (∀ k, k < 32 → 0 ≤ s.R.getD k 0 ∧ s.R.getD k 0 < 4294967296) ∧ (0 ≤ s.hi ∧ s.hi < 4294967296) ∧ (0 ≤ s.lo ∧ s.lo < 4294967296) ∧ (0 ≤ s.pc ∧ s.pc < 4294967296) ∧ (0 ≤ s.nx ∧ s.nx < 4294967296)
theorem wf_sv {a : Int} (h : (Lit.int .u32 a).wf = true) : 0 ≤ a ∧ a < 4294967296 := by
  have : 0 ≤ a ∧ a ≤ 4294967295 := by simpa [Lit.wf, IntKind.min, IntKind.max, IntKind.signed, IntKind.bits] using h
  exact ⟨this.1, by omega⟩
theorem cells26 : Try.prog.cellsOf 26 = 37 := by kernel_rfl
theorem cellsRV : Try.prog.cellsOf 24 = 32 := by kernel_rfl
theorem cellsBV : Try.prog.cellsOf 4 = 1 := by kernel_rfl
theorem one_at {m : List Value} {i : Nat} {v : Value} (h : (m.drop i).take 1 = [v]) : m[i]? = some v := by
  have e : ((m.drop i).take 1)[0]? = some v := by rw [h]; rfl
  rw [List.getElem?_take, List.getElem?_drop] at e
  simpa using e
def numOf : Value → Int
  | .int _ n => n
  | _ => 0
theorem open_regs {H : Type} {enc : TypeId × Value → H} {w : World} {fuel : Nat} {held : Bool} {l : List Value} {x : DataW H × List MemPlace} {spare : Nat → Bool}
    (h : DataW.trod enc Try.prog w 0 spare held fuel 24 l = some x) : ∀ i, i < 32 → ∃ n : Int, l[i]? = some (.int .u32 n) ∧ 0 ≤ n ∧ n < 4294967296 := by
  obtain ⟨ys, m, _, _, _, hyl, hf⟩ := DataW.trod_array Try.underlying24 h
  intro i hi
  have g := hf i hi
  rw [cellsUV, Nat.mul_one] at g
  rw [List.getElem?_eq_getElem (by omega)] at g
  obtain ⟨n, e, _, hw⟩ := DataW.trod_int Try.underlying23 g
  exact ⟨n, one_at e, wf_sv hw⟩
theorem open_u32 {H : Type} {enc : TypeId × Value → H} {w : World} {fuel : Nat} {held : Bool} {l : List Value} {i : Nat} {x : DataW H × List MemPlace} {spare : Nat → Bool}
    (h : DataW.trod enc Try.prog w 0 spare held fuel 23 ((l.drop i).take (Try.prog.cellsOf 23)) = some x) : ∃ n : Int, l[i]? = some (.int .u32 n) ∧ 0 ≤ n ∧ n < 4294967296 := by
  rw [cellsUV] at h
  obtain ⟨n, e, _, hw⟩ := DataW.trod_int Try.underlying23 h
  exact ⟨n, one_at e, wf_sv hw⟩
set_option maxRecDepth 20000 in
theorem open_state {H : Type} {enc : TypeId × Value → H} {w : World} {fuel : Nat} {held : Bool} {cs : Array Value} {x : DataW H × List MemPlace} {spare : Nat → Bool}
    (hs : cs.size = 37) (h : DataW.trod enc Try.prog w 0 spare held fuel 26 cs.toList = some x) : ∃ s : SV, cs = s.c ∧ s.ok := by
  obtain ⟨xs, k, hk, hxy, _, hxl, hf⟩ := DataW.trod_struct Try.underlying26 h
  match xs, hxl with
  | [y0, y1, y2, y3, y4, y5], _ =>
    obtain ⟨nh, e1, w1⟩ := open_u32 (hf 1 _ rfl)
    obtain ⟨nl, e2, w2⟩ := open_u32 (hf 2 _ rfl)
    obtain ⟨np, e3, w3⟩ := open_u32 (hf 3 _ rfl)
    obtain ⟨nn, e4, w4⟩ := open_u32 (hf 4 _ rfl)
    obtain ⟨bs, e5, _⟩ := DataW.trod_bool Try.underlying4 (show _ = some y5 from hf 5 _ rfl)
    have e5b : cs.toList[36]? = some (.bool bs) := one_at (by rw [← e5]; show _ = (cs.toList.drop 36).take (Try.prog.cellsOf 4); rw [cellsBV])
    have hR := open_regs (show DataW.trod enc Try.prog w 0 spare held k 24 _ = some y0 from hf 0 _ rfl)
    have hR2 : ∀ i, i < 32 → ∃ n : Int, cs.toList[i]? = some (.int .u32 n) ∧ 0 ≤ n ∧ n < 4294967296 := fun i hi => by
      obtain ⟨n, e, hw⟩ := hR i hi
      refine ⟨n, ?_, hw⟩
      have e2 : (((cs.toList.drop 0).take (Try.prog.cellsOf 24)))[i]? = some (.int .u32 n) := e
      rw [cellsRV, List.drop_zero, List.getElem?_take, if_pos hi] at e2
      exact e2
    have hlen : ((cs.toList.take 32).map numOf).length = 32 := by simp [hs]
    have hget : ∀ i, i < 32 → ∃ n : Int, cs.toList[i]? = some (.int .u32 n) ∧ ((cs.toList.take 32).map numOf).getD i 0 = n ∧ 0 ≤ n ∧ n < 4294967296 := fun i hi => by
      obtain ⟨n, e, hw⟩ := hR2 i hi
      refine ⟨n, e, ?_, hw⟩
      rw [List.getD_eq_getElem?_getD, List.getElem?_map, List.getElem?_take, if_pos hi, e]
      rfl
    refine ⟨⟨(cs.toList.take 32).map numOf, nh, nl, np, nn, bs⟩, ?_, hlen, fun i hi => ?_, w1, w2, w3, w4⟩
    · apply Array.ext_getElem?
      intro i
      rw [← Array.getElem?_toList]
      by_cases hi : i < 32
      · obtain ⟨n, e, e2, _⟩ := hget i hi
        rw [SV.getR hlen hi, e]
        show _ = some (Value.int .u32 (((cs.toList.take 32).map numOf).getD i 0))
        rw [e2]
      · rcases (show i = 32 ∨ i = 33 ∨ i = 34 ∨ i = 35 ∨ i = 36 ∨ 37 ≤ i by omega) with rfl | rfl | rfl | rfl | rfl | h37
        · exact e1.trans (SV.get_hi (s := ⟨(cs.toList.take 32).map numOf, nh, nl, np, nn, bs⟩) hlen).symm
        · exact e2.trans (SV.get_lo (s := ⟨(cs.toList.take 32).map numOf, nh, nl, np, nn, bs⟩) hlen).symm
        · exact e3.trans (SV.get_pc (s := ⟨(cs.toList.take 32).map numOf, nh, nl, np, nn, bs⟩) hlen).symm
        · exact e4.trans (SV.get_nx (s := ⟨(cs.toList.take 32).map numOf, nh, nl, np, nn, bs⟩) hlen).symm
        · exact e5b.trans (SV.get_sl (s := ⟨(cs.toList.take 32).map numOf, nh, nl, np, nn, bs⟩) hlen).symm
        · rw [List.getElem?_eq_none (by rw [Array.length_toList, hs]; exact h37), Array.getElem?_eq_none (by rw [SV.size hlen]; exact h37)]
    · obtain ⟨n, _, e2, hw⟩ := hget i hi
      rw [e2]
      exact hw
end Go.Proofs.Ytobnocioefchlaa
namespace Go.Proofs.Ytobnocioefchlaa
open Go.ChangeShapes Go.WideShapes Go.ChangeAt Go.RowKit
set_option linter.unusedVariables false
/-- Whether an instruction traps. -/
def trapB (op s t m : Int) : Bool :=
  if op = 9 then (addOv s t) else
  if op = 10 then (subOv s t) else
  if op = 29 then (!lt32 s t) else
  if op = 30 then (decide (t ≤ s)) else
  if op = 31 then (lt32 s t) else
  if op = 32 then (decide (s < t)) else
  if op = 33 then (s == t) else
  if op = 34 then (s != t) else
  if op = 41 then (addOv s m) else
  false
/-- Whether an instruction jumps. -/
def takeB (op s t m : Int) : Bool :=
  if op = 27 then (true) else
  if op = 28 then (true) else
  if op = 60 then (s == t) else
  if op = 61 then (s != t) else
  if op = 62 then (!lt32 0 s) else
  if op = 63 then (lt32 0 s) else
  if op = 64 then (lt32 s 0) else
  if op = 65 then (!lt32 s 0) else
  if op = 66 then (lt32 s 0) else
  if op = 67 then (!lt32 s 0) else
  if op = 68 then (true) else
  if op = 69 then (true) else
  false
/-- What the long registers are behind an instruction: HI, LO. -/
def longV (op s t hi lo : Int) : Int × Int :=
  if op = 19 then (mulHi (sg s) (sg t), mulLo (sg s) (sg t)) else
  if op = 20 then (mulHi s t, mulLo s t) else
  if op = 21 then (if t = 0 then (0, 0) else (remT s t, quoT s t)) else
  if op = 22 then (if t = 0 then (0, 0) else (s % t, s / t)) else
  if op = 25 then (s, lo) else
  if op = 26 then (hi, s) else
  (hi, lo)
/-- Into which register an instruction puts something. -/
def writeV (op T D : Int) : Int :=
  if 1 ≤ op ∧ op ≤ 18 ∨ op = 23 ∨ op = 24 ∨ op = 28 ∨ 37 ≤ op ∧ op ≤ 39 then D else
  if 40 ≤ op ∧ op ≤ 54 then T else
  if op = 66 ∨ op = 67 ∨ op = 69 then 31 else 0
theorem lt0s (s : Int) : (!lt32 0 s) = decide (sg s ≤ 0) := by
  have : sg 0 = 0 := by decide
  unfold lt32; rw [this]; by_cases h : 0 < sg s <;> simp [h] <;> omega
theorem lt0p (s : Int) : lt32 0 s = decide (0 < sg s) := by
  have : sg 0 = 0 := by decide
  unfold lt32; rw [this]
theorem lts0 (s : Int) : lt32 s 0 = decide (sg s < 0) := by
  have : sg 0 = 0 := by decide
  unfold lt32; rw [this]
theorem lts0n (s : Int) : (!lt32 s 0) = decide (0 ≤ sg s) := by
  have : sg 0 = 0 := by decide
  unfold lt32; rw [this]; by_cases h : sg s < 0 <;> simp [h] <;> omega
theorem ret_boolB {a b : Bool} (h : a = b) : Ending.returned (.bool a) = .returned (.bool b) := by rw [h]
theorem notdec (s t : Int) : (!lt32 s t) = !decide (sg s < sg t) := rfl
end Go.Proofs.Ytobnocioefchlaa
namespace Go.Proofs.Ytobnocioefchlaa
open Go.ChangeShapes Go.WideShapes Go.ChangeAt Go.RowKit
set_option linter.unusedVariables false
set_option maxRecDepth 20000 in
theorem store_other (w : World) (s : MS) (h : MemW w s) (op S T D A imm : Int) (h1 : (op == 55) = false) (h2 : (op == 56) = false) (h3 : (op == 58) = false) (h4 : (op == 57) = false) (h5 : (op == 59) = false) (a v : Nat) (hv : v < 4294967296) : Calls Try.prog 52 #[.pointer (some ⟨s.mb, 0, none⟩), .agg (insC op S T D A imm), .int .u32 (a : Int), .int .u32 (v : Int)] w fun e w' => e = .returned (.tuple #[]) ∧ Step w s w' s := by
  have H0 := hidden h
  have hI := Blk.new w (insC op S T D A imm) 62
  have HI := hidden hI
  have HB := hidden (below_new w (.cells (insC op S T D A imm) 62))
  have HC := hidden (acut_any v hv (w.alloc (.cells (insC op S T D A imm) 62)))
  obtain ⟨b0, b1, b2, b3, hbl⟩ : ∃ b0 b1 b2 b3, bytesL v = [b0, b1, b2, b3] := ⟨_, _, _, _, rfl⟩
  rw [hbl] at HC
  change Hid (Calls Try.prog 76 _ _ fun e w' => e = .returned (.agg #[.int .u8 (b0.toNat : Int), .int .u8 (b1.toNat : Int), .int .u8 (b2.toNat : Int), .int .u8 (b3.toNat : Int)]) ∧ _) at HC
  clear h hI hbl
  go_enter Try.func52, Try.ntmps52
  go_wp2_with (go_at_call 76; refine HC.out.mono ?_; rintro e w1 ⟨rfl, hb1⟩; have c1 : ∀ o : Obj, (w1.alloc o).cell? ⟨w.heap.size, 0, none⟩ = some (.int .i64 op) := (fun o => ((HI.out.later hb1).later (below_new w1 o)).cell rfl); have HB1 := hidden (HB.out.trans (hb1.mono HB.out.size)); clear hb1)
  first | go_end0 | refine bodyPost_ret (results_none rfl _ _ _) rfl ?_
  have hb2 := below_new w1 (.cells #[.int .u8 (b0.toNat : Int), .int .u8 (b1.toNat : Int), .int .u8 (b2.toNat : Int), .int .u8 (b3.toNat : Int)] 145)
  exact ⟨rfl, Step.later H0.out (HB1.out.trans (hb2.mono HB1.out.size))⟩
theorem accStore_any (w : World) (s : MS) (h : MemW w s) (op S T D A imm : Int) (a v : Nat) (ha : a < 4294967296) (hv : v < 4294967296) (hc : s.c + 4 ≤ 1099511627776) : Calls Try.prog 52 #[.pointer (some ⟨s.mb, 0, none⟩), .agg (insC op S T D A imm), .int .u32 (a : Int), .int .u32 (v : Int)] w fun e w' => e = .returned (.tuple #[]) ∧ ∃ s', PokesTo s (storeL op a v) s' ∧ Step w s w' s' := by
  by_cases h55 : op = 55
  · subst h55; exact store_55 w s h S T D A imm a v ha hv hc
  by_cases h56 : op = 56
  · subst h56; exact store_56 w s h S T D A imm a v ha hv hc
  by_cases h58 : op = 58
  · subst h58; exact store_58 w s h S T D A imm a v ha hv hc
  have hq : a = 4 * (a / 4) + a % 4 := by omega
  have hq4 : a - a % 4 = 4 * (a / 4) := by omega
  by_cases h57 : op = 57
  · subst h57
    rw [show storeL 57 a v = placesL a ((bytesL v).take (4 - a % 4)) from rfl]
    generalize a / 4 = q at hq hq4 ⊢
    rcases (show a % 4 = 0 ∨ a % 4 = 1 ∨ a % 4 = 2 ∨ a % 4 = 3 by omega) with e | e | e | e
    · rw [e] at hq ⊢; subst hq; exact store_swl0 w s h S T D A imm q v ha hv hc
    · rw [e] at hq ⊢; subst hq; exact store_swl1 w s h S T D A imm q v ha hv hc
    · rw [e] at hq ⊢; subst hq; exact store_swl2 w s h S T D A imm q v ha hv hc
    · rw [e] at hq ⊢; subst hq; exact store_swl3 w s h S T D A imm q v ha hv hc
  by_cases h59 : op = 59
  · subst h59
    rw [show storeL 59 a v = placesL (a - a % 4) ((bytesL v).drop (3 - a % 4)) from rfl, hq4]
    generalize a / 4 = q at hq hq4 ⊢
    rcases (show a % 4 = 0 ∨ a % 4 = 1 ∨ a % 4 = 2 ∨ a % 4 = 3 by omega) with e | e | e | e
    · rw [e] at hq ⊢; subst hq; exact store_swr0 w s h S T D A imm q v ha hv hc
    · rw [e] at hq ⊢; subst hq; exact store_swr1 w s h S T D A imm q v ha hv hc
    · rw [e] at hq ⊢; subst hq; exact store_swr2 w s h S T D A imm q v ha hv hc
    · rw [e] at hq ⊢; subst hq; exact store_swr3 w s h S T D A imm q v ha hv hc
  have e : storeL op a v = [] := by unfold storeL; rw [if_neg h55, if_neg h56, if_neg h58, if_neg h57, if_neg h59]
  rw [e]
  exact (store_other w s h op S T D A imm (beq_eq_false_iff_ne.2 h55) (beq_eq_false_iff_ne.2 h56) (beq_eq_false_iff_ne.2 h58) (beq_eq_false_iff_ne.2 h57) (beq_eq_false_iff_ne.2 h59) a v hv).mono fun e w' ⟨h1, h2⟩ => ⟨h1, s, rfl, h2⟩
end Go.Proofs.Ytobnocioefchlaa

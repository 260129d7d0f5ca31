/- What instructions write: a word's bytes, and bytes put one behind the other. -/
import Derived.Test.YtobnocioefchlaaPMAN
import Derived.Test.YtobnocioefchlaaPMAL
import Derived.Test.YtobnocioefchlaaPMAY
namespace Go.Proofs.Ytobnocioefchlaa
open Go.ChangeShapes Go.WideShapes Go.ChangeAt Go.RowKit
set_option linter.unusedVariables false
/-- A word's bytes, the highest first. -/
def bytesL (v : Nat) : List UInt8 := [UInt8.ofNat (v / 16777216), UInt8.ofNat (v / 65536), UInt8.ofNat (v / 256), UInt8.ofNat v]
theorem sizeB4 : (Try.prog.info? 145).map (·.size) = some 4 := by kernel_rfl
theorem byte_int (n : Nat) : (((UInt8.ofNat n).toNat : Nat) : Int) = (n : Int) % 256 := by
  rw [UInt8.toNat_ofNat']
  omega
abbrev b4C (v : Nat) : Array Value := #[.int .u8 ((v : Int) / 16777216), .int .u8 ((v : Int) / 65536 % 256), .int .u8 ((v : Int) / 256 % 256), .int .u8 ((v : Int) % 256)]
theorem b4_eq (v : Nat) (hv : v < 4294967296) : b4C v = (cellsU (bytesL v)).toArray := by
  have e0 : (((UInt8.ofNat (v / 16777216)).toNat : Nat) : Int) = (v : Int) / 16777216 := by rw [byte_int]; omega
  have e1 : (((UInt8.ofNat (v / 65536)).toNat : Nat) : Int) = (v : Int) / 65536 % 256 := by rw [byte_int]; omega
  have e2 : (((UInt8.ofNat (v / 256)).toNat : Nat) : Int) = (v : Int) / 256 % 256 := by rw [byte_int]; omega
  have e3 : (((UInt8.ofNat v).toNat : Nat) : Int) = (v : Int) % 256 := byte_int v
  unfold b4C
  rw [← e0, ← e1, ← e2, ← e3]
  rfl
set_option maxRecDepth 20000 in
theorem acut_any (v : Nat) (hv : v < 4294967296) (w : World) : Calls Try.prog 76 #[.int .u32 (v : Int)] w fun e w' => e = .returned (.agg (cellsU (bytesL v)).toArray) ∧ Below w.heap.size w w' := by
  go_enter Try.func76, Try.ntmps76
  go_wp2
  go_rounds 5
  have hb := below_new w (.cells (b4C v) 145)
  have hb2 := below_new (w.alloc (.cells (b4C v) 145)) (.cells (b4C v) 145)
  refine bodyPost_ret (results_cell_row rfl _ _ w.heap.size 145 (b4C v) (0, 0) _ rfl ((Blk.new w _ _).later hb2) Try.underlying145 rfl sizeB4) rfl ⟨by rw [b4_eq v hv], hb.trans (hb2.mono hb.size)⟩
/-- Bytes of a memory's own or another's block. -/
structure At (w : World) (g o : Nat) (bl : List UInt8) : Prop where
  lt : g < w.heap.size
  cell : ∀ j, j < bl.length → w.cell? ⟨g, o + j, none⟩ = some (.int .u8 ((bl.getD j 0).toNat : Int))
theorem At.same {w w' : World} {g o : Nat} {bl : List UInt8} (h : At w g o bl) (hl : g < w'.heap.size) (hb : w'.heap[g]? = w.heap[g]?) : At w' g o bl := ⟨hl, fun j hj => by
  have := h.cell j hj
  rw [← this]
  unfold World.cell?
  rw [hb]⟩
theorem aput_any (w : World) (s : MS) (h : MemW w s) (a : Nat) (ha : a < 4294967296) (g o c : Nat) (bl : List UInt8) (hat : At w g o bl) (hg : ¬ foot s g) (hn : bl.length ≤ 4) (hc : s.c + 4 ≤ 1099511627776) : Calls Try.prog 77 #[.pointer (some ⟨s.mb, 0, none⟩), .int .u32 (a : Int), .slice (some ⟨g, o, none⟩) bl.length c] w fun e w' => e = .returned (.tuple #[]) ∧ ∃ s', PokesTo s (placesL a bl) s' ∧ Step w s w' s' := by
  have H := hidden hat
  have HG := hidden hg
  have HM := hidden h
  have HC := hidden hc
  clear hat hg h hc
  go_enter Try.func77, Try.ntmps77
  go_wp2
  go_loopw [10] (fun i wr => ∃ (q : Nat) (s' : MS), q ≤ bl.length ∧ i = .int .i64 (q : Int) ∧ PokesTo s ((placesL a bl).take q) s' ∧ Step w s wr s') (fun i _ => bl.length - (intOf i).toNat)
  case atStart => exact ⟨0, s, by omega, rfl, rfl, Step.refl HM.out⟩
  case round =>
    obtain ⟨q, s', hq, rfl, hP, hS⟩ := hrel
    have HP := hidden hP
    have HS := hidden hS
    clear hP hS
    by_cases hql : q < bl.length
    · have hlt : (q : Int) < (bl.length : Int) := by omega
      have h0 : (0 : Int) ≤ (q : Int) := by omega
      have hsame := HS.out.keep.block g H.out.lt HG.out
      have hcell := (H.out.same (Nat.lt_of_lt_of_le H.out.lt HS.out.keep.size) hsame).cell q hql
      have hcc : s'.c < 1099511627776 := by
        have h1 := HP.out.c
        have h2 : ((placesL a bl).take q).length ≤ 3 := by rw [List.length_take]; omega
        have h3 := HC.out
        omega
      have HK := hidden (poke_any wr s' (wrapAt a q) (bl.getD q 0) HS.out.mem (wrapAt_lt a q) hcc)
      rw [HP.out.mb] at HK
      have ew : ((a : Int) + (q : Int)) % 4294967296 = ((wrapAt a q : Nat) : Int) := by unfold wrapAt; omega
      have HT := hidden (placesL_take a bl q hql)
      generalize wrapAt a q = p at *
      generalize bl.getD q 0 = b at *
      clear hsame hcc
      go_wp2_with (go_at_call 21; refine HK.out.mono ?_; rintro e w1 ⟨rfl, tv, hst⟩; have HST := hidden hst; clear hst)
      exact ⟨⟨q + 1, _, by omega, by simp, by rw [HT.out]; exact HP.out.snoc (p, b) tv, HS.out.trans HST.out⟩, by simp [intOf]; omega⟩
    · have heq : q = bl.length := by omega
      have hP2 := HP.out
      rw [heq, placesL_all] at hP2
      have HP2 := hidden hP2
      have hge : ¬ (q : Int) < (bl.length : Int) := by omega
      clear hP2
      go_wp2
      first | go_end0 | refine bodyPost_ret (results_none rfl _ _ _) rfl ?_
      exact ⟨rfl, s', HP2.out, HS.out⟩
theorem At.of {w : World} {g : Nat} {b0 b1 b2 b3 : UInt8} {T : TypeId} (h : Blk w g #[.int .u8 (b0.toNat : Int), .int .u8 (b1.toNat : Int), .int .u8 (b2.toNat : Int), .int .u8 (b3.toNat : Int)] T) (o n : Nat) (hn : o + n ≤ 4) : At w g o (([b0, b1, b2, b3].drop o).take n) := by
  refine ⟨h.lt, fun j hj => ?_⟩
  rw [List.length_take, List.length_drop] at hj
  have hl : o + j < 4 := by simp at hj; omega
  refine h.cell ?_
  have e : (([b0, b1, b2, b3].drop o).take n).getD j 0 = [b0, b1, b2, b3].getD (o + j) 0 := by
    rw [List.getD_eq_getElem?_getD, List.getElem?_take_of_lt (by omega), List.getElem?_drop, ← List.getD_eq_getElem?_getD]
  rw [e]
  rcases (show o + j = 0 ∨ o + j = 1 ∨ o + j = 2 ∨ o + j = 3 by omega) with e | e | e | e <;> rw [e] <;> rfl
/-- What an instruction writes: places and bytes, in order. -/
def storeL (op : Int) (a v : Nat) : List (Nat × UInt8) :=
  if op = 55 then placesL a ((bytesL v).drop 3)
  else if op = 56 then placesL a ((bytesL v).drop 2)
  else if op = 58 then placesL a (bytesL v)
  else if op = 57 then placesL a ((bytesL v).take (4 - a % 4))
  else if op = 59 then placesL (a - a % 4) ((bytesL v).drop (3 - a % 4))
  else []
theorem step_put {w w1 w2 w4 : World} {s s' : MS} (h : MemW w s) (b1 : Below w.heap.size w w1) (b2 : Below w1.heap.size w1 w2) (st : Step w2 s w4 s') : Step w s w4 s' := (Step.later h (b1.trans (b2.mono b1.size))).trans st
set_option maxRecDepth 20000 in
set_option maxHeartbeats 1000000 in
theorem store_55 (w : World) (s : MS) (h : MemW w s) (S T D A imm : Int) (a v : Nat) (ha : a < 4294967296) (hv : v < 4294967296) (hc : s.c + 4 ≤ 1099511627776) : Calls Try.prog 52 #[.pointer (some ⟨s.mb, 0, none⟩), .agg (insC 55 S T D A imm), .int .u32 ((a : Nat) : Int), .int .u32 (v : Int)] w fun e w' => e = .returned (.tuple #[]) ∧ ∃ s', PokesTo s (placesL a ((bytesL v).drop 3)) s' ∧ Step w s w' s' := by
  have H0 := hidden h
  have hI := Blk.new w (insC 55 S T D A imm) 62
  have HI := hidden hI
  have HB := hidden (below_new w (.cells (insC 55 S T D A imm) 62))
  have HM := hidden (h.alloc (.cells (insC 55 S T D A imm) 62))
  have HC := hidden (acut_any v hv (w.alloc (.cells (insC 55 S T D A imm) 62)))
  have HCC := hidden hc
  obtain ⟨b0, b1, b2, b3, hbl⟩ : ∃ b0 b1 b2 b3, bytesL v = [b0, b1, b2, b3] := ⟨_, _, _, _, rfl⟩
  rw [hbl] at HC ⊢
  change Hid (Calls Try.prog 76 _ _ fun e w' => e = .returned (.agg #[.int .u8 (b0.toNat : Int), .int .u8 (b1.toNat : Int), .int .u8 (b2.toNat : Int), .int .u8 (b3.toNat : Int)]) ∧ _) at HC
  clear h hI hbl hc
  have HPUT := hidden (fun (w1 : World) (hm : MemW w1 s) => aput_any _ s (hm.alloc (.cells #[.int .u8 (b0.toNat : Int), .int .u8 (b1.toNat : Int), .int .u8 (b2.toNat : Int), .int .u8 (b3.toNat : Int)] 145)) a ha w1.heap.size 3 1 (([b0, b1, b2, b3].drop 3).take 1) (At.of (Blk.new w1 _ 145) 3 1 (by decide)) (fun hf => Nat.lt_irrefl _ (hm.lt hf)) (by simp) HCC.out)
  go_enter Try.func52, Try.ntmps52
  go_wp2_with (first | (go_at_call 76; refine HC.out.mono ?_; rintro e w1 ⟨rfl, hb1⟩; have c1 : ∀ o : Obj, (w1.alloc o).cell? ⟨w.heap.size, 0, none⟩ = some (.int .i64 55) := (fun o => ((HI.out.later hb1).later (below_new w1 o)).cell rfl); have HB1 := hidden (HB.out.trans (hb1.mono HB.out.size)); have HM1 := hidden (HM.out.later hb1); clear hb1) | (go_at_call 77; refine (HPUT.out _ HM1.out).mono ?_; rintro e w4 ⟨rfl, s', hp, hst⟩; have HP := hidden hp; have HS := hidden (step_put H0.out HB1.out (below_new w1 _) hst); clear hp hst))
  first | go_end0 | refine bodyPost_ret (results_none rfl _ _ _) rfl ?_
  exact ⟨rfl, s', HP.out, HS.out⟩
set_option maxRecDepth 20000 in
set_option maxHeartbeats 1000000 in
theorem store_56 (w : World) (s : MS) (h : MemW w s) (S T D A imm : Int) (a v : Nat) (ha : a < 4294967296) (hv : v < 4294967296) (hc : s.c + 4 ≤ 1099511627776) : Calls Try.prog 52 #[.pointer (some ⟨s.mb, 0, none⟩), .agg (insC 56 S T D A imm), .int .u32 ((a : Nat) : Int), .int .u32 (v : Int)] w fun e w' => e = .returned (.tuple #[]) ∧ ∃ s', PokesTo s (placesL a ((bytesL v).drop 2)) s' ∧ Step w s w' s' := by
  have H0 := hidden h
  have hI := Blk.new w (insC 56 S T D A imm) 62
  have HI := hidden hI
  have HB := hidden (below_new w (.cells (insC 56 S T D A imm) 62))
  have HM := hidden (h.alloc (.cells (insC 56 S T D A imm) 62))
  have HC := hidden (acut_any v hv (w.alloc (.cells (insC 56 S T D A imm) 62)))
  have HCC := hidden hc
  obtain ⟨b0, b1, b2, b3, hbl⟩ : ∃ b0 b1 b2 b3, bytesL v = [b0, b1, b2, b3] := ⟨_, _, _, _, rfl⟩
  rw [hbl] at HC ⊢
  change Hid (Calls Try.prog 76 _ _ fun e w' => e = .returned (.agg #[.int .u8 (b0.toNat : Int), .int .u8 (b1.toNat : Int), .int .u8 (b2.toNat : Int), .int .u8 (b3.toNat : Int)]) ∧ _) at HC
  clear h hI hbl hc
  have HPUT := hidden (fun (w1 : World) (hm : MemW w1 s) => aput_any _ s (hm.alloc (.cells #[.int .u8 (b0.toNat : Int), .int .u8 (b1.toNat : Int), .int .u8 (b2.toNat : Int), .int .u8 (b3.toNat : Int)] 145)) a ha w1.heap.size 2 2 (([b0, b1, b2, b3].drop 2).take 2) (At.of (Blk.new w1 _ 145) 2 2 (by decide)) (fun hf => Nat.lt_irrefl _ (hm.lt hf)) (by simp) HCC.out)
  go_enter Try.func52, Try.ntmps52
  go_wp2_with (first | (go_at_call 76; refine HC.out.mono ?_; rintro e w1 ⟨rfl, hb1⟩; have c1 : ∀ o : Obj, (w1.alloc o).cell? ⟨w.heap.size, 0, none⟩ = some (.int .i64 56) := (fun o => ((HI.out.later hb1).later (below_new w1 o)).cell rfl); have HB1 := hidden (HB.out.trans (hb1.mono HB.out.size)); have HM1 := hidden (HM.out.later hb1); clear hb1) | (go_at_call 77; refine (HPUT.out _ HM1.out).mono ?_; rintro e w4 ⟨rfl, s', hp, hst⟩; have HP := hidden hp; have HS := hidden (step_put H0.out HB1.out (below_new w1 _) hst); clear hp hst))
  first | go_end0 | refine bodyPost_ret (results_none rfl _ _ _) rfl ?_
  exact ⟨rfl, s', HP.out, HS.out⟩
set_option maxRecDepth 20000 in
set_option maxHeartbeats 1000000 in
theorem store_58 (w : World) (s : MS) (h : MemW w s) (S T D A imm : Int) (a v : Nat) (ha : a < 4294967296) (hv : v < 4294967296) (hc : s.c + 4 ≤ 1099511627776) : Calls Try.prog 52 #[.pointer (some ⟨s.mb, 0, none⟩), .agg (insC 58 S T D A imm), .int .u32 ((a : Nat) : Int), .int .u32 (v : Int)] w fun e w' => e = .returned (.tuple #[]) ∧ ∃ s', PokesTo s (placesL a (bytesL v)) s' ∧ Step w s w' s' := by
  have H0 := hidden h
  have hI := Blk.new w (insC 58 S T D A imm) 62
  have HI := hidden hI
  have HB := hidden (below_new w (.cells (insC 58 S T D A imm) 62))
  have HM := hidden (h.alloc (.cells (insC 58 S T D A imm) 62))
  have HC := hidden (acut_any v hv (w.alloc (.cells (insC 58 S T D A imm) 62)))
  have HCC := hidden hc
  obtain ⟨b0, b1, b2, b3, hbl⟩ : ∃ b0 b1 b2 b3, bytesL v = [b0, b1, b2, b3] := ⟨_, _, _, _, rfl⟩
  rw [hbl] at HC ⊢
  change Hid (Calls Try.prog 76 _ _ fun e w' => e = .returned (.agg #[.int .u8 (b0.toNat : Int), .int .u8 (b1.toNat : Int), .int .u8 (b2.toNat : Int), .int .u8 (b3.toNat : Int)]) ∧ _) at HC
  clear h hI hbl hc
  have HPUT := hidden (fun (w1 : World) (hm : MemW w1 s) => aput_any _ s (hm.alloc (.cells #[.int .u8 (b0.toNat : Int), .int .u8 (b1.toNat : Int), .int .u8 (b2.toNat : Int), .int .u8 (b3.toNat : Int)] 145)) a ha w1.heap.size 0 4 (([b0, b1, b2, b3].drop 0).take 4) (At.of (Blk.new w1 _ 145) 0 4 (by decide)) (fun hf => Nat.lt_irrefl _ (hm.lt hf)) (by simp) HCC.out)
  go_enter Try.func52, Try.ntmps52
  go_wp2_with (first | (go_at_call 76; refine HC.out.mono ?_; rintro e w1 ⟨rfl, hb1⟩; have c1 : ∀ o : Obj, (w1.alloc o).cell? ⟨w.heap.size, 0, none⟩ = some (.int .i64 58) := (fun o => ((HI.out.later hb1).later (below_new w1 o)).cell rfl); have HB1 := hidden (HB.out.trans (hb1.mono HB.out.size)); have HM1 := hidden (HM.out.later hb1); clear hb1) | (go_at_call 77; refine (HPUT.out _ HM1.out).mono ?_; rintro e w4 ⟨rfl, s', hp, hst⟩; have HP := hidden hp; have HS := hidden (step_put H0.out HB1.out (below_new w1 _) hst); clear hp hst))
  first | go_end0 | refine bodyPost_ret (results_none rfl _ _ _) rfl ?_
  exact ⟨rfl, s', HP.out, HS.out⟩
set_option maxRecDepth 20000 in
set_option maxHeartbeats 1000000 in
theorem store_swl0 (w : World) (s : MS) (h : MemW w s) (S T D A imm : Int) (q v : Nat) (ha : 4 * q + 0 < 4294967296) (hv : v < 4294967296) (hc : s.c + 4 ≤ 1099511627776) : Calls Try.prog 52 #[.pointer (some ⟨s.mb, 0, none⟩), .agg (insC 57 S T D A imm), .int .u32 ((4 * q + 0 : Nat) : Int), .int .u32 (v : Int)] w fun e w' => e = .returned (.tuple #[]) ∧ ∃ s', PokesTo s (placesL (4 * q + 0) ((bytesL v).take 4)) s' ∧ Step w s w' s' := by
  have H0 := hidden h
  have hI := Blk.new w (insC 57 S T D A imm) 62
  have HI := hidden hI
  have HB := hidden (below_new w (.cells (insC 57 S T D A imm) 62))
  have HM := hidden (h.alloc (.cells (insC 57 S T D A imm) 62))
  have HC := hidden (acut_any v hv (w.alloc (.cells (insC 57 S T D A imm) 62)))
  have HCC := hidden hc
  have e1 : ((4 * q + 0 : Nat) : Int) % 4 = 0 := by omega
  obtain ⟨b0, b1, b2, b3, hbl⟩ : ∃ b0 b1 b2 b3, bytesL v = [b0, b1, b2, b3] := ⟨_, _, _, _, rfl⟩
  rw [hbl] at HC ⊢
  change Hid (Calls Try.prog 76 _ _ fun e w' => e = .returned (.agg #[.int .u8 (b0.toNat : Int), .int .u8 (b1.toNat : Int), .int .u8 (b2.toNat : Int), .int .u8 (b3.toNat : Int)]) ∧ _) at HC
  clear h hI hbl hc
  obtain ⟨a, hq⟩ : ∃ a, a = 4 * q + 0 := ⟨_, rfl⟩
  rw [← hq] at ha e1 ⊢
  clear hq
  have HPUT := hidden (fun (w1 : World) (hm : MemW w1 s) => aput_any _ s (hm.alloc (.cells #[.int .u8 (b0.toNat : Int), .int .u8 (b1.toNat : Int), .int .u8 (b2.toNat : Int), .int .u8 (b3.toNat : Int)] 145)) a ha w1.heap.size 0 4 (([b0, b1, b2, b3].drop 0).take 4) (At.of (Blk.new w1 _ 145) 0 4 (by decide)) (fun hf => Nat.lt_irrefl _ (hm.lt hf)) (by simp) HCC.out)
  go_enter Try.func52, Try.ntmps52
  go_wp2_with (first | (go_at_call 76; refine HC.out.mono ?_; rintro e w1 ⟨rfl, hb1⟩; have c1 : ∀ o : Obj, (w1.alloc o).cell? ⟨w.heap.size, 0, none⟩ = some (.int .i64 57) := (fun o => ((HI.out.later hb1).later (below_new w1 o)).cell rfl); have HB1 := hidden (HB.out.trans (hb1.mono HB.out.size)); have HM1 := hidden (HM.out.later hb1); clear hb1) | (go_at_call 77; refine (HPUT.out _ HM1.out).mono ?_; rintro e w4 ⟨rfl, s', hp, hst⟩; have HP := hidden hp; have HS := hidden (step_put H0.out HB1.out (below_new w1 _) hst); clear hp hst))
  first | go_end0 | refine bodyPost_ret (results_none rfl _ _ _) rfl ?_
  exact ⟨rfl, s', HP.out, HS.out⟩
set_option maxRecDepth 20000 in
set_option maxHeartbeats 1000000 in
theorem store_swl1 (w : World) (s : MS) (h : MemW w s) (S T D A imm : Int) (q v : Nat) (ha : 4 * q + 1 < 4294967296) (hv : v < 4294967296) (hc : s.c + 4 ≤ 1099511627776) : Calls Try.prog 52 #[.pointer (some ⟨s.mb, 0, none⟩), .agg (insC 57 S T D A imm), .int .u32 ((4 * q + 1 : Nat) : Int), .int .u32 (v : Int)] w fun e w' => e = .returned (.tuple #[]) ∧ ∃ s', PokesTo s (placesL (4 * q + 1) ((bytesL v).take 3)) s' ∧ Step w s w' s' := by
  have H0 := hidden h
  have hI := Blk.new w (insC 57 S T D A imm) 62
  have HI := hidden hI
  have HB := hidden (below_new w (.cells (insC 57 S T D A imm) 62))
  have HM := hidden (h.alloc (.cells (insC 57 S T D A imm) 62))
  have HC := hidden (acut_any v hv (w.alloc (.cells (insC 57 S T D A imm) 62)))
  have HCC := hidden hc
  have e1 : ((4 * q + 1 : Nat) : Int) % 4 = 1 := by omega
  obtain ⟨b0, b1, b2, b3, hbl⟩ : ∃ b0 b1 b2 b3, bytesL v = [b0, b1, b2, b3] := ⟨_, _, _, _, rfl⟩
  rw [hbl] at HC ⊢
  change Hid (Calls Try.prog 76 _ _ fun e w' => e = .returned (.agg #[.int .u8 (b0.toNat : Int), .int .u8 (b1.toNat : Int), .int .u8 (b2.toNat : Int), .int .u8 (b3.toNat : Int)]) ∧ _) at HC
  clear h hI hbl hc
  obtain ⟨a, hq⟩ : ∃ a, a = 4 * q + 1 := ⟨_, rfl⟩
  rw [← hq] at ha e1 ⊢
  clear hq
  have HPUT := hidden (fun (w1 : World) (hm : MemW w1 s) => aput_any _ s (hm.alloc (.cells #[.int .u8 (b0.toNat : Int), .int .u8 (b1.toNat : Int), .int .u8 (b2.toNat : Int), .int .u8 (b3.toNat : Int)] 145)) a ha w1.heap.size 0 4 (([b0, b1, b2, b3].drop 0).take 3) (At.of (Blk.new w1 _ 145) 0 3 (by decide)) (fun hf => Nat.lt_irrefl _ (hm.lt hf)) (by simp) HCC.out)
  go_enter Try.func52, Try.ntmps52
  go_wp2_with (first | (go_at_call 76; refine HC.out.mono ?_; rintro e w1 ⟨rfl, hb1⟩; have c1 : ∀ o : Obj, (w1.alloc o).cell? ⟨w.heap.size, 0, none⟩ = some (.int .i64 57) := (fun o => ((HI.out.later hb1).later (below_new w1 o)).cell rfl); have HB1 := hidden (HB.out.trans (hb1.mono HB.out.size)); have HM1 := hidden (HM.out.later hb1); clear hb1) | (go_at_call 77; refine (HPUT.out _ HM1.out).mono ?_; rintro e w4 ⟨rfl, s', hp, hst⟩; have HP := hidden hp; have HS := hidden (step_put H0.out HB1.out (below_new w1 _) hst); clear hp hst))
  first | go_end0 | refine bodyPost_ret (results_none rfl _ _ _) rfl ?_
  exact ⟨rfl, s', HP.out, HS.out⟩
set_option maxRecDepth 20000 in
set_option maxHeartbeats 1000000 in
theorem store_swl2 (w : World) (s : MS) (h : MemW w s) (S T D A imm : Int) (q v : Nat) (ha : 4 * q + 2 < 4294967296) (hv : v < 4294967296) (hc : s.c + 4 ≤ 1099511627776) : Calls Try.prog 52 #[.pointer (some ⟨s.mb, 0, none⟩), .agg (insC 57 S T D A imm), .int .u32 ((4 * q + 2 : Nat) : Int), .int .u32 (v : Int)] w fun e w' => e = .returned (.tuple #[]) ∧ ∃ s', PokesTo s (placesL (4 * q + 2) ((bytesL v).take 2)) s' ∧ Step w s w' s' := by
  have H0 := hidden h
  have hI := Blk.new w (insC 57 S T D A imm) 62
  have HI := hidden hI
  have HB := hidden (below_new w (.cells (insC 57 S T D A imm) 62))
  have HM := hidden (h.alloc (.cells (insC 57 S T D A imm) 62))
  have HC := hidden (acut_any v hv (w.alloc (.cells (insC 57 S T D A imm) 62)))
  have HCC := hidden hc
  have e1 : ((4 * q + 2 : Nat) : Int) % 4 = 2 := by omega
  obtain ⟨b0, b1, b2, b3, hbl⟩ : ∃ b0 b1 b2 b3, bytesL v = [b0, b1, b2, b3] := ⟨_, _, _, _, rfl⟩
  rw [hbl] at HC ⊢
  change Hid (Calls Try.prog 76 _ _ fun e w' => e = .returned (.agg #[.int .u8 (b0.toNat : Int), .int .u8 (b1.toNat : Int), .int .u8 (b2.toNat : Int), .int .u8 (b3.toNat : Int)]) ∧ _) at HC
  clear h hI hbl hc
  obtain ⟨a, hq⟩ : ∃ a, a = 4 * q + 2 := ⟨_, rfl⟩
  rw [← hq] at ha e1 ⊢
  clear hq
  have HPUT := hidden (fun (w1 : World) (hm : MemW w1 s) => aput_any _ s (hm.alloc (.cells #[.int .u8 (b0.toNat : Int), .int .u8 (b1.toNat : Int), .int .u8 (b2.toNat : Int), .int .u8 (b3.toNat : Int)] 145)) a ha w1.heap.size 0 4 (([b0, b1, b2, b3].drop 0).take 2) (At.of (Blk.new w1 _ 145) 0 2 (by decide)) (fun hf => Nat.lt_irrefl _ (hm.lt hf)) (by simp) HCC.out)
  go_enter Try.func52, Try.ntmps52
  go_wp2_with (first | (go_at_call 76; refine HC.out.mono ?_; rintro e w1 ⟨rfl, hb1⟩; have c1 : ∀ o : Obj, (w1.alloc o).cell? ⟨w.heap.size, 0, none⟩ = some (.int .i64 57) := (fun o => ((HI.out.later hb1).later (below_new w1 o)).cell rfl); have HB1 := hidden (HB.out.trans (hb1.mono HB.out.size)); have HM1 := hidden (HM.out.later hb1); clear hb1) | (go_at_call 77; refine (HPUT.out _ HM1.out).mono ?_; rintro e w4 ⟨rfl, s', hp, hst⟩; have HP := hidden hp; have HS := hidden (step_put H0.out HB1.out (below_new w1 _) hst); clear hp hst))
  first | go_end0 | refine bodyPost_ret (results_none rfl _ _ _) rfl ?_
  exact ⟨rfl, s', HP.out, HS.out⟩
set_option maxRecDepth 20000 in
set_option maxHeartbeats 1000000 in
theorem store_swl3 (w : World) (s : MS) (h : MemW w s) (S T D A imm : Int) (q v : Nat) (ha : 4 * q + 3 < 4294967296) (hv : v < 4294967296) (hc : s.c + 4 ≤ 1099511627776) : Calls Try.prog 52 #[.pointer (some ⟨s.mb, 0, none⟩), .agg (insC 57 S T D A imm), .int .u32 ((4 * q + 3 : Nat) : Int), .int .u32 (v : Int)] w fun e w' => e = .returned (.tuple #[]) ∧ ∃ s', PokesTo s (placesL (4 * q + 3) ((bytesL v).take 1)) s' ∧ Step w s w' s' := by
  have H0 := hidden h
  have hI := Blk.new w (insC 57 S T D A imm) 62
  have HI := hidden hI
  have HB := hidden (below_new w (.cells (insC 57 S T D A imm) 62))
  have HM := hidden (h.alloc (.cells (insC 57 S T D A imm) 62))
  have HC := hidden (acut_any v hv (w.alloc (.cells (insC 57 S T D A imm) 62)))
  have HCC := hidden hc
  have e1 : ((4 * q + 3 : Nat) : Int) % 4 = 3 := by omega
  obtain ⟨b0, b1, b2, b3, hbl⟩ : ∃ b0 b1 b2 b3, bytesL v = [b0, b1, b2, b3] := ⟨_, _, _, _, rfl⟩
  rw [hbl] at HC ⊢
  change Hid (Calls Try.prog 76 _ _ fun e w' => e = .returned (.agg #[.int .u8 (b0.toNat : Int), .int .u8 (b1.toNat : Int), .int .u8 (b2.toNat : Int), .int .u8 (b3.toNat : Int)]) ∧ _) at HC
  clear h hI hbl hc
  obtain ⟨a, hq⟩ : ∃ a, a = 4 * q + 3 := ⟨_, rfl⟩
  rw [← hq] at ha e1 ⊢
  clear hq
  have HPUT := hidden (fun (w1 : World) (hm : MemW w1 s) => aput_any _ s (hm.alloc (.cells #[.int .u8 (b0.toNat : Int), .int .u8 (b1.toNat : Int), .int .u8 (b2.toNat : Int), .int .u8 (b3.toNat : Int)] 145)) a ha w1.heap.size 0 4 (([b0, b1, b2, b3].drop 0).take 1) (At.of (Blk.new w1 _ 145) 0 1 (by decide)) (fun hf => Nat.lt_irrefl _ (hm.lt hf)) (by simp) HCC.out)
  go_enter Try.func52, Try.ntmps52
  go_wp2_with (first | (go_at_call 76; refine HC.out.mono ?_; rintro e w1 ⟨rfl, hb1⟩; have c1 : ∀ o : Obj, (w1.alloc o).cell? ⟨w.heap.size, 0, none⟩ = some (.int .i64 57) := (fun o => ((HI.out.later hb1).later (below_new w1 o)).cell rfl); have HB1 := hidden (HB.out.trans (hb1.mono HB.out.size)); have HM1 := hidden (HM.out.later hb1); clear hb1) | (go_at_call 77; refine (HPUT.out _ HM1.out).mono ?_; rintro e w4 ⟨rfl, s', hp, hst⟩; have HP := hidden hp; have HS := hidden (step_put H0.out HB1.out (below_new w1 _) hst); clear hp hst))
  first | go_end0 | refine bodyPost_ret (results_none rfl _ _ _) rfl ?_
  exact ⟨rfl, s', HP.out, HS.out⟩
set_option maxRecDepth 20000 in
set_option maxHeartbeats 1000000 in
theorem store_swr0 (w : World) (s : MS) (h : MemW w s) (S T D A imm : Int) (q v : Nat) (ha : 4 * q + 0 < 4294967296) (hv : v < 4294967296) (hc : s.c + 4 ≤ 1099511627776) : Calls Try.prog 52 #[.pointer (some ⟨s.mb, 0, none⟩), .agg (insC 59 S T D A imm), .int .u32 ((4 * q + 0 : Nat) : Int), .int .u32 (v : Int)] w fun e w' => e = .returned (.tuple #[]) ∧ ∃ s', PokesTo s (placesL (4 * q) ((bytesL v).drop 3)) s' ∧ Step w s w' s' := by
  have H0 := hidden h
  have hI := Blk.new w (insC 59 S T D A imm) 62
  have HI := hidden hI
  have HB := hidden (below_new w (.cells (insC 59 S T D A imm) 62))
  have HM := hidden (h.alloc (.cells (insC 59 S T D A imm) 62))
  have HC := hidden (acut_any v hv (w.alloc (.cells (insC 59 S T D A imm) 62)))
  have HCC := hidden hc
  have e1 : ((4 * q + 0 : Nat) : Int) % 4 = 0 := by omega
  have e2 : ((4 * q + 0 : Nat) : Int) - 0 = ((4 * q : Nat) : Int) := by omega
  have hp : 4 * q < 4294967296 := by omega
  obtain ⟨b0, b1, b2, b3, hbl⟩ : ∃ b0 b1 b2 b3, bytesL v = [b0, b1, b2, b3] := ⟨_, _, _, _, rfl⟩
  rw [hbl] at HC ⊢
  change Hid (Calls Try.prog 76 _ _ fun e w' => e = .returned (.agg #[.int .u8 (b0.toNat : Int), .int .u8 (b1.toNat : Int), .int .u8 (b2.toNat : Int), .int .u8 (b3.toNat : Int)]) ∧ _) at HC
  clear h hI hbl hc
  obtain ⟨a, hq⟩ : ∃ a, a = 4 * q + 0 := ⟨_, rfl⟩
  rw [← hq] at ha e1 e2 ⊢
  obtain ⟨p, hpq⟩ : ∃ p, p = 4 * q := ⟨_, rfl⟩
  rw [← hpq] at e2 hp ⊢
  clear hq hpq
  have HPUT := hidden (fun (w1 : World) (hm : MemW w1 s) => aput_any _ s (hm.alloc (.cells #[.int .u8 (b0.toNat : Int), .int .u8 (b1.toNat : Int), .int .u8 (b2.toNat : Int), .int .u8 (b3.toNat : Int)] 145)) p hp w1.heap.size 3 1 (([b0, b1, b2, b3].drop 3).take 1) (At.of (Blk.new w1 _ 145) 3 1 (by decide)) (fun hf => Nat.lt_irrefl _ (hm.lt hf)) (by simp) HCC.out)
  go_enter Try.func52, Try.ntmps52
  go_wp2_with (first | (go_at_call 76; refine HC.out.mono ?_; rintro e w1 ⟨rfl, hb1⟩; have c1 : ∀ o : Obj, (w1.alloc o).cell? ⟨w.heap.size, 0, none⟩ = some (.int .i64 59) := (fun o => ((HI.out.later hb1).later (below_new w1 o)).cell rfl); have HB1 := hidden (HB.out.trans (hb1.mono HB.out.size)); have HM1 := hidden (HM.out.later hb1); clear hb1) | (go_at_call 77; refine (HPUT.out _ HM1.out).mono ?_; rintro e w4 ⟨rfl, s', hp, hst⟩; have HP := hidden hp; have HS := hidden (step_put H0.out HB1.out (below_new w1 _) hst); clear hp hst))
  first | go_end0 | refine bodyPost_ret (results_none rfl _ _ _) rfl ?_
  exact ⟨rfl, s', HP.out, HS.out⟩
set_option maxRecDepth 20000 in
set_option maxHeartbeats 1000000 in
theorem store_swr1 (w : World) (s : MS) (h : MemW w s) (S T D A imm : Int) (q v : Nat) (ha : 4 * q + 1 < 4294967296) (hv : v < 4294967296) (hc : s.c + 4 ≤ 1099511627776) : Calls Try.prog 52 #[.pointer (some ⟨s.mb, 0, none⟩), .agg (insC 59 S T D A imm), .int .u32 ((4 * q + 1 : Nat) : Int), .int .u32 (v : Int)] w fun e w' => e = .returned (.tuple #[]) ∧ ∃ s', PokesTo s (placesL (4 * q) ((bytesL v).drop 2)) s' ∧ Step w s w' s' := by
  have H0 := hidden h
  have hI := Blk.new w (insC 59 S T D A imm) 62
  have HI := hidden hI
  have HB := hidden (below_new w (.cells (insC 59 S T D A imm) 62))
  have HM := hidden (h.alloc (.cells (insC 59 S T D A imm) 62))
  have HC := hidden (acut_any v hv (w.alloc (.cells (insC 59 S T D A imm) 62)))
  have HCC := hidden hc
  have e1 : ((4 * q + 1 : Nat) : Int) % 4 = 1 := by omega
  have e2 : ((4 * q + 1 : Nat) : Int) - 1 = ((4 * q : Nat) : Int) := by omega
  have hp : 4 * q < 4294967296 := by omega
  obtain ⟨b0, b1, b2, b3, hbl⟩ : ∃ b0 b1 b2 b3, bytesL v = [b0, b1, b2, b3] := ⟨_, _, _, _, rfl⟩
  rw [hbl] at HC ⊢
  change Hid (Calls Try.prog 76 _ _ fun e w' => e = .returned (.agg #[.int .u8 (b0.toNat : Int), .int .u8 (b1.toNat : Int), .int .u8 (b2.toNat : Int), .int .u8 (b3.toNat : Int)]) ∧ _) at HC
  clear h hI hbl hc
  obtain ⟨a, hq⟩ : ∃ a, a = 4 * q + 1 := ⟨_, rfl⟩
  rw [← hq] at ha e1 e2 ⊢
  obtain ⟨p, hpq⟩ : ∃ p, p = 4 * q := ⟨_, rfl⟩
  rw [← hpq] at e2 hp ⊢
  clear hq hpq
  have HPUT := hidden (fun (w1 : World) (hm : MemW w1 s) => aput_any _ s (hm.alloc (.cells #[.int .u8 (b0.toNat : Int), .int .u8 (b1.toNat : Int), .int .u8 (b2.toNat : Int), .int .u8 (b3.toNat : Int)] 145)) p hp w1.heap.size 2 2 (([b0, b1, b2, b3].drop 2).take 2) (At.of (Blk.new w1 _ 145) 2 2 (by decide)) (fun hf => Nat.lt_irrefl _ (hm.lt hf)) (by simp) HCC.out)
  go_enter Try.func52, Try.ntmps52
  go_wp2_with (first | (go_at_call 76; refine HC.out.mono ?_; rintro e w1 ⟨rfl, hb1⟩; have c1 : ∀ o : Obj, (w1.alloc o).cell? ⟨w.heap.size, 0, none⟩ = some (.int .i64 59) := (fun o => ((HI.out.later hb1).later (below_new w1 o)).cell rfl); have HB1 := hidden (HB.out.trans (hb1.mono HB.out.size)); have HM1 := hidden (HM.out.later hb1); clear hb1) | (go_at_call 77; refine (HPUT.out _ HM1.out).mono ?_; rintro e w4 ⟨rfl, s', hp, hst⟩; have HP := hidden hp; have HS := hidden (step_put H0.out HB1.out (below_new w1 _) hst); clear hp hst))
  first | go_end0 | refine bodyPost_ret (results_none rfl _ _ _) rfl ?_
  exact ⟨rfl, s', HP.out, HS.out⟩
set_option maxRecDepth 20000 in
set_option maxHeartbeats 1000000 in
theorem store_swr2 (w : World) (s : MS) (h : MemW w s) (S T D A imm : Int) (q v : Nat) (ha : 4 * q + 2 < 4294967296) (hv : v < 4294967296) (hc : s.c + 4 ≤ 1099511627776) : Calls Try.prog 52 #[.pointer (some ⟨s.mb, 0, none⟩), .agg (insC 59 S T D A imm), .int .u32 ((4 * q + 2 : Nat) : Int), .int .u32 (v : Int)] w fun e w' => e = .returned (.tuple #[]) ∧ ∃ s', PokesTo s (placesL (4 * q) ((bytesL v).drop 1)) s' ∧ Step w s w' s' := by
  have H0 := hidden h
  have hI := Blk.new w (insC 59 S T D A imm) 62
  have HI := hidden hI
  have HB := hidden (below_new w (.cells (insC 59 S T D A imm) 62))
  have HM := hidden (h.alloc (.cells (insC 59 S T D A imm) 62))
  have HC := hidden (acut_any v hv (w.alloc (.cells (insC 59 S T D A imm) 62)))
  have HCC := hidden hc
  have e1 : ((4 * q + 2 : Nat) : Int) % 4 = 2 := by omega
  have e2 : ((4 * q + 2 : Nat) : Int) - 2 = ((4 * q : Nat) : Int) := by omega
  have hp : 4 * q < 4294967296 := by omega
  obtain ⟨b0, b1, b2, b3, hbl⟩ : ∃ b0 b1 b2 b3, bytesL v = [b0, b1, b2, b3] := ⟨_, _, _, _, rfl⟩
  rw [hbl] at HC ⊢
  change Hid (Calls Try.prog 76 _ _ fun e w' => e = .returned (.agg #[.int .u8 (b0.toNat : Int), .int .u8 (b1.toNat : Int), .int .u8 (b2.toNat : Int), .int .u8 (b3.toNat : Int)]) ∧ _) at HC
  clear h hI hbl hc
  obtain ⟨a, hq⟩ : ∃ a, a = 4 * q + 2 := ⟨_, rfl⟩
  rw [← hq] at ha e1 e2 ⊢
  obtain ⟨p, hpq⟩ : ∃ p, p = 4 * q := ⟨_, rfl⟩
  rw [← hpq] at e2 hp ⊢
  clear hq hpq
  have HPUT := hidden (fun (w1 : World) (hm : MemW w1 s) => aput_any _ s (hm.alloc (.cells #[.int .u8 (b0.toNat : Int), .int .u8 (b1.toNat : Int), .int .u8 (b2.toNat : Int), .int .u8 (b3.toNat : Int)] 145)) p hp w1.heap.size 1 3 (([b0, b1, b2, b3].drop 1).take 3) (At.of (Blk.new w1 _ 145) 1 3 (by decide)) (fun hf => Nat.lt_irrefl _ (hm.lt hf)) (by simp) HCC.out)
  go_enter Try.func52, Try.ntmps52
  go_wp2_with (first | (go_at_call 76; refine HC.out.mono ?_; rintro e w1 ⟨rfl, hb1⟩; have c1 : ∀ o : Obj, (w1.alloc o).cell? ⟨w.heap.size, 0, none⟩ = some (.int .i64 59) := (fun o => ((HI.out.later hb1).later (below_new w1 o)).cell rfl); have HB1 := hidden (HB.out.trans (hb1.mono HB.out.size)); have HM1 := hidden (HM.out.later hb1); clear hb1) | (go_at_call 77; refine (HPUT.out _ HM1.out).mono ?_; rintro e w4 ⟨rfl, s', hp, hst⟩; have HP := hidden hp; have HS := hidden (step_put H0.out HB1.out (below_new w1 _) hst); clear hp hst))
  first | go_end0 | refine bodyPost_ret (results_none rfl _ _ _) rfl ?_
  exact ⟨rfl, s', HP.out, HS.out⟩
set_option maxRecDepth 20000 in
set_option maxHeartbeats 1000000 in
theorem store_swr3 (w : World) (s : MS) (h : MemW w s) (S T D A imm : Int) (q v : Nat) (ha : 4 * q + 3 < 4294967296) (hv : v < 4294967296) (hc : s.c + 4 ≤ 1099511627776) : Calls Try.prog 52 #[.pointer (some ⟨s.mb, 0, none⟩), .agg (insC 59 S T D A imm), .int .u32 ((4 * q + 3 : Nat) : Int), .int .u32 (v : Int)] w fun e w' => e = .returned (.tuple #[]) ∧ ∃ s', PokesTo s (placesL (4 * q) ((bytesL v).drop 0)) s' ∧ Step w s w' s' := by
  have H0 := hidden h
  have hI := Blk.new w (insC 59 S T D A imm) 62
  have HI := hidden hI
  have HB := hidden (below_new w (.cells (insC 59 S T D A imm) 62))
  have HM := hidden (h.alloc (.cells (insC 59 S T D A imm) 62))
  have HC := hidden (acut_any v hv (w.alloc (.cells (insC 59 S T D A imm) 62)))
  have HCC := hidden hc
  have e1 : ((4 * q + 3 : Nat) : Int) % 4 = 3 := by omega
  have e2 : ((4 * q + 3 : Nat) : Int) - 3 = ((4 * q : Nat) : Int) := by omega
  have hp : 4 * q < 4294967296 := by omega
  obtain ⟨b0, b1, b2, b3, hbl⟩ : ∃ b0 b1 b2 b3, bytesL v = [b0, b1, b2, b3] := ⟨_, _, _, _, rfl⟩
  rw [hbl] at HC ⊢
  change Hid (Calls Try.prog 76 _ _ fun e w' => e = .returned (.agg #[.int .u8 (b0.toNat : Int), .int .u8 (b1.toNat : Int), .int .u8 (b2.toNat : Int), .int .u8 (b3.toNat : Int)]) ∧ _) at HC
  clear h hI hbl hc
  obtain ⟨a, hq⟩ : ∃ a, a = 4 * q + 3 := ⟨_, rfl⟩
  rw [← hq] at ha e1 e2 ⊢
  obtain ⟨p, hpq⟩ : ∃ p, p = 4 * q := ⟨_, rfl⟩
  rw [← hpq] at e2 hp ⊢
  clear hq hpq
  have HPUT := hidden (fun (w1 : World) (hm : MemW w1 s) => aput_any _ s (hm.alloc (.cells #[.int .u8 (b0.toNat : Int), .int .u8 (b1.toNat : Int), .int .u8 (b2.toNat : Int), .int .u8 (b3.toNat : Int)] 145)) p hp w1.heap.size 0 4 (([b0, b1, b2, b3].drop 0).take 4) (At.of (Blk.new w1 _ 145) 0 4 (by decide)) (fun hf => Nat.lt_irrefl _ (hm.lt hf)) (by simp) HCC.out)
  go_enter Try.func52, Try.ntmps52
  go_wp2_with (first | (go_at_call 76; refine HC.out.mono ?_; rintro e w1 ⟨rfl, hb1⟩; have c1 : ∀ o : Obj, (w1.alloc o).cell? ⟨w.heap.size, 0, none⟩ = some (.int .i64 59) := (fun o => ((HI.out.later hb1).later (below_new w1 o)).cell rfl); have HB1 := hidden (HB.out.trans (hb1.mono HB.out.size)); have HM1 := hidden (HM.out.later hb1); clear hb1) | (go_at_call 77; refine (HPUT.out _ HM1.out).mono ?_; rintro e w4 ⟨rfl, s', hp, hst⟩; have HP := hidden hp; have HS := hidden (step_put H0.out HB1.out (below_new w1 _) hst); clear hp hst))
  first | go_end0 | refine bodyPost_ret (results_none rfl _ _ _) rfl ?_
  exact ⟨rfl, s', HP.out, HS.out⟩
end Go.Proofs.Ytobnocioefchlaa
namespace Go.Proofs.Ytobnocioefchlaa
open Go.ChangeShapes Go.WideShapes Go.ChangeAt Go.RowKit
set_option linter.unusedVariables false
theorem ofInt_toNat (x : Int) : (BitVec.ofInt 64 x).toNat = (x % 18446744073709551616).toNat := by
  have h : ((2 ^ 64 : Nat) : Int) = 18446744073709551616 := by decide
  rw [BitVec.toNat_ofInt, h]
theorem bits_or (x y : Int) : bits .or .i64 x y = IntKind.i64.wrap ((BitVec.ofInt 64 x ||| BitVec.ofInt 64 y).toNat : Nat) := rfl
theorem toNatS (a : Nat) (h : a < 8) : (BitVec.ofInt 64 (a : Int)).toNat = a := by
  rw [ofInt_toNat]
  omega
theorem toNat8 (z : Int) : (BitVec.ofInt 64 (z % 8)).toNat = (BitVec.ofInt 64 z).toNat % 8 := by
  rw [ofInt_toNat, ofInt_toNat]
  omega
theorem or_mod8 (a n : Nat) (ha : a < 8) : (a ||| n) % 8 = a ||| n % 8 := by
  have h : (a ||| n) % 2 ^ 3 = a % 2 ^ 3 ||| n % 2 ^ 3 := Nat.or_mod_two_pow
  rw [show (2 : Nat) ^ 3 = 8 from rfl, Nat.mod_eq_of_lt ha] at h
  exact h
theorem wrap8 (n : Nat) : IntKind.i64.wrap ((n % 8 : Nat) : Int) = IntKind.i64.wrap (n : Int) % 8 := by
  rw [IntKind.wrap_i64, IntKind.wrap_i64]
  omega
theorem orP_small (p z : Int) (h0 : 0 ≤ p) (h8 : p < 8) : bits .or .i64 p (z % 8) = orP p z := by
  obtain ⟨a, rfl⟩ := Int.eq_ofNat_of_zero_le h0
  have ha : a < 8 := by omega
  rw [orP, bits_or, bits_or, BitVec.toNat_or, BitVec.toNat_or, toNatS a ha, toNat8, ← or_mod8 a _ ha]
  exact wrap8 _
theorem perm_abs (s : MS) (a : Nat) : s.perm a = match s.abs (pageOf a) with | some x => x.2.1 | none => 0 := by
  unfold MS.perm MS.abs
  split <;> rfl
theorem bits_same (x : Int) (h0 : 0 ≤ x) (h1 : x < 8) : bits .or .i64 x x = x := by
  rcases (show x = 0 ∨ x = 1 ∨ x = 2 ∨ x = 3 ∨ x = 4 ∨ x = 5 ∨ x = 6 ∨ x = 7 by omega) with rfl | rfl | rfl | rfl | rfl | rfl | rfl | rfl <;> decide
theorem orP_same (z : Int) : orP (z % 8) z = z % 8 := by
  rw [← orP_small (z % 8) z (by omega) (by omega)]
  exact bits_same _ (by omega) (by omega)
/-- All pages may be the same. -/
def AllP (f : AM) (z : Int) : Prop := ∀ q x, f q = some x → x.2.1 = z % 8
theorem allP_none (z : Int) : AllP (fun _ => none) z := fun _ _ h => by cases h
theorem allP_amap {f : AM} {z : Int} (h : AllP f z) (a : Nat) : AllP (amap f a z) z := by
  intro q x hx
  unfold amap at hx
  by_cases e : q = pageOf a
  · rw [if_pos e] at hx
    cases hq : f q with
    | none =>
      rw [hq] at hx
      have := Option.some.inj hx
      rw [← this]
    | some y =>
      obtain ⟨l, p, o⟩ := y
      rw [hq] at hx
      have hp : p = z % 8 := h q _ hq
      have := Option.some.inj hx
      rw [← this]
      show orP p z = _
      rw [hp]
      exact orP_same z
  · rw [if_neg e] at hx
    exact h q x hx
theorem allP_apoke {f : AM} {z : Int} (h : AllP f z) (a : Nat) (v : UInt8) : AllP (apoke f a v) z := by
  intro q x hx
  unfold apoke at hx
  by_cases e : q = pageOf a
  · rw [if_pos e] at hx
    cases hq : f q with
    | none => rw [hq] at hx; cases hx
    | some y =>
      rw [hq] at hx
      have := Option.some.inj hx
      rw [← this]
      exact h q y hq
  · rw [if_neg e] at hx
    exact h q x hx
theorem allP_awatch {f : AM} {z : Int} (h : AllP f z) (a : Nat) (b : Bool) : AllP (awatch f a b) z := by
  intro q x hx
  unfold awatch at hx
  by_cases e : q = pageOf a
  · rw [if_pos e] at hx
    cases hq : f q with
    | none => rw [hq] at hx; cases hx
    | some y =>
      rw [hq] at hx
      have := Option.some.inj hx
      rw [← this]
      exact h q y hq
  · rw [if_neg e] at hx
    exact h q x hx
theorem allP_maps {f : AM} (p : Part4) (h : AllP f p.perm) : ∀ k, AllP (partMaps f p k) p.perm
  | 0 => h
  | k + 1 => allP_amap (allP_maps p h k) _
theorem allP_pokes {f : AM} {z : Int} (h : AllP f z) (p : Part4) : ∀ k, AllP (partPokes f p k) z
  | 0 => h
  | k + 1 => allP_apoke (allP_pokes h p k) _ _
theorem one_allP (p : Part4) : AllP (memOf [p]) p.perm := allP_awatch (allP_pokes (allP_maps p (allP_none _) _) p _) _ _
theorem two_allP (p q : Part4) (h : q.perm = p.perm) : AllP (memOf [p, q]) p.perm := by
  refine allP_awatch (allP_awatch ?_ _ _) _ _
  refine allP_pokes ?_ _ _
  rw [← h]
  refine allP_maps q ?_ _
  rw [h]
  exact allP_pokes (allP_maps p (allP_none _) _) p _
theorem perm_all {s : MS} {z : Int} (h : AllP s.abs z) (a : Nat) (hs : (s.abs (pageOf a)).isSome = true) : s.perm a = z % 8 := by
  rw [perm_abs]
  cases hq : s.abs (pageOf a) with
  | none => rw [hq] at hs; cases hs
  | some x => exact h _ _ hq
theorem perm_none {s : MS} (a : Nat) (hs : s.abs (pageOf a) = none) : s.perm a = 0 := by
  rw [perm_abs, hs]
/-- A part without bytes has one page. -/
theorem bare_some (p : Part4) (hl : p.data = []) (hat : p.at_ < 4294967296) (q : Nat) : (memOf [p] q).isSome = true ↔ q = pageOf p.at_ := by
  show (awatch (partDone (fun _ => none) p) p.at_ p.on q).isSome = true ↔ _
  rw [some_awatch]
  unfold partDone
  rw [some_pokes, hl, show max ([] : List UInt8).length 1 = 1 from rfl, some_maps]
  have e : wrapAt p.at_ 0 = p.at_ := by unfold wrapAt; omega
  constructor
  · rintro ⟨j, hj, e2⟩
    obtain rfl : j = 0 := by omega
    rw [e2, e]
  · intro h
    exact ⟨0, by omega, by rw [h, e]⟩
abbrev partC (a : Nat) (ao : Option Addr) (n cap : Nat) (z : Int) (on : Bool) : Array Value := #[.int .u32 (a : Int), .slice ao n cap, .int .i64 z, .bool on]
theorem buildPart (a : Int) (ao : Option Addr) (n cap : Nat) (z : Int) (w : World) : (Instr.build 44 #[(0, .int .u32 a), (1, .slice ao n cap), (2, .int .i64 z)]).run Try.prog w = .ok (.agg #[.int .u32 a, .slice ao n cap, .int .i64 z, .bool false]) w := by kernel_rfl
/-- One part, as it lies there. -/
theorem piece_new (w : World) (a : Nat) (ha : a < 4294967296) (ao : Option Addr) (l : List UInt8) (cap : Nat) (z : Int) (on : Bool) (hr : Row w ao l cap) : Pieces (w.alloc (.cells (partC a ao l.length cap z on) 44)) (some ⟨w.heap.size, 0, none⟩) [⟨a, l, z, on, ao, cap⟩] := by
  have hb := heap_alloc_new w (.cells (partC a ao l.length cap z on) 44)
  refine .inr ⟨w.heap.size, 0, rfl, (Array.getElem?_eq_some_iff.1 hb).1, fun j hj => ?_⟩
  obtain rfl : j = 0 := by simpa using hj
  refine ⟨?_, ?_, ?_, ?_, hr.later ((Below.refl _ w).alloc (Nat.le_refl _) _), ha⟩
  · rw [cell_of_row _ _ _ _ _ _ hb]; rfl
  · rw [cell_of_row _ _ _ _ _ _ hb]; rfl
  · rw [cell_of_row _ _ _ _ _ _ hb]; rfl
  · rw [cell_of_row _ _ _ _ _ _ hb]; rfl
theorem row_new (w : World) (l : List UInt8) (hl : l ≠ []) (hm : l.length ≤ 16384) : Row (w.alloc (.cells (cellsU l).toArray 5)) (some ⟨w.heap.size, 0, none⟩) l l.length :=
  Brow.row (heap_alloc_new w _) hm
end Go.Proofs.Ytobnocioefchlaa
namespace Go.Proofs.Ytobnocioefchlaa
open Go.ChangeShapes Go.WideShapes Go.ChangeAt Go.RowKit
set_option linter.unusedVariables false
theorem word00_any (op : Int) (kk s t d a m : Nat) (hop : op = (kk : Int) + 1) (hk : kk < 69) (hs : s < 32) (ht : t < 32) (hd : d < 32) (ha : a < 32) (hm : m < 4294967296) (hx : wordK kk s t d a m < 4294967296) (w : World) : Calls Try.prog 16 #[.int .i64 op, .int .i64 (s : Int), .int .i64 (t : Int), .int .i64 (d : Int), .int .i64 (a : Int), .int .u32 (m : Int)] w fun e w' => e = .returned (.int .u32 ((wordK kk s t d a m : Nat) : Int)) ∧ Below w.heap.size w w' := by
  have HE := hidden (fun u => by have h := encode_any kk s t d a m hk hs ht hd ha hm hx u; rw [← hop] at h; exact h)
  clear hop
  go_enter Try.func16, Try.ntmps16
  go_wp2_with (first | (go_at_call 32; refine (HE.out _).mono ?_; rintro e w2 ⟨⟨b, rfl⟩, b2⟩; have B2 := hidden b2; clear b2))
  go_ret
  exact ⟨rfl, B2.out⟩
theorem bytesL_ne (v : Nat) : bytesL v ≠ [] := by unfold bytesL; simp
theorem bytesL_len (v : Nat) : (bytesL v).length = 4 := rfl
theorem put01_any (v : Nat) (hv : v < 4294967296) (w : World) : Calls Try.prog 14 #[.int .u32 (v : Int)] w fun e w' => e = .returned (.slice (some ⟨w.heap.size, 0, none⟩) 4 4) ∧ Row w' (some ⟨w.heap.size, 0, none⟩) (bytesL v) 4 ∧ Below w.heap.size w w' ∧ w.heap.size < w'.heap.size := by
  have hr := row_new w (bytesL v) (bytesL_ne v) (by rw [bytesL_len]; omega)
  rw [← b4_eq v hv, bytesL_len] at hr
  have HR := hidden hr
  have hB := hidden (below_new w (.cells (b4C v) 5))
  have e1 : (v : Int) / 16777216 % 256 = (v : Int) / 16777216 := by omega
  clear hr
  go_enter Try.func14, Try.ntmps14
  go_wp2
  go_ret
  exact ⟨rfl, HR.out, hB.out, by simp⟩
/-- The bytes of words. -/
def bytesOf (ws : List Nat) : List UInt8 := ws.flatMap bytesL
theorem bytesOf_len (ws : List Nat) : (bytesOf ws).length = 4 * ws.length := by
  induction ws with
  | nil => rfl
  | cons x ws ih => show (bytesL x ++ bytesOf ws).length = _; rw [List.length_append, ih, bytesL_len, List.length_cons]; omega
theorem bytesOf_snoc (ws : List Nat) (x : Nat) : bytesOf (ws ++ [x]) = bytesOf ws ++ bytesL x := by unfold bytesOf; rw [List.flatMap_append]; simp
def cellsW (ws : List Nat) : Array Value := (ws.map fun x : Nat => Value.int .u32 (x : Int)).toArray
theorem OutB.nil (w : World) : OutB w w.heap.size (.slice none 0 0) [] := ⟨rfl, .inl ⟨rfl, rfl⟩⟩
set_option maxRecDepth 20000 in
set_option maxHeartbeats 2000000 in
theorem code_any (ws : List Nat) (g cap : Nat) (hw : ∀ x ∈ ws, x < 4294967296) (hl : ws.length ≤ 1000) (w : World) (hb : Blk w g (cellsW ws) 23) : Calls Try.prog 17 #[.slice (some ⟨g, 0, none⟩) ws.length cap] w fun e w' => (∃ ao c, e = .returned (.slice ao (4 * ws.length) c) ∧ Row w' ao (bytesOf ws) c) ∧ Below w.heap.size w w' := by
  obtain ⟨n, hn⟩ : ∃ n, w.heap.size = n := ⟨_, rfl⟩
  obtain ⟨L, hL⟩ : ∃ L, ws.length = L := ⟨_, rfl⟩
  rw [hL] at hl ⊢
  have HWS := hidden hw
  have HL := hidden hL
  have HBK := hidden hb
  clear hw hL hb
  go_enter Try.func17, Try.ntmps17
  go_wp2
  go_loopw [3, 4] (fun x3 x4 wr => ∃ (i : Nat), i ≤ L ∧ x4 = .int .i64 (i : Int) ∧ OutB wr n x3 (bytesOf (ws.take i)) ∧ Below n w wr ∧ Blk wr g (cellsW ws) 23) (fun _ x4 _ => L - (intOf x4).toNat)
  case atStart => exact ⟨0, Nat.zero_le _, rfl, by rw [← hn]; exact OutB.nil w, by rw [← hn]; exact Below.refl _ _, HBK.out⟩
  case round =>
    obtain ⟨i, hi, rfl, hO, hB, hK⟩ := hrel
    have HO := hidden hO
    have HB := hidden hB
    have HK := hidden hK
    clear hO hB hK
    by_cases hlt : i < L
    · have hlt2 : (i : Int) < (L : Int) := by omega
      have hge : (0 : Int) ≤ (i : Int) := by omega
      have hiw : i < ws.length := by rw [HL.out]; exact hlt
      obtain ⟨x, hx⟩ : ∃ x, ws[i] = x := ⟨_, rfl⟩
      have hx2 : x < 4294967296 := by rw [← hx]; exact HWS.out _ (List.getElem_mem hiw)
      have hcell : wr.cell? ⟨g, i, none⟩ = some (.int .u32 (x : Int)) := HK.out.cell (by unfold cellsW; simp [hiw, hx])
      have HN : Hid (bytesOf (ws.take i) ++ bytesL x = bytesOf (ws.take (i + 1))) := hidden (by rw [List.take_succ_eq_append_getElem hiw, hx, bytesOf_snoc])
      have hlen : (bytesOf (ws.take i)).length ≤ 4000 := by rw [bytesOf_len, List.length_take]; omega
      have HPU := hidden (put01_any x hx2 wr)
      have HAP : Hid (∀ w2, Row w2 (some ⟨wr.heap.size, 0, none⟩) (bytesL x) 4 → Below wr.heap.size wr w2 → ∃ v' w', (Builtin.append_ #[40, 40] 40 #[u3, .slice (some ⟨wr.heap.size, 0, none⟩) 4 4]).run Try.prog w2 = .ok v' w' ∧ OutB w' n v' (bytesOf (ws.take (i + 1))) ∧ Below n w w' ∧ Blk w' g (cellsW ws) 23) := hidden (fun w2 hr2 hb2 => by
        have hnb : n ≤ wr.heap.size := by rw [← hn]; exact HB.out.size
        obtain ⟨v', w', hr, ho, hg⟩ := run_more (HO.out.later hb2) (Nat.le_trans hnb hb2.size) ⟨wr.heap.size, 0, none⟩ 4 (bytesL x) (by
          rcases hr2.lies with h | ⟨b, off, e, h⟩
          · exact absurd h (bytesL_ne x)
          · injection e with e
            injection e with e1 e2
            subst e1
            subst e2
            exact Lies.cells h) (by rw [bytesL_len]; omega)
        rw [HN.out] at ho
        exact ⟨v', w', hr, ho, (HB.out.trans (hb2.mono hnb)).trans hg.below, hg.keep g _ _ (by decide) (HK.out.later hb2)⟩)
      clear hx hx2 hlen
      go_wp2_with (first
        | (go_at_call 14; refine HPU.out.mono ?_; rintro e w2 ⟨rfl, hr2, b2, z2⟩; obtain ⟨v', w', hr, ho, hbw, hkw⟩ := HAP.out w2 hr2 b2; have HR := hidden hr; have HO2 := hidden ho; have HB2 := hidden hbw; have HK2 := hidden hkw; clear hr2 b2 z2 hr ho hbw hkw)
        | (at_builtin; refine wpList_append_run rfl _ _ 40 40 rfl rfl rfl HR.out ?_))
      go_roundw
      case rel => first | exact ⟨i + 1, by omega, by simp, HO2.out, HB2.out, HK2.out⟩ | ((repeat apply Exists.intro); exact ⟨⟨i + 1, by omega, by simp, HO2.out, HB2.out, HK2.out⟩, rfl⟩)
      case measure => simp [intOf]; omega
    · have hnl : ¬ (i : Int) < (L : Int) := by omega
      have hiL : i = L := by omega
      have HT : Hid (bytesOf (ws.take i) = bytesOf ws) := hidden (by rw [hiL, ← HL.out, List.take_length])
      clear hiL
      go_wp2
      go_ret
      have ho := HO.out
      rw [HT.out] at ho
      obtain ⟨ao, c, e1, hr⟩ := ho.row
      refine ⟨⟨ao, c, ?_, hr⟩, by first | exact HB.out | (rw [hn]; exact HB.out)⟩
      rw [e1, bytesOf_len, HL.out]
      rfl
end Go.Proofs.Ytobnocioefchlaa

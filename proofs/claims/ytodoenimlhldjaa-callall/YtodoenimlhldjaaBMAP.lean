/- New, walked. -/
import Derived.Test.YtodoenimlhldjaaBMAN
import Derived.Test.YtodoenimlhldjaaBMAI
import Derived.Lib.BufferMore
namespace Go.Proofs.Ytodoenimlhldjaa
open Go.ChangeShapes Go.WideShapes Go.ChangeAt Go.RowKit
set_option linter.unusedVariables false
theorem sizeSc : (Try.prog.info? 55).map (·.size) = some 7 := by kernel_rfl
/-- What the slots of the region hold, whatever the order. -/
def phiNw (n : Nat) (inp : ByteArray) (rd : Value) (l : List Int) : Nat → Value → World → Prop
  | 0, x, _ => x = .pointer (some ⟨n, 0, none⟩)
  | 1, x, _ => x = .string inp
  | 2, x, _ => x = .pointer (some ⟨n, 1, none⟩)
  | 3, x, _ => x = rd
  | 4, x, w => Fr w (n + 2) 3 x l.length (cI l)
  | 5, x, w => ∃ rd1, x = .agg (cwC inp 0 rd1 0 (.slice none 0 0)) ∧ Fr w (n + 2) 3 rd1 l.length (cI l)
  | _ + 6, _, _ => True
theorem phiNw_mono (n : Nat) (inp : ByteArray) (rd : Value) (l : List Int) : ∀ i x w w', phiNw n inp rd l i x w → Below w.heap.size w w' → phiNw n inp rd l i x w'
  | 0, _, _, _, h, _ => h
  | 1, _, _, _, h, _ => h
  | 2, _, _, _, h, _ => h
  | 3, _, _, _, h, _ => h
  | 4, x, w, w', h, hb => h.later hb
  | 5, x, w, w', h, hb => by obtain ⟨rd1, e, h1⟩ := h; exact ⟨rd1, e, h1.later hb⟩
  | _ + 6, _, _, _, _, _ => trivial
theorem lstNw : ∀ xs : List Value, xs.length = 6 → ∃ x0 x1 x2 x3 x4 x5, xs = [x0, x1, x2, x3, x4, x5]
  | [x0, x1, x2, x3, x4, x5], _ => ⟨_, _, _, _, _, _, rfl⟩
set_option maxRecDepth 20000 in
set_option maxHeartbeats 1000000 in
theorem cnew_any (w : World) (cs : Array Value) (inp : ByteArray) (rd : Value) (l : List Int) (h7 : cs.size = 7) (h0 : cs[0]? = some (.string inp)) (h1 : cs[1]? = some rd) (hr : Rw w 1 rd l.length (cI l)) (hl : l.length ≤ 16384) : Calls Try.prog 21 #[.agg cs] w fun x w' => ∃ rd', x = .returned (.agg (cwC inp 0 rd' 0 (.slice none 0 0))) ∧ Fr w' w.heap.size 3 rd' l.length (cI l) ∧ Below w.heap.size w w' := by
  obtain ⟨n, hn⟩ : ∃ n, w.heap.size = n := ⟨_, rfl⟩
  have HC0 := hidden h0
  have HC1 := hidden h1
  have HR := hidden hr
  have HL := hidden hl
  clear h0 h1 hr hl
  go_enter Try.func21, Try.ntmps21
  go_upto_region 1 with (first
    | (refine wpList_boxG rfl 55 _ rfl cs rfl ?_; rintro w1 k1 s1 b1; rw [hn] at k1 s1 b1 ⊢; have K1 := hidden k1; have S1 := hidden s1; have B1 := hidden b1; clear k1 s1 b1)
    | (refine wpList_allocCw rfl rfl ?_; rintro w2 k2 s2 b2; rw [S1.out] at k2 s2 b2 ⊢; have K2 := hidden (K1.out.later (by rw [S1.out]; exact b2)); have Z2 := hidden k2; have S2 := hidden s2; have HB2 := hidden (show Below w.heap.size w w2 from by rw [hn]; exact B1.out.trans (b2.mono (by omega))); clear k2 s2 b2 B1 K1))
  refine wp_region_head later_below 6 [3, 4, 5, 6, 7, 8] (phiNw n inp rd l) (by kernel_rfl) (by kernel_rfl) rfl (phiNw_mono n inp rd l) ?_ ?_
  · intro j hj xs w3 hxs hR hpre
    obtain ⟨x0, x1, x2, x3, x4, x5, rfl⟩ := lstNw xs hxs
    have hS : Blk w3 n cs 55 := K2.out.later hR
    have hN3 : n + 2 ≤ w3.heap.size := Nat.le_trans (by have := S2.out; omega) hR.size
    rcases (show j = 0 ∨ j = 1 ∨ j = 2 ∨ j = 3 ∨ j = 4 ∨ j = 5 by omega) with rfl | rfl | rfl | rfl | rfl | rfl
    · exact wpOp_run (.pointer (some ⟨n, 0, none⟩)) rfl (by kernel_rfl) (by kernel_rfl) ⟨_, by kernel_rfl, rfl, Below.refl _ _⟩
    · have e0 : x0 = .pointer (some ⟨n, 0, none⟩) := hpre 0 (by kernel_rfl)
      subst e0
      exact wpOp_run (.string inp) rfl (by kernel_rfl) (exec_load 9 rfl (by kernel_rfl) w3 (loadStr (hS.cell HC0.out))) ⟨_, by kernel_rfl, rfl, Below.refl _ _⟩
    · exact wpOp_run (.pointer (some ⟨n, 1, none⟩)) rfl (by kernel_rfl) (by kernel_rfl) ⟨_, by kernel_rfl, rfl, Below.refl _ _⟩
    · have e2 : x2 = .pointer (some ⟨n, 1, none⟩) := hpre 2 (by kernel_rfl)
      subst e2
      exact wpOp_run rd rfl (by kernel_rfl) (exec_load 27 rfl (by kernel_rfl) w3 (loadIs (hS.cell HC1.out))) ⟨_, by kernel_rfl, rfl, Below.refl _ _⟩
    · have e3 : x3 = rd := hpre 3 (by kernel_rfl)
      subst e3
      refine wpOp_callR (R := fun u w4 => Fr w4 (n + 2) 3 u l.length (cI l) ∧ Below w3.heap.size w3 w4) 49 #[x3] rfl (by kernel_rfl) (by kernel_rfl) ((anewI_any w3 x3 _ _ HL.out (HR.out.later (HB2.out.trans (hR.mono HB2.out.size))) (cI_one l)).mono fun x w4 h => by obtain ⟨v, hv, hf, hb⟩ := h; exact ⟨v, hv, hf.mono hN3, hb⟩) ?_
      rintro u w4 ⟨hf, hb4⟩
      exact ⟨_, by kernel_rfl, hf, hb4⟩
    · have e1 : x1 = .string inp := hpre 1 (by kernel_rfl)
      subst e1
      have f4 : Fr w3 (n + 2) 3 x4 l.length (cI l) := hpre 4 (by kernel_rfl)
      obtain ⟨g, hgN, e4, hgk⟩ := f4
      subst e4
      exact wpOp_run (.agg (cwC inp 0 (.slice (some ⟨g, 0, none⟩) l.length l.length) 0 (.slice none 0 0))) rfl (by kernel_rfl) (by kernel_rfl) ⟨_, by kernel_rfl, ⟨_, rfl, g, hgN, rfl, hgk⟩, Below.refl _ _⟩
  · intro xs w3 hxs hR hall
    obtain ⟨x0, x1, x2, x3, x4, x5, rfl⟩ := lstNw xs hxs
    obtain ⟨rd1, e5, f5⟩ : ∃ rd1, x5 = .agg (cwC inp 0 rd1 0 (.slice none 0 0)) ∧ Fr w3 (n + 2) 3 rd1 l.length (cI l) := hall 5 (by omega)
    subst e5
    have Z3 := hidden (Z2.out.later hR)
    have F3 := hidden f5
    have B3 := hidden (HB2.out.trans (hR.mono HB2.out.size))
    clear hall hR hxs f5
    simp only [slotsOn, putAll, List.drop_succ_cons, List.drop_zero]
    refine wpList_storeCw rfl rfl _ _ rfl (n + 1) zCw (cwC inp 0 rd1 0 (.slice none 0 0)) (by kernel_rfl) (by kernel_rfl) Z3.out rfl rfl (cw_one F3.out.one rfl) ?_
    rintro w4 k4 o4
    have K4 := hidden k4
    have B4 := hidden (Below.only B3.out o4 (by omega))
    have F4 := hidden (F3.out.keep (Keep.of_only o4) (by omega))
    clear k4 o4
    go_wp2
    refine bodyPost_ret (results_cell_row rfl _ _ (n + 1) 38 _ (0, 0) _ (by kernel_rfl) K4.out Try.underlying38 rfl sizeCw) rfl ⟨_, rfl, ?_, B4.out⟩
    rw [hn]
    exact F4.out.mono (by omega)
end Go.Proofs.Ytodoenimlhldjaa
namespace Go.Proofs.Ytodoenimlhldjaa
open Go.ChangeShapes Go.WideShapes Go.ChangeAt Go.RowKit
set_option linter.unusedVariables false
/-- A page. -/
structure P5 where
  at_ : Nat
  perm : Int
  b : List UInt8
  watched : Bool
def nop5 : P5 := ⟨0, 0, [], false⟩
structure P5At (w : World) (b o : Nat) (p : P5) : Prop where
  c0 : w.cell? ⟨b, o, none⟩ = some (.int .u32 (p.at_ : Int))
  c1 : w.cell? ⟨b, o + 1, none⟩ = some (.int .i64 p.perm)
  cb : ∀ i, i < 256 → w.cell? ⟨b, o + 2 + i, none⟩ = some (.int .u8 ((p.b.getD i 0).toNat : Int))
  cw : w.cell? ⟨b, o + 258, none⟩ = some (.bool p.watched)
  la : p.at_ < 4294967296
def Ps5 (w : World) (ao : Option Addr) (l : List P5) : Prop := l = [] ∨ ∃ b off, ao = some ⟨b, off, none⟩ ∧ b < w.heap.size ∧ ∀ j, j < l.length → P5At w b (off + j * 259) (l.getD j nop5)
theorem Ps5.at {w : World} {ao : Option Addr} {l : List P5} (h : Ps5 w ao l) {k : Nat} (hk : k < l.length) : ∃ b off, ao = some ⟨b, off, none⟩ ∧ b < w.heap.size ∧ ∀ j, j < l.length → P5At w b (off + j * 259) (l.getD j nop5) := by
  rcases h with h | h
  · rw [h] at hk; simp at hk
  · exact h
/-- Where a page stands: its length, if nowhere. -/
def find5 (l : List P5) (p : Nat) : Nat := l.findIdx fun x => x.at_ == p
def find5I (l : List P5) (p : Nat) : Int := if find5 l p < l.length then (find5 l p : Int) else -1
theorem find5_here {l : List P5} {p k : Nat} (hk : k < l.length) (hn : ∀ a, a < k → (l.getD a nop5).at_ ≠ p) (he : (l.getD k nop5).at_ = p) : find5 l p = k := by
  unfold find5
  rw [List.findIdx_eq hk]
  refine ⟨?_, fun j hj => ?_⟩
  · simpa [List.getD_eq_getElem?_getD, hk] using he
  · have := hn j hj
    have hj2 : j < l.length := Nat.lt_trans hj hk
    simpa [List.getD_eq_getElem?_getD, hj2] using this
theorem find5_none {l : List P5} {p : Nat} (hn : ∀ a, a < l.length → (l.getD a nop5).at_ ≠ p) : ¬ find5 l p < l.length := by
  unfold find5
  rw [List.findIdx_lt_length]
  rintro ⟨x, hx, he⟩
  obtain ⟨j, hj, rfl⟩ := List.getElem_of_mem hx
  have := hn j hj
  simp [List.getD_eq_getElem?_getD, hj] at this
  simp at he
  exact this he
theorem find5_at {l : List P5} {p : Nat} (h : find5 l p < l.length) : (l.getD (find5 l p) nop5).at_ = p := by
  have h2 := eq_of_beq (List.findIdx_getElem (xs := l) (p := fun x : P5 => x.at_ == p) (w := h))
  rw [List.getD_eq_getElem?_getD, List.getElem?_eq_getElem h]
  exact h2
set_option maxRecDepth 20000 in
theorem page5_any (a : Nat) (ha : a < 4294967296) (w : World) : Calls Try.prog 62 #[.int .u32 (a : Int)] w fun e w' => e = .returned (.int .u32 ((a / 256 * 256 : Nat) : Int)) ∧ w' = w := by
  have e0 : ((a : Int) - (a : Int) % 256) % 4294967296 = ((a / 256 * 256 : Nat) : Int) := by omega
  go_enter Try.func62, Try.ntmps62
  go_wp2
  go_ret
  exact ⟨ret_int (by omega), rfl⟩
set_option maxRecDepth 20000 in
set_option maxHeartbeats 8000000 in
theorem find_any (w : World) (m : Nat) (ao : Option Addr) (cap a : Nat) (l : List P5) (h : Ps5 w ao l) (h1 : w.cell? ⟨m, 1, none⟩ = some (.slice ao l.length cap)) (hmax : l.length ≤ 1000) (ha : a < 4294967296) : Calls Try.prog 61 #[.pointer (some ⟨m, 0, none⟩), .int .u32 (a : Int)] w fun e w' => e = .returned (.int .i64 (find5I l (a / 256 * 256))) ∧ w' = w := by
  have H := hidden h
  obtain ⟨p, hp⟩ : ∃ p, a / 256 * 256 = p := ⟨_, rfl⟩
  have C : Hid (Calls Try.prog 62 #[.int .u32 (a : Int)] w fun e w' => e = .returned (.int .u32 (p : Int)) ∧ w' = w) := by rw [← hp]; exact page5_any a ha w
  rw [hp]
  have hp2 : p < 4294967296 := by omega
  clear h hp
  go_enter Try.func61, Try.ntmps61
  go_wp2_with (first | (go_at_call 62; refine (Hid.out C).mono ?_; rintro e w4 ⟨rfl, hww⟩; rw [hww]; clear hww w4))
  go_loopw [6] (fun x6 wr => ∃ k : Nat, k ≤ l.length ∧ x6 = .int .i64 (k : Int) ∧ wr = w ∧ ∀ j, j < k → (l.getD j nop5).at_ ≠ p) (fun x6 _ => l.length - (intOf x6).toNat)
  case atStart => exact ⟨0, by omega, rfl, rfl, by omega⟩
  case round =>
    obtain ⟨k, hk, rfl, rfl, hno⟩ := hrel
    have HN := hidden hno
    clear hno
    by_cases hkl : k < l.length
    · obtain ⟨b, off, rfl, hlt, hc⟩ := (Hid.out H).at hkl
      obtain ⟨s, hs⟩ : ∃ s, s = l.getD k nop5 := ⟨_, rfl⟩
      have hat := hc k hkl
      rw [← hs] at hat
      have c0 := hat.c0
      have la := hat.la
      have HS := hidden hs
      have hkl2 : (k : Int) < (l.length : Int) := by omega
      clear hc hs hat
      by_cases z : s.at_ = p
      · have y : (s.at_ : Int) = (p : Int) := by omega
        have HR := hidden (find5_here hkl (Hid.out HN) (by rw [← Hid.out HS]; exact z))
        go_wp2
        go_ret
        refine ⟨?_, rfl⟩
        have e1 := Hid.out HR
        unfold find5I
        rw [e1, if_pos hkl]
        rfl
      · have y : ¬ (s.at_ : Int) = (p : Int) := by omega
        go_wp2
        go_roundw
        case rel =>
          refine ⟨k + 1, by omega, by first | rfl | simp, by first | rfl | trivial, fun j hj => ?_⟩
          rcases Nat.lt_succ_iff_lt_or_eq.1 hj with h | h
          · exact Hid.out HN j h
          · subst h; rw [← Hid.out HS]; exact z
        case measure => simp [intOf]; omega
    · have hkl2 : ¬ (k : Int) < (l.length : Int) := by omega
      have hkk : k = l.length := by omega
      have HR := hidden (find5_none (l := l) (p := p) (by rw [← hkk]; exact Hid.out HN))
      clear hkk
      go_wp2
      go_ret
      refine ⟨?_, rfl⟩
      have e1 := Hid.out HR
      unfold find5I
      rw [if_neg e1]
      rfl
theorem find5I_yes {l : List P5} {p : Nat} (h : find5 l p < l.length) : find5I l p = (find5 l p : Int) := if_pos h
theorem find5I_no {l : List P5} {p : Nat} (h : ¬ find5 l p < l.length) : find5I l p = -1 := if_neg h
/-- What the page of a place allows: 0 where there is none. -/
def perm5 (l : List P5) (p : Nat) : Int := if find5 l p < l.length then (l.getD (find5 l p) nop5).perm else 0
set_option maxRecDepth 20000 in
theorem perm5_any (w : World) (m : Nat) (ao : Option Addr) (cap a : Nat) (l : List P5) (h : Ps5 w ao l) (h1 : w.cell? ⟨m, 1, none⟩ = some (.slice ao l.length cap)) (hmax : l.length ≤ 1000) (ha : a < 4294967296) : Calls Try.prog 47 #[.pointer (some ⟨m, 0, none⟩), .int .u32 (a : Int)] w fun e w' => e = .returned (.int .i64 (perm5 l (a / 256 * 256))) ∧ w' = w := by
  have C := hidden (find_any w m ao cap a l h h1 hmax ha)
  obtain ⟨p, hp⟩ : ∃ p, a / 256 * 256 = p := ⟨_, rfl⟩
  rw [hp] at C ⊢
  unfold perm5
  by_cases hf : find5 l p < l.length
  · rw [find5I_yes hf] at C
    rw [if_pos hf]
    obtain ⟨k, hk⟩ : ∃ k, find5 l p = k := ⟨_, rfl⟩
    rw [hk] at C hf ⊢
    obtain ⟨b, off, rfl, hlt, hc⟩ := h.at hf
    have c1 := (hc k hf).c1
    generalize (l.getD k nop5).perm = pm at c1 ⊢
    have hk0 : (0 : Int) ≤ (k : Int) := by omega
    clear hp hk h hc
    go_enter Try.func47, Try.ntmps47
    go_wp2_with (first | (go_at_call 61; refine (Hid.out C).mono ?_; rintro e w4 ⟨rfl, hww⟩; rw [hww]; clear hww w4))
    go_ret
    exact ⟨rfl, rfl⟩
  · rw [find5I_no hf] at C
    rw [if_neg hf]
    clear hp h hf
    go_enter Try.func47, Try.ntmps47
    go_wp2_with (first | (go_at_call 61; refine (Hid.out C).mono ?_; rintro e w4 ⟨rfl, hww⟩; rw [hww]; clear hww w4))
    go_ret
    exact ⟨rfl, rfl⟩
/-- The byte at a place: 0 where there is no page. -/
def peek5 (l : List P5) (a : Nat) : UInt8 := if find5 l (a / 256 * 256) < l.length then (l.getD (find5 l (a / 256 * 256)) nop5).b.getD (a % 256) 0 else 0
set_option maxRecDepth 20000 in
theorem peek5_any (w : World) (m : Nat) (ao : Option Addr) (cap a : Nat) (l : List P5) (h : Ps5 w ao l) (h1 : w.cell? ⟨m, 1, none⟩ = some (.slice ao l.length cap)) (hmax : l.length ≤ 1000) (ha : a < 4294967296) : Calls Try.prog 69 #[.pointer (some ⟨m, 0, none⟩), .int .u32 (a : Int)] w fun e w' => e = .returned (.int .u8 ((peek5 l a).toNat : Int)) ∧ w' = w := by
  have C := hidden (find_any w m ao cap a l h h1 hmax ha)
  unfold peek5
  obtain ⟨p, hp⟩ : ∃ p, a / 256 * 256 = p := ⟨_, rfl⟩
  rw [hp] at C ⊢
  by_cases hf : find5 l p < l.length
  · rw [find5I_yes hf] at C
    rw [if_pos hf]
    obtain ⟨k, hk⟩ : ∃ k, find5 l p = k := ⟨_, rfl⟩
    rw [hk] at C hf ⊢
    obtain ⟨b, off, rfl, hlt, hc⟩ := h.at hf
    have c1 := (hc k hf).cb (a % 256) (by omega)
    generalize (l.getD k nop5).b.getD (a % 256) 0 = pm at c1 ⊢
    have hpm : pm.toNat < 256 := pm.toNat_lt
    have hk0 : (0 : Int) ≤ (k : Int) := by omega
    obtain ⟨q, hq⟩ : ∃ q, a % 256 = q := ⟨_, rfl⟩
    rw [hq] at c1
    have hq2 : (a : Int) % 256 = (q : Int) := by omega
    have hq3 : q < 256 := by omega
    clear hp hk h hc hq
    go_enter Try.func69, Try.ntmps69
    go_wp2_with (first | (go_at_call 61; refine (Hid.out C).mono ?_; rintro e w4 ⟨rfl, hww⟩; rw [hww]; clear hww w4))
    go_ret
    exact ⟨rfl, rfl⟩
  · rw [find5I_no hf] at C
    rw [if_neg hf]
    clear hp h hf
    go_enter Try.func69, Try.ntmps69
    go_wp2_with (first | (go_at_call 61; refine (Hid.out C).mono ?_; rintro e w4 ⟨rfl, hww⟩; rw [hww]; clear hww w4))
    go_ret
    exact ⟨rfl, rfl⟩
end Go.Proofs.Ytodoenimlhldjaa
namespace Go.Proofs.Ytodoenimlhldjaa
open Go.ChangeShapes Go.WideShapes Go.ChangeAt Go.RowKit
set_option linter.unusedVariables false
theorem P5At.later {w w' : World} {b o : Nat} {p : P5} (h : P5At w b o p) (hlt : b < w.heap.size) {n : Nat} (hn : b < n) (hb : Below n w w') : P5At w' b o p :=
  ⟨(hb.cell (p := ⟨b, o, none⟩) hn).trans h.c0, (hb.cell (p := ⟨b, o + 1, none⟩) hn).trans h.c1, fun i hi => (hb.cell (p := ⟨b, o + 2 + i, none⟩) hn).trans (h.cb i hi), (hb.cell (p := ⟨b, o + 258, none⟩) hn).trans h.cw, h.la⟩
theorem Ps5.later {w w' : World} {ao : Option Addr} {l : List P5} (h : Ps5 w ao l) (hb : Below w.heap.size w w') : Ps5 w' ao l := by
  rcases h with h | ⟨b, off, e, hlt, h⟩
  · exact .inl h
  · exact .inr ⟨b, off, e, Nat.lt_of_lt_of_le hlt hb.size, fun j hj => (h j hj).later hlt hlt hb⟩
theorem take5 {l : List P5} {k : Nat} (h : k < l.length) : (l.take k).map P5.at_ ++ [(l.getD k nop5).at_] = (l.take (k + 1)).map P5.at_ := by
  rw [List.take_add_one, List.getElem?_eq_getElem h, List.getD_eq_getElem?_getD, List.getElem?_eq_getElem h, List.map_append]
  rfl
/-- One byte put behind a row of the call's own. -/
theorem wpList_pushB {ops : Array Oper} {rest : List Oper} {o : Oper} {a : Act} {Q : Exit → Act → World → Prop} {w wa : World} (hgd : o.guard = none) (s y : Operand)
    (ho : o.op = .call { callee := .builtin .append, args := #[s, y], argTypes := #[50, 50] }) (base : Nat) (v : Value) (l : List UInt8) (z : UInt8) (hwa : wa = w.alloc (.cells #[.int .u8 (z.toNat : Int)] 5)) (hs : a.eval s = v) (hy : a.eval y = .slice (some ⟨w.heap.size, 0, none⟩) 1 1)
    (hown : w.ownsRow base 5 1 v l.length (cellsU l)) (hl : l.length < 1000000) (hbase : base ≤ w.heap.size)
    (h : ∀ v' w', w'.ownsRow base 5 1 v' (l ++ [z]).length (cellsU (l ++ [z])) → Below base w w' → wpList Try.prog ops Q rest (a.put o.dst v') w') : wpList Try.prog ops Q (o :: rest) a wa := by
  obtain ⟨i0, hi, hz0, hz1, hz2⟩ := info_parts info5
  subst hwa
  refine wpList_append_own _ hgd s y 50 ho base 5 i0 (.int .u8 0) 1 1 Try.underlying50 hi hz0 hz1 hz2 rfl (by decide) v l.length (cellsU l) hs (hown.alloc _) ⟨w.heap.size, 0, none⟩ 1 1 (cellsU [z]) hy rfl ?_ (cellsU_one _) (by simp [maxLen]; omega) (by omega) (by simp; omega) ?_
  · refine Lies.cells (fun j hj => ?_)
    have : j = 0 := by simp at hj; omega
    subst this
    rw [cell_of_row _ _ _ _ _ _ (heap_alloc_new w _)]
    rfl
  · intro v' w' hown' hgrow _
    rw [← cellsU_append] at hown'
    refine h v' w' (by simpa using hown') ?_
    refine ((Below.refl base w).alloc hbase _).grown hgrow (by simp; omega) ?_
    intro k hk
    exact (hown.lt k hk).1
/-- The bytes from a place on. -/
def bytes5 (l : List P5) (a k : Nat) : List UInt8 := (List.range k).map fun i => peek5 l ((a + i) % 4294967296)
theorem bytes5_snoc (l : List P5) (a k : Nat) : bytes5 l a (k + 1) = bytes5 l a k ++ [peek5 l ((a + k) % 4294967296)] := by
  unfold bytes5
  rw [List.range_succ, List.map_append]
  rfl
set_option maxRecDepth 20000 in
set_option maxHeartbeats 8000000 in
theorem bytes5_any (w : World) (m : Nat) (ao : Option Addr) (cap a : Nat) (c : Nat) (l : List P5) (h : Ps5 w ao l) (hm : m < w.heap.size) (h1 : w.cell? ⟨m, 1, none⟩ = some (.slice ao l.length cap)) (hmax : l.length ≤ 1000) (ha : a < 4294967296) (hc : c ≤ 16384) : Calls Try.prog 48 #[.pointer (some ⟨m, 0, none⟩), .int .u32 (a : Int), .int .i64 (c : Int)] w fun e w' => ∃ v, e = .returned v ∧ w'.ownsRow w.heap.size 5 1 v (bytes5 l a c).length (cellsU (bytes5 l a c)) ∧ Below w.heap.size w w' := by
  have H := hidden h
  have H1 := hidden h1
  obtain ⟨n, hn⟩ : ∃ n, w.heap.size = n := ⟨_, rfl⟩
  have HM : Hid (m < n) := by rw [← hn]; exact hm
  have HN := hidden hn
  rw [hn]
  clear h hm hn h1
  have B0 := hidden (Below.refl n w)
  have R0 := hidden (World.ownsRow_nil w n 5 1)
  have NN : Hid (n ≤ w.heap.size) := by rw [Hid.out HN]; exact Nat.le_refl _
  have hmin : min (c : Int) 16384 = (c : Int) := by omega
  have HC := hidden hc
  have hc2 : (c : Int) ≤ 16384 := by omega
  clear hc
  go_enter Try.func48, Try.ntmps48
  go_wp2
  go_loopw [7, 8] (fun x7 x8 wr => ∃ (k : Nat) (ts : List UInt8), k ≤ c ∧ x8 = .int .i64 (k : Int) ∧ ts = bytes5 l a k ∧ wr.ownsRow n 5 1 x7 ts.length (cellsU ts) ∧ Below n w wr) (fun _ x8 _ => c - (intOf x8).toNat)
  case atStart => exact ⟨0, [], by omega, rfl, by simp [bytes5], Hid.out R0, Hid.out B0⟩
  case round =>
    obtain ⟨k, ts, hk, rfl, hts, hrow, hb⟩ := hrel
    have hbs : n ≤ wr.heap.size := Nat.le_trans (Hid.out NN) hb.size
    have htl : ts.length = k := by rw [hts]; simp [bytes5]
    have hlen : ts.length < 1000000 := by have := Hid.out HC; omega
    have HR := hidden hrow
    have HB := hidden hb
    have HT := hidden hts
    have HL := hidden hlen
    have HBS := hidden hbs
    by_cases hkl : k < c
    · obtain ⟨q, hq⟩ : ∃ q, (a + k) % 4294967296 = q := ⟨_, rfl⟩
      have hq2 : ((a : Int) + (k : Int)) % 4294967296 = (q : Int) := by omega
      have hk3 : (k : Int) % 4294967296 = (k : Int) := by have := Hid.out HC; omega
      have C := hidden (peek5_any wr m ao cap q l ((Hid.out H).later (by rw [Hid.out HN]; exact hb)) ((hb.cell (p := ⟨m, 1, none⟩) (Hid.out HM)).trans (Hid.out H1)) hmax (by omega))
      obtain ⟨z, hz⟩ : ∃ z, peek5 l q = z := ⟨_, rfl⟩
      rw [hz] at C
      have hkl2 : (k : Int) < (c : Int) := by omega
      have HQ := hidden hq
      have HZ := hidden hz
      clear hb hrow hts htl hlen hbs hq hz
      go_wp2_with (first | (go_at_call 69; refine (Hid.out C).mono ?_; rintro e w4 ⟨rfl, hww⟩; rw [hww]; clear hww w4) | (at_builtin; refine wpList_pushB rfl _ _ rfl n _ ts z rfl rfl rfl (Hid.out HR) (Hid.out HL) (Hid.out HBS) ?_; intro v' w1 hown hgr; have HO := hidden hown; have HG := hidden hgr; clear hown hgr))
      go_roundw
      case rel =>
        refine ⟨k + 1, ts ++ [z], by omega, by first | rfl | simp, ?_, Hid.out HO, (Hid.out HB).trans (Hid.out HG)⟩
        rw [bytes5_snoc, Hid.out HT, Hid.out HQ, Hid.out HZ]
      case measure => simp [intOf]; omega
    · have hkl2 : ¬ (k : Int) < (c : Int) := by omega
      have hkk : k = c := by omega
      have HK := hidden hkk
      clear hb hrow hts htl hlen hbs hkk
      go_wp2
      go_ret
      have e1 : ts = bytes5 l a c := by rw [Hid.out HT, Hid.out HK]
      exact ⟨_, rfl, by rw [← e1]; exact Hid.out HR, Hid.out HB⟩
set_option maxRecDepth 20000 in
set_option maxHeartbeats 8000000 in
theorem pages5_any (w : World) (m : Nat) (ao : Option Addr) (cap : Nat) (l : List P5) (h : Ps5 w ao l) (hm : m < w.heap.size) (h1 : w.cell? ⟨m, 1, none⟩ = some (.slice ao l.length cap)) (hmax : l.length ≤ 1000) : Calls Try.prog 46 #[.pointer (some ⟨m, 0, none⟩)] w fun e w' => ∃ v, e = .returned v ∧ w'.ownsRow w.heap.size 23 1 v (l.map P5.at_).length (words (l.map P5.at_)) ∧ Below w.heap.size w w' := by
  have H := hidden h
  have H1 := hidden h1
  obtain ⟨n, hn⟩ : ∃ n, w.heap.size = n := ⟨_, rfl⟩
  have HM : Hid (m < n) := by rw [← hn]; exact hm
  have HN := hidden hn
  rw [hn]
  clear h hm hn h1
  have B0 := hidden (Below.refl n w)
  have R0 := hidden (World.ownsRow_nil w n 23 1)
  have NN : Hid (n ≤ w.heap.size) := by rw [Hid.out HN]; exact Nat.le_refl _
  go_enter Try.func46, Try.ntmps46
  go_wp2
  go_loopw [3, 4] (fun x3 x4 wr => ∃ (k : Nat) (ts : List Nat), k ≤ l.length ∧ x4 = .int .i64 (k : Int) ∧ ts = (l.take k).map P5.at_ ∧ wr.ownsRow n 23 1 x3 ts.length (words ts) ∧ Below n w wr) (fun _ x4 _ => l.length - (intOf x4).toNat)
  case atStart => exact ⟨0, [], by omega, rfl, by simp, Hid.out R0, Hid.out B0⟩
  case round =>
    obtain ⟨k, ts, hk, rfl, hts, hrow, hb⟩ := hrel
    have hbs : n ≤ wr.heap.size := Nat.le_trans (Hid.out NN) hb.size
    have r1 : wr.cell? ⟨m, 1, none⟩ = some (.slice ao l.length cap) := (hb.cell (p := ⟨m, 1, none⟩) (Hid.out HM)).trans (Hid.out H1)
    have htl : ts.length = k := by rw [hts]; simp; omega
    have hlen : ts.length < 1099511627776 := by omega
    have HR := hidden hrow
    have HB := hidden hb
    have HT := hidden hts
    have HL := hidden hlen
    have HBS := hidden hbs
    by_cases hkl : k < l.length
    · obtain ⟨b, off, rfl, hlt, hc⟩ := ((Hid.out H).later (by rw [Hid.out HN]; exact hb)).at hkl
      obtain ⟨s, hs⟩ : ∃ s, s = l.getD k nop5 := ⟨_, rfl⟩
      have hat := hc k hkl
      rw [← hs] at hat
      have c0 := hat.c0
      have la := hat.la
      have HS := hidden hs
      have hkl2 : (k : Int) < (l.length : Int) := by omega
      clear hc hs hat hb hrow hts htl hlen hbs
      go_wp2_with (at_builtin; refine wpList_pushW rfl _ _ rfl n _ ts (s.at_ : Int) wr rfl rfl rfl (Hid.out HR) (Hid.out HL) (Hid.out HBS) ?_; intro v' w1 hown hgr hloc; have HO := hidden hown; have HG := hidden hgr; clear hown hgr hloc)
      go_roundw
      case rel =>
        refine ⟨k + 1, ts ++ [s.at_], by omega, by first | rfl | simp, ?_, ?_, ?_⟩
        · rw [Hid.out HT, Hid.out HS]
          exact take5 hkl
        · have := Hid.out HO
          simpa [words] using this
        · exact (Hid.out HB).grown (Hid.out HG) (Hid.out HBS) fun j hj => ((Hid.out HR).lt j hj).1
      case measure => simp [intOf]; omega
    · have hkl2 : ¬ (k : Int) < (l.length : Int) := by omega
      have hkk : k = l.length := by omega
      have HK := hidden hkk
      clear hb hrow hts htl hlen hbs hkk
      go_wp2
      go_ret
      have e1 : ts = l.map P5.at_ := by rw [Hid.out HT, Hid.out HK, List.take_length]
      have e2 : ts.length = l.length := by rw [e1, List.length_map]
      have HR2 := Hid.out HR
      rw [e2] at HR2
      exact ⟨_, rfl, by rw [← e1]; exact HR2, Hid.out HB⟩
end Go.Proofs.Ytodoenimlhldjaa
namespace Go.Proofs.Ytodoenimlhldjaa
open Go.ChangeShapes Go.WideShapes Go.ChangeAt Go.RowKit
set_option linter.unusedVariables false
def one5 (p : P5) : List Value := .int .u32 (p.at_ : Int) :: .int .i64 p.perm :: (cellsU p.b ++ [.bool p.watched])
def cells5 (l : List P5) : List Value := l.flatMap one5
structure Fit5 (p : P5) : Prop where
  lb : p.b.length = 256
  la : p.at_ < 4294967296
theorem one5_len {p : P5} (h : Fit5 p) : (one5 p).length = 259 := by simp [one5, cellsU, h.lb]
theorem one5_byte {p : P5} (h : Fit5 p) {i : Nat} (hi : i < 256) : (one5 p)[2 + i]? = some (.int .u8 ((p.b.getD i 0).toNat : Int)) := by
  have h2 : i < p.b.length := by rw [h.lb]; exact hi
  have : one5 p = [.int .u32 (p.at_ : Int), .int .i64 p.perm] ++ (cellsU p.b ++ [.bool p.watched]) := rfl
  rw [this, List.getElem?_append_right (by simp), List.getElem?_append_left (by simp [cellsU]; omega)]
  simp [cellsU, h2]
theorem one5_watch {p : P5} (h : Fit5 p) : (one5 p)[258]? = some (.bool p.watched) := by
  have : one5 p = ([.int .u32 (p.at_ : Int), .int .i64 p.perm] ++ cellsU p.b) ++ [.bool p.watched] := by simp [one5]
  rw [this, List.getElem?_append_right (by simp [cellsU, h.lb])]
  simp [cellsU, h.lb]
theorem cells5_cons (p : P5) (l : List P5) : cells5 (p :: l) = one5 p ++ cells5 l := rfl
theorem cells5_append (l k : List P5) : cells5 (l ++ k) = cells5 l ++ cells5 k := by unfold cells5; rw [List.flatMap_append]
theorem cells5_len : ∀ {l : List P5}, (∀ p ∈ l, Fit5 p) → (cells5 l).length = l.length * 259
  | [], _ => rfl
  | p :: l, h => by
    rw [cells5_cons, List.length_append, one5_len (h p (List.mem_cons_self ..)), cells5_len (fun q hq => h q (List.mem_cons_of_mem _ hq)), List.length_cons]
    omega
theorem cells5_get : ∀ {l : List P5}, (∀ p ∈ l, Fit5 p) → ∀ (j i : Nat), j < l.length → i < 259 → (cells5 l)[j * 259 + i]? = (one5 (l.getD j nop5))[i]?
  | [], _, j, i, h, _ => by simp at h
  | p :: l, hf, 0, i, _, hi => by
    rw [cells5_cons, List.getElem?_append_left (by rw [one5_len (hf p (List.mem_cons_self ..))]; omega)]
    simp
  | p :: l, hf, j + 1, i, h, hi => by
    have hl := one5_len (hf p (List.mem_cons_self ..))
    rw [cells5_cons, List.getElem?_append_right (by rw [hl]; omega), hl, show (j + 1) * 259 + i - 259 = j * 259 + i by omega, cells5_get (fun q hq => hf q (List.mem_cons_of_mem _ hq)) j i (by simpa using h) hi]
    simp
theorem cells5_set : ∀ {l : List P5}, (∀ p ∈ l, Fit5 p) → ∀ (j i : Nat) (q : P5) (v : Value), j < l.length → i < 259 → one5 q = (one5 (l.getD j nop5)).set i v → (cells5 l).set (j * 259 + i) v = cells5 (l.set j q)
  | [], _, j, i, _, _, h, _, _ => by simp at h
  | p :: l, hf, 0, i, q, v, _, hi, he => by
    rw [cells5_cons, List.set_append_left _ _ (by rw [one5_len (hf p (List.mem_cons_self ..))]; omega), List.set_cons_zero, cells5_cons, he]
    simp
  | p :: l, hf, j + 1, i, q, v, h, hi, he => by
    have hl := one5_len (hf p (List.mem_cons_self ..))
    rw [cells5_cons, List.set_append_right _ _ (by rw [hl]; omega), hl, show (j + 1) * 259 + i - 259 = j * 259 + i by omega, List.set_cons_succ, cells5_cons, cells5_set (fun q hq => hf q (List.mem_cons_of_mem _ hq)) j i q v (by simpa using h) hi (by simpa using he)]
/-- A memory of chapter 5's own: where it lies and what it holds. -/
structure S5 where
  m : Nat
  most : Nat
  l : List P5
  vP : Value
  ts : List Nat
  vT : Value
structure M5 (w : World) (s : S5) : Prop where
  self : Blk w s.m #[.int .i64 (s.most : Int), s.vP, s.vT] 96
  pages : w.ownsRow 0 116 259 s.vP s.l.length (cells5 s.l)
  touched : w.ownsRow 0 23 1 s.vT s.ts.length (words s.ts)
  fit : ∀ p ∈ s.l, Fit5 p
  few : s.l.length ≤ 1000
def foot5 (s : S5) (b : Nat) : Prop := b = s.m ∨ s.vP.ownBlock = some b ∨ s.vT.ownBlock = some b
structure Step5 (w : World) (s : S5) (w' : World) (s' : S5) : Prop where
  mem : M5 w' s'
  keep : Keep (foot5 s) w w'
  grow : ∀ b, foot5 s' b → foot5 s b ∨ w.heap.size ≤ b
theorem M5.fitAt {w : World} {s : S5} (h : M5 w s) {k : Nat} (hk : k < s.l.length) : Fit5 (s.l.getD k nop5) := by
  rw [List.getD_eq_getElem?_getD, List.getElem?_eq_getElem hk]
  exact h.fit _ (List.getElem_mem hk)
/-- The row of pages, where there is one. -/
theorem M5.row {w : World} {s : S5} (h : M5 w s) {k : Nat} (hk : k < s.l.length) : ∃ g off cap, off = 0 ∧ s.vP = .slice (some ⟨g, off, none⟩) s.l.length cap ∧ g < w.heap.size ∧ (∀ j, w.frozen? ⟨g, j, none⟩ = false) ∧ (∃ cur, Blk w g cur 116) ∧ ∀ j i v, j < s.l.length → i < 259 → (one5 (s.l.getD j nop5))[i]? = some v → w.cell? ⟨g, off + j * 259 + i, none⟩ = some v := by
  have hp := h.pages
  rcases hp.2 with ⟨_, hz⟩ | ⟨g, cap, cur, e, _, hg, hnc, hcm, _, _⟩
  · omega
  · refine ⟨g, 0, cap, rfl, e, (Array.getElem?_eq_some_iff.1 hg).1, fun j => frozen_of_row _ _ _ _ _ hg, ⟨cur, hg⟩, fun j i v hj hi hv => ?_⟩
    rw [e] at hp
    have := hp.cells (g := g) rfl (j * 259 + i) v (by rw [cells5_get h.fit j i hj hi]; exact hv)
    rw [Addr.add_lit] at this
    rw [Nat.add_assoc]
    exact this
theorem M5.ps {w : World} {s : S5} (h : M5 w s) : ∃ ao cap, s.vP = .slice ao s.l.length cap ∧ Ps5 w ao s.l := by
  by_cases hl : s.l = []
  · rcases h.pages.2 with ⟨e, hz⟩ | ⟨g, cap, cur, e, _⟩
    · exact ⟨none, 0, by rw [e, hz], .inl hl⟩
    · exact ⟨_, cap, e, .inl hl⟩
  · obtain ⟨g, off, cap, h0, e, hlt, _, _, hc⟩ := h.row (k := 0) (List.length_pos_iff.2 hl)
    refine ⟨_, cap, e, .inr ⟨g, off, rfl, hlt, fun j hj => ?_⟩⟩
    have hf := h.fitAt hj
    refine ⟨hc j 0 _ hj (by omega) rfl, hc j 1 _ hj (by omega) rfl, fun i hi => ?_, hc j 258 _ hj (by omega) ?_, hf.la⟩
    · rw [Nat.add_assoc _ 2 i]
      exact hc j (2 + i) _ hj (by omega) (one5_byte hf hi)
    · exact one5_watch hf
theorem M5.cellP {w : World} {s : S5} (h : M5 w s) : w.cell? ⟨s.m, 1, none⟩ = some s.vP := h.self.cell rfl
theorem M5.lt {w : World} {s : S5} (h : M5 w s) : s.m < w.heap.size := h.self.lt
set_option maxRecDepth 20000 in
theorem new5_any (most : Nat) (z : Int) (hz : min (max z 0) 64 = (most : Int)) (w : World) : Calls Try.prog 30 #[.int .i64 z] w fun e w' => e = .returned (.pointer (some ⟨w.heap.size, 0, none⟩)) ∧ Below w.heap.size w w' ∧ M5 w' ⟨w.heap.size, most, [], .slice none 0 0, [], .slice none 0 0⟩ := by
  have HE : Hid (∀ q : Int, q = (most : Int) → Below w.heap.size w (w.alloc (.cells #[.int .i64 q, .slice none 0 0, .slice none 0 0] 96)) ∧ M5 (w.alloc (.cells #[.int .i64 q, .slice none 0 0, .slice none 0 0] 96)) ⟨w.heap.size, most, [], .slice none 0 0, [], .slice none 0 0⟩) := by
    rintro q rfl
    exact ⟨below_new w _, Blk.new w _ _, World.ownsRow_nil _ _ _ _, World.ownsRow_nil _ _ _ _, by simp, by simp⟩
  have HZ := hidden hz
  clear hz
  go_enter Try.func30, Try.ntmps30
  go_wp2
  all_goals go_wp2
  all_goals go_ret
  all_goals exact ⟨rfl, (Hid.out HE _ (by have := Hid.out HZ; omega)).1, (Hid.out HE _ (by have := Hid.out HZ; omega)).2⟩
end Go.Proofs.Ytodoenimlhldjaa

/- Chapter 5's own memory: its pages in a row, and what finds and reads them. -/
import Derived.Test.YtfbmkgdpejgjpaaPBlks
import Derived.Lib.BufferMore
import Derived.Deep.Cut
import Derived.Maps.AppendAt
import Derived.Deep.MidRow
import Derived.Deep.Upon
namespace Go.Proofs.Ytfbmkgdpejgjpaa
open Go.ChangeShapes Go.WideShapes Go.ChangeAt Go.RowKit
set_option linter.unusedVariables false
/-- A page. -/
structure P5 where
  at_ : Nat
  perm : Int
  b : List UInt8
  watched : Bool
def nop5 : P5 := ⟨0, 0, [], false⟩
structure P5At (w : World) (b o : Nat) (p : P5) : Prop where
  c0 : w.cell? ⟨b, o, none⟩ = some (.int .u32 (p.at_ : Int))
  c1 : w.cell? ⟨b, o + 1, none⟩ = some (.int .i64 p.perm)
  cb : ∀ i, i < 256 → w.cell? ⟨b, o + 2 + i, none⟩ = some (.int .u8 ((p.b.getD i 0).toNat : Int))
  cw : w.cell? ⟨b, o + 258, none⟩ = some (.bool p.watched)
  la : p.at_ < 4294967296
def Ps5 (w : World) (ao : Option Addr) (l : List P5) : Prop := l = [] ∨ ∃ b off, ao = some ⟨b, off, none⟩ ∧ b < w.heap.size ∧ ∀ j, j < l.length → P5At w b (off + j * 259) (l.getD j nop5)
theorem Ps5.at {w : World} {ao : Option Addr} {l : List P5} (h : Ps5 w ao l) {k : Nat} (hk : k < l.length) : ∃ b off, ao = some ⟨b, off, none⟩ ∧ b < w.heap.size ∧ ∀ j, j < l.length → P5At w b (off + j * 259) (l.getD j nop5) := by
  rcases h with h | h
  · rw [h] at hk; simp at hk
  · exact h
/-- Where a page stands: its length, if nowhere. -/
def find5 (l : List P5) (p : Nat) : Nat := l.findIdx fun x => x.at_ == p
def find5I (l : List P5) (p : Nat) : Int := if find5 l p < l.length then (find5 l p : Int) else -1
theorem find5_here {l : List P5} {p k : Nat} (hk : k < l.length) (hn : ∀ a, a < k → (l.getD a nop5).at_ ≠ p) (he : (l.getD k nop5).at_ = p) : find5 l p = k := by
  unfold find5
  rw [List.findIdx_eq hk]
  refine ⟨?_, fun j hj => ?_⟩
  · simpa [List.getD_eq_getElem?_getD, hk] using he
  · have := hn j hj
    have hj2 : j < l.length := Nat.lt_trans hj hk
    simpa [List.getD_eq_getElem?_getD, hj2] using this
theorem find5_none {l : List P5} {p : Nat} (hn : ∀ a, a < l.length → (l.getD a nop5).at_ ≠ p) : ¬ find5 l p < l.length := by
  unfold find5
  rw [List.findIdx_lt_length]
  rintro ⟨x, hx, he⟩
  obtain ⟨j, hj, rfl⟩ := List.getElem_of_mem hx
  have := hn j hj
  simp [List.getD_eq_getElem?_getD, hj] at this
  simp at he
  exact this he
theorem find5_at {l : List P5} {p : Nat} (h : find5 l p < l.length) : (l.getD (find5 l p) nop5).at_ = p := by
  have h2 := eq_of_beq (List.findIdx_getElem (xs := l) (p := fun x : P5 => x.at_ == p) (w := h))
  rw [List.getD_eq_getElem?_getD, List.getElem?_eq_getElem h]
  exact h2
set_option maxRecDepth 20000 in
theorem page5_any (a : Nat) (ha : a < 4294967296) (w : World) : Calls Try.prog 48 #[.int .u32 (a : Int)] w fun e w' => e = .returned (.int .u32 ((a / 256 * 256 : Nat) : Int)) ∧ w' = w := by
  have e0 : ((a : Int) - (a : Int) % 256) % 4294967296 = ((a / 256 * 256 : Nat) : Int) := by omega
  go_enter Try.func48, Try.ntmps48
  go_wp2
  go_ret
  exact ⟨ret_int (by omega), rfl⟩
set_option maxRecDepth 20000 in
set_option maxHeartbeats 8000000 in
theorem find_any (w : World) (m : Nat) (ao : Option Addr) (cap a : Nat) (l : List P5) (h : Ps5 w ao l) (h1 : w.cell? ⟨m, 1, none⟩ = some (.slice ao l.length cap)) (hmax : l.length ≤ 1000) (ha : a < 4294967296) : Calls Try.prog 47 #[.pointer (some ⟨m, 0, none⟩), .int .u32 (a : Int)] w fun e w' => e = .returned (.int .i64 (find5I l (a / 256 * 256))) ∧ w' = w := by
  have H := hidden h
  obtain ⟨p, hp⟩ : ∃ p, a / 256 * 256 = p := ⟨_, rfl⟩
  have C : Hid (Calls Try.prog 48 #[.int .u32 (a : Int)] w fun e w' => e = .returned (.int .u32 (p : Int)) ∧ w' = w) := by rw [← hp]; exact page5_any a ha w
  rw [hp]
  have hp2 : p < 4294967296 := by omega
  clear h hp
  go_enter Try.func47, Try.ntmps47
  go_wp2_with (first | (go_at_call 48; refine (Hid.out C).mono ?_; rintro e w4 ⟨rfl, hww⟩; rw [hww]; clear hww w4))
  go_loopw [6] (fun x6 wr => ∃ k : Nat, k ≤ l.length ∧ x6 = .int .i64 (k : Int) ∧ wr = w ∧ ∀ j, j < k → (l.getD j nop5).at_ ≠ p) (fun x6 _ => l.length - (intOf x6).toNat)
  case atStart => exact ⟨0, by omega, rfl, rfl, by omega⟩
  case round =>
    obtain ⟨k, hk, rfl, rfl, hno⟩ := hrel
    have HN := hidden hno
    clear hno
    by_cases hkl : k < l.length
    · obtain ⟨b, off, rfl, hlt, hc⟩ := (Hid.out H).at hkl
      obtain ⟨s, hs⟩ : ∃ s, s = l.getD k nop5 := ⟨_, rfl⟩
      have hat := hc k hkl
      rw [← hs] at hat
      have c0 := hat.c0
      have la := hat.la
      have HS := hidden hs
      have hkl2 : (k : Int) < (l.length : Int) := by omega
      clear hc hs hat
      by_cases z : s.at_ = p
      · have y : (s.at_ : Int) = (p : Int) := by omega
        have HR := hidden (find5_here hkl (Hid.out HN) (by rw [← Hid.out HS]; exact z))
        go_wp2
        go_ret
        refine ⟨?_, rfl⟩
        have e1 := Hid.out HR
        unfold find5I
        rw [e1, if_pos hkl]
        rfl
      · have y : ¬ (s.at_ : Int) = (p : Int) := by omega
        go_wp2
        go_roundw
        case rel =>
          refine ⟨k + 1, by omega, by first | rfl | simp, by first | rfl | trivial, fun j hj => ?_⟩
          rcases Nat.lt_succ_iff_lt_or_eq.1 hj with h | h
          · exact Hid.out HN j h
          · subst h; rw [← Hid.out HS]; exact z
        case measure => simp [intOf]; omega
    · have hkl2 : ¬ (k : Int) < (l.length : Int) := by omega
      have hkk : k = l.length := by omega
      have HR := hidden (find5_none (l := l) (p := p) (by rw [← hkk]; exact Hid.out HN))
      clear hkk
      go_wp2
      go_ret
      refine ⟨?_, rfl⟩
      have e1 := Hid.out HR
      unfold find5I
      rw [if_neg e1]
      rfl
theorem find5I_yes {l : List P5} {p : Nat} (h : find5 l p < l.length) : find5I l p = (find5 l p : Int) := if_pos h
theorem find5I_no {l : List P5} {p : Nat} (h : ¬ find5 l p < l.length) : find5I l p = -1 := if_neg h
/-- What the page of a place allows: 0 where there is none. -/
def perm5 (l : List P5) (p : Nat) : Int := if find5 l p < l.length then (l.getD (find5 l p) nop5).perm else 0
set_option maxRecDepth 20000 in
theorem perm5_any (w : World) (m : Nat) (ao : Option Addr) (cap a : Nat) (l : List P5) (h : Ps5 w ao l) (h1 : w.cell? ⟨m, 1, none⟩ = some (.slice ao l.length cap)) (hmax : l.length ≤ 1000) (ha : a < 4294967296) : Calls Try.prog 27 #[.pointer (some ⟨m, 0, none⟩), .int .u32 (a : Int)] w fun e w' => e = .returned (.int .i64 (perm5 l (a / 256 * 256))) ∧ w' = w := by
  have C := hidden (find_any w m ao cap a l h h1 hmax ha)
  obtain ⟨p, hp⟩ : ∃ p, a / 256 * 256 = p := ⟨_, rfl⟩
  rw [hp] at C ⊢
  unfold perm5
  by_cases hf : find5 l p < l.length
  · rw [find5I_yes hf] at C
    rw [if_pos hf]
    obtain ⟨k, hk⟩ : ∃ k, find5 l p = k := ⟨_, rfl⟩
    rw [hk] at C hf ⊢
    obtain ⟨b, off, rfl, hlt, hc⟩ := h.at hf
    have c1 := (hc k hf).c1
    generalize (l.getD k nop5).perm = pm at c1 ⊢
    have hk0 : (0 : Int) ≤ (k : Int) := by omega
    clear hp hk h hc
    go_enter Try.func27, Try.ntmps27
    go_wp2_with (first | (go_at_call 47; refine (Hid.out C).mono ?_; rintro e w4 ⟨rfl, hww⟩; rw [hww]; clear hww w4))
    go_ret
    exact ⟨rfl, rfl⟩
  · rw [find5I_no hf] at C
    rw [if_neg hf]
    clear hp h hf
    go_enter Try.func27, Try.ntmps27
    go_wp2_with (first | (go_at_call 47; refine (Hid.out C).mono ?_; rintro e w4 ⟨rfl, hww⟩; rw [hww]; clear hww w4))
    go_ret
    exact ⟨rfl, rfl⟩
/-- The byte at a place: 0 where there is no page. -/
def peek5 (l : List P5) (a : Nat) : UInt8 := if find5 l (a / 256 * 256) < l.length then (l.getD (find5 l (a / 256 * 256)) nop5).b.getD (a % 256) 0 else 0
set_option maxRecDepth 20000 in
theorem peek5_any (w : World) (m : Nat) (ao : Option Addr) (cap a : Nat) (l : List P5) (h : Ps5 w ao l) (h1 : w.cell? ⟨m, 1, none⟩ = some (.slice ao l.length cap)) (hmax : l.length ≤ 1000) (ha : a < 4294967296) : Calls Try.prog 29 #[.pointer (some ⟨m, 0, none⟩), .int .u32 (a : Int)] w fun e w' => e = .returned (.int .u8 ((peek5 l a).toNat : Int)) ∧ w' = w := by
  have C := hidden (find_any w m ao cap a l h h1 hmax ha)
  unfold peek5
  obtain ⟨p, hp⟩ : ∃ p, a / 256 * 256 = p := ⟨_, rfl⟩
  rw [hp] at C ⊢
  by_cases hf : find5 l p < l.length
  · rw [find5I_yes hf] at C
    rw [if_pos hf]
    obtain ⟨k, hk⟩ : ∃ k, find5 l p = k := ⟨_, rfl⟩
    rw [hk] at C hf ⊢
    obtain ⟨b, off, rfl, hlt, hc⟩ := h.at hf
    have c1 := (hc k hf).cb (a % 256) (by omega)
    generalize (l.getD k nop5).b.getD (a % 256) 0 = pm at c1 ⊢
    have hpm : pm.toNat < 256 := pm.toNat_lt
    have hk0 : (0 : Int) ≤ (k : Int) := by omega
    obtain ⟨q, hq⟩ : ∃ q, a % 256 = q := ⟨_, rfl⟩
    rw [hq] at c1
    have hq2 : (a : Int) % 256 = (q : Int) := by omega
    have hq3 : q < 256 := by omega
    clear hp hk h hc hq
    go_enter Try.func29, Try.ntmps29
    go_wp2_with (first | (go_at_call 47; refine (Hid.out C).mono ?_; rintro e w4 ⟨rfl, hww⟩; rw [hww]; clear hww w4))
    go_ret
    exact ⟨rfl, rfl⟩
  · rw [find5I_no hf] at C
    rw [if_neg hf]
    clear hp h hf
    go_enter Try.func29, Try.ntmps29
    go_wp2_with (first | (go_at_call 47; refine (Hid.out C).mono ?_; rintro e w4 ⟨rfl, hww⟩; rw [hww]; clear hww w4))
    go_ret
    exact ⟨rfl, rfl⟩
end Go.Proofs.Ytfbmkgdpejgjpaa
namespace Go.Proofs.Ytfbmkgdpejgjpaa
open Go.ChangeShapes Go.WideShapes Go.ChangeAt Go.RowKit
set_option linter.unusedVariables false
theorem P5At.later {w w' : World} {b o : Nat} {p : P5} (h : P5At w b o p) (hlt : b < w.heap.size) {n : Nat} (hn : b < n) (hb : Below n w w') : P5At w' b o p :=
  ⟨(hb.cell (p := ⟨b, o, none⟩) hn).trans h.c0, (hb.cell (p := ⟨b, o + 1, none⟩) hn).trans h.c1, fun i hi => (hb.cell (p := ⟨b, o + 2 + i, none⟩) hn).trans (h.cb i hi), (hb.cell (p := ⟨b, o + 258, none⟩) hn).trans h.cw, h.la⟩
theorem Ps5.later {w w' : World} {ao : Option Addr} {l : List P5} (h : Ps5 w ao l) (hb : Below w.heap.size w w') : Ps5 w' ao l := by
  rcases h with h | ⟨b, off, e, hlt, h⟩
  · exact .inl h
  · exact .inr ⟨b, off, e, Nat.lt_of_lt_of_le hlt hb.size, fun j hj => (h j hj).later hlt hlt hb⟩
theorem take5 {l : List P5} {k : Nat} (h : k < l.length) : (l.take k).map P5.at_ ++ [(l.getD k nop5).at_] = (l.take (k + 1)).map P5.at_ := by
  rw [List.take_add_one, List.getElem?_eq_getElem h, List.getD_eq_getElem?_getD, List.getElem?_eq_getElem h, List.map_append]
  rfl
/-- One byte put behind a row of the call's own. -/
theorem wpList_pushB {ops : Array Oper} {rest : List Oper} {o : Oper} {a : Act} {Q : Exit → Act → World → Prop} {w wa : World} (hgd : o.guard = none) (s y : Operand)
    (ho : o.op = .call { callee := .builtin .append, args := #[s, y], argTypes := #[45, 45] }) (base : Nat) (v : Value) (l : List UInt8) (z : UInt8) (hwa : wa = w.alloc (.cells #[.int .u8 (z.toNat : Int)] 5)) (hs : a.eval s = v) (hy : a.eval y = .slice (some ⟨w.heap.size, 0, none⟩) 1 1)
    (hown : w.ownsRow base 5 1 v l.length (cellsU l)) (hl : l.length < 1000000) (hbase : base ≤ w.heap.size)
    (h : ∀ v' w', w'.ownsRow base 5 1 v' (l ++ [z]).length (cellsU (l ++ [z])) → Below base w w' → wpList Try.prog ops Q rest (a.put o.dst v') w') : wpList Try.prog ops Q (o :: rest) a wa := by
  obtain ⟨i0, hi, hz0, hz1, hz2⟩ := info_parts info5
  subst hwa
  refine wpList_append_own _ hgd s y 45 ho base 5 i0 (.int .u8 0) 1 1 Try.underlying45 hi hz0 hz1 hz2 rfl (by decide) v l.length (cellsU l) hs (hown.alloc _) ⟨w.heap.size, 0, none⟩ 1 1 (cellsU [z]) hy rfl ?_ (cellsU_one _) (by simp [maxLen]; omega) (by omega) (by simp; omega) ?_
  · refine Lies.cells (fun j hj => ?_)
    have : j = 0 := by simp at hj; omega
    subst this
    rw [cell_of_row _ _ _ _ _ _ (heap_alloc_new w _)]
    rfl
  · intro v' w' hown' hgrow _
    rw [← cellsU_append] at hown'
    refine h v' w' (by simpa using hown') ?_
    refine ((Below.refl base w).alloc hbase _).grown hgrow (by simp; omega) ?_
    intro k hk
    exact (hown.lt k hk).1
/-- The bytes from a place on. -/
def bytes5 (l : List P5) (a k : Nat) : List UInt8 := (List.range k).map fun i => peek5 l ((a + i) % 4294967296)
theorem bytes5_snoc (l : List P5) (a k : Nat) : bytes5 l a (k + 1) = bytes5 l a k ++ [peek5 l ((a + k) % 4294967296)] := by
  unfold bytes5
  rw [List.range_succ, List.map_append]
  rfl
set_option maxRecDepth 20000 in
set_option maxHeartbeats 8000000 in
theorem bytes5_any (w : World) (m : Nat) (ao : Option Addr) (cap a : Nat) (c : Nat) (l : List P5) (h : Ps5 w ao l) (hm : m < w.heap.size) (h1 : w.cell? ⟨m, 1, none⟩ = some (.slice ao l.length cap)) (hmax : l.length ≤ 1000) (ha : a < 4294967296) (hc : c ≤ 16384) : Calls Try.prog 35 #[.pointer (some ⟨m, 0, none⟩), .int .u32 (a : Int), .int .i64 (c : Int)] w fun e w' => ∃ v, e = .returned v ∧ w'.ownsRow w.heap.size 5 1 v (bytes5 l a c).length (cellsU (bytes5 l a c)) ∧ Below w.heap.size w w' := by
  have H := hidden h
  have H1 := hidden h1
  obtain ⟨n, hn⟩ : ∃ n, w.heap.size = n := ⟨_, rfl⟩
  have HM : Hid (m < n) := by rw [← hn]; exact hm
  have HN := hidden hn
  rw [hn]
  clear h hm hn h1
  have B0 := hidden (Below.refl n w)
  have R0 := hidden (World.ownsRow_nil w n 5 1)
  have NN : Hid (n ≤ w.heap.size) := by rw [Hid.out HN]; exact Nat.le_refl _
  have hmin : min (c : Int) 16384 = (c : Int) := by omega
  have HC := hidden hc
  have hc2 : (c : Int) ≤ 16384 := by omega
  clear hc
  go_enter Try.func35, Try.ntmps35
  go_wp2
  go_loopw [7, 8] (fun x7 x8 wr => ∃ (k : Nat) (ts : List UInt8), k ≤ c ∧ x8 = .int .i64 (k : Int) ∧ ts = bytes5 l a k ∧ wr.ownsRow n 5 1 x7 ts.length (cellsU ts) ∧ Below n w wr) (fun _ x8 _ => c - (intOf x8).toNat)
  case atStart => exact ⟨0, [], by omega, rfl, by simp [bytes5], Hid.out R0, Hid.out B0⟩
  case round =>
    obtain ⟨k, ts, hk, rfl, hts, hrow, hb⟩ := hrel
    have hbs : n ≤ wr.heap.size := Nat.le_trans (Hid.out NN) hb.size
    have htl : ts.length = k := by rw [hts]; simp [bytes5]
    have hlen : ts.length < 1000000 := by have := Hid.out HC; omega
    have HR := hidden hrow
    have HB := hidden hb
    have HT := hidden hts
    have HL := hidden hlen
    have HBS := hidden hbs
    by_cases hkl : k < c
    · obtain ⟨q, hq⟩ : ∃ q, (a + k) % 4294967296 = q := ⟨_, rfl⟩
      have hq2 : ((a : Int) + (k : Int)) % 4294967296 = (q : Int) := by omega
      have hk3 : (k : Int) % 4294967296 = (k : Int) := by have := Hid.out HC; omega
      have C := hidden (peek5_any wr m ao cap q l ((Hid.out H).later (by rw [Hid.out HN]; exact hb)) ((hb.cell (p := ⟨m, 1, none⟩) (Hid.out HM)).trans (Hid.out H1)) hmax (by omega))
      obtain ⟨z, hz⟩ : ∃ z, peek5 l q = z := ⟨_, rfl⟩
      rw [hz] at C
      have hkl2 : (k : Int) < (c : Int) := by omega
      have HQ := hidden hq
      have HZ := hidden hz
      clear hb hrow hts htl hlen hbs hq hz
      go_wp2_with (first | (go_at_call 29; refine (Hid.out C).mono ?_; rintro e w4 ⟨rfl, hww⟩; rw [hww]; clear hww w4) | (at_builtin; refine wpList_pushB rfl _ _ rfl n _ ts z rfl rfl rfl (Hid.out HR) (Hid.out HL) (Hid.out HBS) ?_; intro v' w1 hown hgr; have HO := hidden hown; have HG := hidden hgr; clear hown hgr))
      go_roundw
      case rel =>
        refine ⟨k + 1, ts ++ [z], by omega, by first | rfl | simp, ?_, Hid.out HO, (Hid.out HB).trans (Hid.out HG)⟩
        rw [bytes5_snoc, Hid.out HT, Hid.out HQ, Hid.out HZ]
      case measure => simp [intOf]; omega
    · have hkl2 : ¬ (k : Int) < (c : Int) := by omega
      have hkk : k = c := by omega
      have HK := hidden hkk
      clear hb hrow hts htl hlen hbs hkk
      go_wp2
      go_ret
      have e1 : ts = bytes5 l a c := by rw [Hid.out HT, Hid.out HK]
      exact ⟨_, rfl, by rw [← e1]; exact Hid.out HR, Hid.out HB⟩
set_option maxRecDepth 20000 in
set_option maxHeartbeats 8000000 in
theorem pages5_any (w : World) (m : Nat) (ao : Option Addr) (cap : Nat) (l : List P5) (h : Ps5 w ao l) (hm : m < w.heap.size) (h1 : w.cell? ⟨m, 1, none⟩ = some (.slice ao l.length cap)) (hmax : l.length ≤ 1000) : Calls Try.prog 54 #[.pointer (some ⟨m, 0, none⟩)] w fun e w' => ∃ v, e = .returned v ∧ w'.ownsRow w.heap.size 27 1 v (l.map P5.at_).length (words (l.map P5.at_)) ∧ Below w.heap.size w w' := by
  have H := hidden h
  have H1 := hidden h1
  obtain ⟨n, hn⟩ : ∃ n, w.heap.size = n := ⟨_, rfl⟩
  have HM : Hid (m < n) := by rw [← hn]; exact hm
  have HN := hidden hn
  rw [hn]
  clear h hm hn h1
  have B0 := hidden (Below.refl n w)
  have R0 := hidden (World.ownsRow_nil w n 27 1)
  have NN : Hid (n ≤ w.heap.size) := by rw [Hid.out HN]; exact Nat.le_refl _
  go_enter Try.func54, Try.ntmps54
  go_wp2
  go_loopw [3, 4] (fun x3 x4 wr => ∃ (k : Nat) (ts : List Nat), k ≤ l.length ∧ x4 = .int .i64 (k : Int) ∧ ts = (l.take k).map P5.at_ ∧ wr.ownsRow n 27 1 x3 ts.length (words ts) ∧ Below n w wr) (fun _ x4 _ => l.length - (intOf x4).toNat)
  case atStart => exact ⟨0, [], by omega, rfl, by simp, Hid.out R0, Hid.out B0⟩
  case round =>
    obtain ⟨k, ts, hk, rfl, hts, hrow, hb⟩ := hrel
    have hbs : n ≤ wr.heap.size := Nat.le_trans (Hid.out NN) hb.size
    have r1 : wr.cell? ⟨m, 1, none⟩ = some (.slice ao l.length cap) := (hb.cell (p := ⟨m, 1, none⟩) (Hid.out HM)).trans (Hid.out H1)
    have htl : ts.length = k := by rw [hts]; simp; omega
    have hlen : ts.length < 1099511627776 := by omega
    have HR := hidden hrow
    have HB := hidden hb
    have HT := hidden hts
    have HL := hidden hlen
    have HBS := hidden hbs
    by_cases hkl : k < l.length
    · obtain ⟨b, off, rfl, hlt, hc⟩ := ((Hid.out H).later (by rw [Hid.out HN]; exact hb)).at hkl
      obtain ⟨s, hs⟩ : ∃ s, s = l.getD k nop5 := ⟨_, rfl⟩
      have hat := hc k hkl
      rw [← hs] at hat
      have c0 := hat.c0
      have la := hat.la
      have HS := hidden hs
      have hkl2 : (k : Int) < (l.length : Int) := by omega
      clear hc hs hat hb hrow hts htl hlen hbs
      go_wp2_with (at_builtin; refine wpList_pushW rfl _ _ rfl n _ ts (s.at_ : Int) wr rfl rfl rfl (Hid.out HR) (Hid.out HL) (Hid.out HBS) ?_; intro v' w1 hown hgr hloc; have HO := hidden hown; have HG := hidden hgr; clear hown hgr hloc)
      go_roundw
      case rel =>
        refine ⟨k + 1, ts ++ [s.at_], by omega, by first | rfl | simp, ?_, ?_, ?_⟩
        · rw [Hid.out HT, Hid.out HS]
          exact take5 hkl
        · have := Hid.out HO
          simpa [words] using this
        · exact (Hid.out HB).grown (Hid.out HG) (Hid.out HBS) fun j hj => ((Hid.out HR).lt j hj).1
      case measure => simp [intOf]; omega
    · have hkl2 : ¬ (k : Int) < (l.length : Int) := by omega
      have hkk : k = l.length := by omega
      have HK := hidden hkk
      clear hb hrow hts htl hlen hbs hkk
      go_wp2
      go_ret
      have e1 : ts = l.map P5.at_ := by rw [Hid.out HT, Hid.out HK, List.take_length]
      have e2 : ts.length = l.length := by rw [e1, List.length_map]
      have HR2 := Hid.out HR
      rw [e2] at HR2
      exact ⟨_, rfl, by rw [← e1]; exact HR2, Hid.out HB⟩
end Go.Proofs.Ytfbmkgdpejgjpaa
namespace Go.Proofs.Ytfbmkgdpejgjpaa
open Go.ChangeShapes Go.WideShapes Go.ChangeAt Go.RowKit
set_option linter.unusedVariables false
def one5 (p : P5) : List Value := .int .u32 (p.at_ : Int) :: .int .i64 p.perm :: (cellsU p.b ++ [.bool p.watched])
def cells5 (l : List P5) : List Value := l.flatMap one5
structure Fit5 (p : P5) : Prop where
  lb : p.b.length = 256
  la : p.at_ < 4294967296
theorem one5_len {p : P5} (h : Fit5 p) : (one5 p).length = 259 := by simp [one5, cellsU, h.lb]
theorem one5_byte {p : P5} (h : Fit5 p) {i : Nat} (hi : i < 256) : (one5 p)[2 + i]? = some (.int .u8 ((p.b.getD i 0).toNat : Int)) := by
  have h2 : i < p.b.length := by rw [h.lb]; exact hi
  have : one5 p = [.int .u32 (p.at_ : Int), .int .i64 p.perm] ++ (cellsU p.b ++ [.bool p.watched]) := rfl
  rw [this, List.getElem?_append_right (by simp), List.getElem?_append_left (by simp [cellsU]; omega)]
  simp [cellsU, h2]
theorem one5_watch {p : P5} (h : Fit5 p) : (one5 p)[258]? = some (.bool p.watched) := by
  have : one5 p = ([.int .u32 (p.at_ : Int), .int .i64 p.perm] ++ cellsU p.b) ++ [.bool p.watched] := by simp [one5]
  rw [this, List.getElem?_append_right (by simp [cellsU, h.lb])]
  simp [cellsU, h.lb]
theorem cells5_cons (p : P5) (l : List P5) : cells5 (p :: l) = one5 p ++ cells5 l := rfl
theorem cells5_append (l k : List P5) : cells5 (l ++ k) = cells5 l ++ cells5 k := by unfold cells5; rw [List.flatMap_append]
theorem cells5_len : ∀ {l : List P5}, (∀ p ∈ l, Fit5 p) → (cells5 l).length = l.length * 259
  | [], _ => rfl
  | p :: l, h => by
    rw [cells5_cons, List.length_append, one5_len (h p (List.mem_cons_self ..)), cells5_len (fun q hq => h q (List.mem_cons_of_mem _ hq)), List.length_cons]
    omega
theorem cells5_get : ∀ {l : List P5}, (∀ p ∈ l, Fit5 p) → ∀ (j i : Nat), j < l.length → i < 259 → (cells5 l)[j * 259 + i]? = (one5 (l.getD j nop5))[i]?
  | [], _, j, i, h, _ => by simp at h
  | p :: l, hf, 0, i, _, hi => by
    rw [cells5_cons, List.getElem?_append_left (by rw [one5_len (hf p (List.mem_cons_self ..))]; omega)]
    simp
  | p :: l, hf, j + 1, i, h, hi => by
    have hl := one5_len (hf p (List.mem_cons_self ..))
    rw [cells5_cons, List.getElem?_append_right (by rw [hl]; omega), hl, show (j + 1) * 259 + i - 259 = j * 259 + i by omega, cells5_get (fun q hq => hf q (List.mem_cons_of_mem _ hq)) j i (by simpa using h) hi]
    simp
theorem cells5_set : ∀ {l : List P5}, (∀ p ∈ l, Fit5 p) → ∀ (j i : Nat) (q : P5) (v : Value), j < l.length → i < 259 → one5 q = (one5 (l.getD j nop5)).set i v → (cells5 l).set (j * 259 + i) v = cells5 (l.set j q)
  | [], _, j, i, _, _, h, _, _ => by simp at h
  | p :: l, hf, 0, i, q, v, _, hi, he => by
    rw [cells5_cons, List.set_append_left _ _ (by rw [one5_len (hf p (List.mem_cons_self ..))]; omega), List.set_cons_zero, cells5_cons, he]
    simp
  | p :: l, hf, j + 1, i, q, v, h, hi, he => by
    have hl := one5_len (hf p (List.mem_cons_self ..))
    rw [cells5_cons, List.set_append_right _ _ (by rw [hl]; omega), hl, show (j + 1) * 259 + i - 259 = j * 259 + i by omega, List.set_cons_succ, cells5_cons, cells5_set (fun q hq => hf q (List.mem_cons_of_mem _ hq)) j i q v (by simpa using h) hi (by simpa using he)]
/-- A memory of chapter 5's own: where it lies and what it holds. -/
structure S5 where
  m : Nat
  most : Nat
  l : List P5
  vP : Value
  ts : List Nat
  vT : Value
structure M5 (w : World) (s : S5) : Prop where
  self : Blk w s.m #[.int .i64 (s.most : Int), s.vP, s.vT] 70
  pages : w.ownsRow 0 83 259 s.vP s.l.length (cells5 s.l)
  touched : w.ownsRow 0 27 1 s.vT s.ts.length (words s.ts)
  fit : ∀ p ∈ s.l, Fit5 p
  few : s.l.length ≤ 1000
def foot5 (s : S5) (b : Nat) : Prop := b = s.m ∨ s.vP.ownBlock = some b ∨ s.vT.ownBlock = some b
structure Step5 (w : World) (s : S5) (w' : World) (s' : S5) : Prop where
  mem : M5 w' s'
  keep : Keep (foot5 s) w w'
  grow : ∀ b, foot5 s' b → foot5 s b ∨ w.heap.size ≤ b
theorem M5.fitAt {w : World} {s : S5} (h : M5 w s) {k : Nat} (hk : k < s.l.length) : Fit5 (s.l.getD k nop5) := by
  rw [List.getD_eq_getElem?_getD, List.getElem?_eq_getElem hk]
  exact h.fit _ (List.getElem_mem hk)
/-- The row of pages, where there is one. -/
theorem M5.row {w : World} {s : S5} (h : M5 w s) {k : Nat} (hk : k < s.l.length) : ∃ g off cap, off = 0 ∧ s.vP = .slice (some ⟨g, off, none⟩) s.l.length cap ∧ g < w.heap.size ∧ (∀ j, w.frozen? ⟨g, j, none⟩ = false) ∧ (∃ cur, Blk w g cur 83) ∧ ∀ j i v, j < s.l.length → i < 259 → (one5 (s.l.getD j nop5))[i]? = some v → w.cell? ⟨g, off + j * 259 + i, none⟩ = some v := by
  have hp := h.pages
  rcases hp.2 with ⟨_, hz⟩ | ⟨g, cap, cur, e, _, hg, hnc, hcm, _, _⟩
  · omega
  · refine ⟨g, 0, cap, rfl, e, (Array.getElem?_eq_some_iff.1 hg).1, fun j => frozen_of_row _ _ _ _ _ hg, ⟨cur, hg⟩, fun j i v hj hi hv => ?_⟩
    rw [e] at hp
    have := hp.cells (g := g) rfl (j * 259 + i) v (by rw [cells5_get h.fit j i hj hi]; exact hv)
    rw [Addr.add_lit] at this
    rw [Nat.add_assoc]
    exact this
theorem M5.ps {w : World} {s : S5} (h : M5 w s) : ∃ ao cap, s.vP = .slice ao s.l.length cap ∧ Ps5 w ao s.l := by
  by_cases hl : s.l = []
  · rcases h.pages.2 with ⟨e, hz⟩ | ⟨g, cap, cur, e, _⟩
    · exact ⟨none, 0, by rw [e, hz], .inl hl⟩
    · exact ⟨_, cap, e, .inl hl⟩
  · obtain ⟨g, off, cap, h0, e, hlt, _, _, hc⟩ := h.row (k := 0) (List.length_pos_iff.2 hl)
    refine ⟨_, cap, e, .inr ⟨g, off, rfl, hlt, fun j hj => ?_⟩⟩
    have hf := h.fitAt hj
    refine ⟨hc j 0 _ hj (by omega) rfl, hc j 1 _ hj (by omega) rfl, fun i hi => ?_, hc j 258 _ hj (by omega) ?_, hf.la⟩
    · rw [Nat.add_assoc _ 2 i]
      exact hc j (2 + i) _ hj (by omega) (one5_byte hf hi)
    · exact one5_watch hf
theorem M5.cellP {w : World} {s : S5} (h : M5 w s) : w.cell? ⟨s.m, 1, none⟩ = some s.vP := h.self.cell rfl
theorem M5.lt {w : World} {s : S5} (h : M5 w s) : s.m < w.heap.size := h.self.lt
set_option maxRecDepth 20000 in
theorem new5_any (most : Nat) (z : Int) (hz : min (max z 0) 64 = (most : Int)) (w : World) : Calls Try.prog 10 #[.int .i64 z] w fun e w' => e = .returned (.pointer (some ⟨w.heap.size, 0, none⟩)) ∧ Below w.heap.size w w' ∧ M5 w' ⟨w.heap.size, most, [], .slice none 0 0, [], .slice none 0 0⟩ := by
  have HE : Hid (∀ q : Int, q = (most : Int) → Below w.heap.size w (w.alloc (.cells #[.int .i64 q, .slice none 0 0, .slice none 0 0] 70)) ∧ M5 (w.alloc (.cells #[.int .i64 q, .slice none 0 0, .slice none 0 0] 70)) ⟨w.heap.size, most, [], .slice none 0 0, [], .slice none 0 0⟩) := by
    rintro q rfl
    exact ⟨below_new w _, Blk.new w _ _, World.ownsRow_nil _ _ _ _, World.ownsRow_nil _ _ _ _, by simp, by simp⟩
  have HZ := hidden hz
  clear hz
  go_enter Try.func10, Try.ntmps10
  go_wp2
  all_goals go_wp2
  all_goals go_ret
  all_goals exact ⟨rfl, (Hid.out HE _ (by have := Hid.out HZ; omega)).1, (Hid.out HE _ (by have := Hid.out HZ; omega)).2⟩
end Go.Proofs.Ytfbmkgdpejgjpaa
namespace Go.Proofs.Ytfbmkgdpejgjpaa
open Go.ChangeShapes Go.WideShapes Go.ChangeAt Go.RowKit
set_option linter.unusedVariables false
theorem blk_ne {w : World} {a b : Nat} {x y : Array Value} {T U : TypeId} (h : Blk w a x T) (k : Blk w b y U) (hT : T ≠ U) : a ≠ b := by
  rintro rfl
  have := h.symm.trans k
  simp at this
  exact hT this.2
theorem keep_set (w : World) (a : Addr) (v : Value) : Keep (· = a.block) w (w.setCell a v) :=
  ⟨rfl, rfl, rfl, by simp [World.setCell], fun k _ hk => Below.heap_setCell _ _ _ k hk⟩
theorem M5.blkT {w : World} {s : S5} (h : M5 w s) {g : Nat} (hg : s.vT.ownBlock = some g) : ∃ cur, Blk w g cur 27 := by
  rcases h.touched.2 with ⟨e, _⟩ | ⟨g', cap, cur, e, _, hc, _⟩
  · rw [e] at hg; simp [Value.ownBlock] at hg
  · rw [e] at hg
    simp [Value.ownBlock] at hg
    subst hg
    exact ⟨cur, hc⟩
theorem M5.blkP {w : World} {s : S5} (h : M5 w s) {g : Nat} (hg : s.vP.ownBlock = some g) : ∃ cur, Blk w g cur 83 := by
  rcases h.pages.2 with ⟨e, _⟩ | ⟨g', cap, cur, e, _, hc, _⟩
  · rw [e] at hg; simp [Value.ownBlock] at hg
  · rw [e] at hg
    simp [Value.ownBlock] at hg
    subst hg
    exact ⟨cur, hc⟩
theorem M5.drewN {w : World} {s : S5} (h : M5 w s) (n : Nat) : M5 (w.drewN n) s := ⟨h.self, h.pages, h.touched, h.fit, h.few⟩
theorem Step5.refl {w : World} {s : S5} (h : M5 w s) : Step5 w s w s := ⟨h, Keep.refl _ _, fun _ hb => .inl hb⟩
theorem Step5.trans {u v w : World} {r s t : S5} (h : Step5 u r v s) (k : Step5 v s w t) : Step5 u r w t := by
  refine ⟨k.mem, h.keep.trans k.keep fun b hb hs => ?_, fun b hb => ?_⟩
  · rcases h.grow b hs with h1 | h1
    · exact h1
    · omega
  · rcases k.grow b hb with h1 | h1
    · exact h.grow b h1
    · exact .inr (Nat.le_trans h.keep.size h1)
/-- One cell of one page turned. -/
theorem M5.set {w : World} {s : S5} (h : M5 w s) {k i : Nat} (hk : k < s.l.length) (hi : i < 259) {q : P5} {v : Value} (he : one5 q = (one5 (s.l.getD k nop5)).set i v) (hq : Fit5 q) {g off cap : Nat} (hv : s.vP = .slice (some ⟨g, off, none⟩) s.l.length cap) (h0 : off = 0) :
    Step5 w s (w.setCell ⟨g, off + k * 259 + i, none⟩ v) { s with l := s.l.set k q } := by
  subst h0
  have hgP : s.vP.ownBlock = some g := by rw [hv]; rfl
  obtain ⟨c1, hb1⟩ := h.blkP hgP
  have hgm : s.m ≠ g := blk_ne h.self hb1 (by decide)
  have hgt : ∀ t, s.vT.ownBlock = some t → t ≠ g := fun t ht => by
    obtain ⟨c2, hb2⟩ := h.blkT ht
    exact blk_ne hb2 hb1 (by decide)
  have out : ∀ b, b ≠ g → (w.setCell ⟨g, 0 + k * 259 + i, none⟩ v).heap[b]? = w.heap[b]? := fun b hb => Below.heap_setCell _ _ _ b hb
  refine ⟨⟨(out _ hgm).trans h.self, ?_, ownsRow_same h.touched fun t ht => out t (hgt t ht), ?_, ?_⟩, (keep_set w _ v).mono fun b _ hb => ?_, fun b hb => .inl hb⟩
  · show (w.setCell ⟨g, 0 + k * 259 + i, none⟩ v).ownsRow 0 83 259 s.vP (s.l.set k q).length (cells5 (s.l.set k q))
    rw [List.length_set, ← cells5_set h.fit k i q v hk hi he]
    refine ⟨by rw [List.length_set]; exact h.pages.1, ?_⟩
    rcases h.pages.2 with ⟨e, hz⟩ | ⟨g', cap', cur, e, hb, hg, hnc, hcm, hsz, htk⟩
    · omega
    · rw [hv] at e
      simp at e
      obtain ⟨rfl, rfl⟩ := e
      refine .inr ⟨g, cap, cur.setIfInBounds (0 + k * 259 + i) v, hv, hb, Lib.heap_setCell_same hg v, hnc, hcm, by simpa using hsz, ?_⟩
      rw [← htk, Array.toList_setIfInBounds, List.take_set, Nat.zero_add]
  · intro p hp
    rcases List.mem_or_eq_of_mem_set hp with hp | rfl
    · exact h.fit p hp
    · exact hq
  · show (s.l.set k q).length ≤ 1000
    rw [List.length_set]
    exact h.few
  · exact .inr (.inl (by rw [hgP]; exact congrArg some hb.symm))
end Go.Proofs.Ytfbmkgdpejgjpaa
namespace Go.Proofs.Ytfbmkgdpejgjpaa
open Go.ChangeShapes Go.WideShapes Go.ChangeAt Go.RowKit
set_option linter.unusedVariables false
def put5 (p : P5) (q : Nat) (v : UInt8) : P5 := { p with b := p.b.set q v }
theorem put5_fit {p : P5} (h : Fit5 p) (q : Nat) (v : UInt8) : Fit5 (put5 p q v) := ⟨by show (p.b.set q v).length = 256; rw [List.length_set]; exact h.lb, h.la⟩
theorem put5_one {p : P5} (h : Fit5 p) {q : Nat} (hq : q < 256) (v : UInt8) : one5 (put5 p q v) = (one5 p).set (2 + q) (.int .u8 (v.toNat : Int)) := by
  have e : one5 p = [.int .u32 (p.at_ : Int), .int .i64 p.perm] ++ (cellsU p.b ++ [.bool p.watched]) := rfl
  have e2 : one5 (put5 p q v) = [.int .u32 (p.at_ : Int), .int .i64 p.perm] ++ (cellsU (p.b.set q v) ++ [.bool p.watched]) := rfl
  rw [e, e2, List.set_append_right _ _ (by simp), List.set_append_left _ _ (by simp [cellsU, h.lb]; omega)]
  simp [cellsU, List.map_set]
def poke5 (l : List P5) (a : Nat) (v : UInt8) : List P5 := if find5 l (a / 256 * 256) < l.length then l.set (find5 l (a / 256 * 256)) (put5 (l.getD (find5 l (a / 256 * 256)) nop5) (a % 256) v) else l
def touch5 (l : List P5) (ts : List Nat) (a : Nat) : List Nat := if find5 l (a / 256 * 256) < l.length ∧ (l.getD (find5 l (a / 256 * 256)) nop5).watched = true then ts ++ [a] else ts
/-- A place put behind what was touched. -/
theorem M5.touch {w w2 : World} {s : S5} {v : Value} {a : Nat} (h : M5 w s) (hown : w2.ownsRow 0 27 1 v (s.ts.length + 1) (words s.ts ++ [.int .u32 (a : Int)])) (hg : w.grownBy w2 s.vT.ownBlock) (hl : v.ownBlock = s.vT.ownBlock ∨ ∃ q, w.heap.size ≤ q ∧ v.ownBlock = some q) :
    Step5 w s (w2.setCell ⟨s.m, 2, none⟩ v) { s with ts := s.ts ++ [a], vT := v } := by
  have kp := Keep.grown hg
  have hmT : ∀ t, s.vT.ownBlock = some t → t ≠ s.m := fun t ht => by
    obtain ⟨c, hb⟩ := h.blkT ht
    exact blk_ne hb h.self (by decide)
  have hmP : ∀ t, s.vP.ownBlock = some t → t ≠ s.m ∧ t < w.heap.size ∧ ¬ s.vT.ownBlock = some t := fun t ht => by
    obtain ⟨c, hb⟩ := h.blkP ht
    refine ⟨blk_ne hb h.self (by decide), hb.lt, fun e => ?_⟩
    obtain ⟨c2, hb2⟩ := h.blkT e
    exact blk_ne hb2 hb (by decide) rfl
  have hself : Blk w2 s.m #[.int .i64 (s.most : Int), s.vP, s.vT] 70 := (kp.block s.m h.lt fun e => hmT _ e rfl).trans h.self
  have hvm : ∀ t, v.ownBlock = some t → t ≠ s.m := fun t ht => by
    rcases hl with hl | ⟨q, hq, hl⟩
    · rw [hl] at ht; exact hmT t ht
    · rw [hl] at ht
      have := h.lt
      simp at ht
      omega
  have out : ∀ b, b ≠ s.m → (w2.setCell ⟨s.m, 2, none⟩ v).heap[b]? = w2.heap[b]? := fun b hb => Below.heap_setCell _ _ _ b hb
  refine ⟨⟨?_, ?_, ?_, h.fit, h.few⟩, ?_, ?_⟩
  · show (w2.setCell ⟨s.m, 2, none⟩ v).heap[s.m]? = _
    rw [Lib.heap_setCell_same hself v]
    rfl
  · exact ownsRow_same (ownsRow_same h.pages fun t ht => kp.block t (hmP t ht).2.1 (hmP t ht).2.2) fun t ht => out t (hmP t ht).1
  · refine ownsRow_same ?_ fun t ht => out t (hvm t ht)
    show w2.ownsRow 0 27 1 v (s.ts ++ [a]).length (words (s.ts ++ [a]))
    rw [words_append, List.length_append]
    exact hown
  · refine (kp.mono (G := foot5 s) fun b _ hb => .inr (.inr hb)).trans (keep_set w2 _ v) fun b _ hb => .inl hb
  · rintro b (hb | hb | hb)
    · exact .inl (.inl hb)
    · exact .inl (.inr (.inl hb))
    · rcases hl with hl | ⟨q, hq, hl⟩
      · exact .inl (.inr (.inr (by rw [← hl]; exact hb)))
      · right
        have hb2 : v.ownBlock = some b := hb
        rw [hl] at hb2
        simp at hb2
        omega
theorem wpList_pushN {wa : World} {ops : Array Oper} {rest : List Oper} {o : Oper} {a : Act} {Q : Exit → Act → World → Prop} (hgd : o.guard = none) (s x : Operand) (ho : o.op = .call { callee := .builtin .append, args := #[s, x], argTypes := #[35, 35] }) (base : Nat) (v : Value) (ts : List Nat) (z : Int) (w4 : World) (N : Nat) (hN : w4.heap.size = N) (hwa : wa = w4.alloc (.cells #[.int .u32 z] 27)) (hs : a.eval s = v) (hx : a.eval x = .slice (some ⟨N, 0, none⟩) 1 1) (hrow : w4.ownsRow base 27 1 v ts.length (words ts)) (hlen : ts.length < 1099511627776) (hbase : base ≤ w4.heap.size)
    (h : ∀ v' w', w'.ownsRow base 27 1 v' (ts.length + 1) (words ts ++ [.int .u32 z]) → w4.grownBy w' v.ownBlock → (v'.ownBlock = v.ownBlock ∨ ∃ q, w4.heap.size ≤ q ∧ v'.ownBlock = some q) → wpList Try.prog ops Q rest (a.put o.dst v') w') : wpList Try.prog ops Q (o :: rest) a wa := by
  subst hN
  exact wpList_pushW hgd s x ho base v ts z w4 hwa hs hx hrow hlen hbase h
set_option maxRecDepth 20000 in
set_option maxHeartbeats 8000000 in
theorem poke5_off (w : World) (m g off cap n k q a : Nat) (old x : Int) (hC : Calls Try.prog 47 #[.pointer (some ⟨m, 0, none⟩), .int .u32 (a : Int)] w fun e w' => e = .returned (.int .i64 (k : Int)) ∧ w' = w) (hP : w.cell? ⟨m, 1, none⟩ = some (.slice (some ⟨g, off, none⟩) n cap)) (hB : w.cell? ⟨g, off + k * 259 + 2 + q, none⟩ = some (.int .u8 old)) (hW : w.cell? ⟨g, off + k * 259 + 258, none⟩ = some (.bool false)) (hz : w.frozen? ⟨g, off + k * 259 + 2 + q, none⟩ = false) (hne : ¬ m = g) (hq2 : (a : Int) % 256 = (q : Int)) (hq3 : q < 256) (hkn : k < n) :
    Calls Try.prog 23 #[.pointer (some ⟨m, 0, none⟩), .int .u32 (a : Int), .int .u8 x] w fun e w' => e = .returned (.bool true) ∧ w' = w.setCell ⟨g, off + k * 259 + 2 + q, none⟩ (.int .u8 x) := by
  have C := hidden hC
  clear hC
  have hne' : ¬ g = m := fun e => hne e.symm
  have hne2 : ¬ off + k * 259 + 258 = off + k * 259 + 2 + q := by omega
  have hne3 : ¬ off + k * 259 + 2 + q = off + k * 259 + 258 := by omega
  have hk0 : ¬ (k : Int) < 0 := by omega
  go_enter Try.func23, Try.ntmps23
  go_wp2_with (first | (go_at_call 47; refine (Hid.out C).mono ?_; rintro e w4 ⟨rfl, hww⟩; rw [hww]; clear hww w4))
  go_ret
  exact ⟨rfl, rfl⟩
set_option maxRecDepth 20000 in
set_option maxHeartbeats 8000000 in
theorem poke5_on (w : World) (m g off cap n k q a : Nat) (old x : Int) (vT : Value) (ts : List Nat) (hC : Calls Try.prog 47 #[.pointer (some ⟨m, 0, none⟩), .int .u32 (a : Int)] w fun e w' => e = .returned (.int .i64 (k : Int)) ∧ w' = w) (hP : w.cell? ⟨m, 1, none⟩ = some (.slice (some ⟨g, off, none⟩) n cap)) (hT : w.cell? ⟨m, 2, none⟩ = some vT) (hB : w.cell? ⟨g, off + k * 259 + 2 + q, none⟩ = some (.int .u8 old)) (hW : w.cell? ⟨g, off + k * 259 + 258, none⟩ = some (.bool true)) (hz : w.frozen? ⟨g, off + k * 259 + 2 + q, none⟩ = false) (hne : ¬ m = g) (hq2 : (a : Int) % 256 = (q : Int)) (hq3 : q < 256) (hkn : k < n)
    (hrow : (w.setCell ⟨g, off + k * 259 + 2 + q, none⟩ (.int .u8 x)).ownsRow 0 27 1 vT ts.length (words ts)) (hlen : ts.length < 1000000) (hcell : ∀ w2, (w.setCell ⟨g, off + k * 259 + 2 + q, none⟩ (.int .u8 x)).grownBy w2 vT.ownBlock → w2.cell? ⟨m, 2, none⟩ = some vT ∧ w2.frozen? ⟨m, 2, none⟩ = false) :
    Calls Try.prog 23 #[.pointer (some ⟨m, 0, none⟩), .int .u32 (a : Int), .int .u8 x] w fun e w' => e = .returned (.bool true) ∧ ∃ v w2, w' = w2.setCell ⟨m, 2, none⟩ v ∧ w2.ownsRow 0 27 1 v (ts.length + 1) (words ts ++ [.int .u32 (a : Int)]) ∧ (w.setCell ⟨g, off + k * 259 + 2 + q, none⟩ (.int .u8 x)).grownBy w2 vT.ownBlock ∧ (v.ownBlock = vT.ownBlock ∨ ∃ r, (w.setCell ⟨g, off + k * 259 + 2 + q, none⟩ (.int .u8 x)).heap.size ≤ r ∧ v.ownBlock = some r) := by
  have C := hidden hC
  have HR := hidden hrow
  have HL : Hid (ts.length < 1099511627776) := by show ts.length < 1099511627776; omega
  have HC := hidden hcell
  have H0 : Hid (0 ≤ (w.setCell ⟨g, off + k * 259 + 2 + q, none⟩ (.int .u8 x)).heap.size) := Nat.zero_le _
  have HSZ : Hid ((w.setCell ⟨g, off + k * 259 + 2 + q, none⟩ (.int .u8 x)).heap.size = w.heap.size) := by show _ = _; simp [World.setCell]
  clear hC hrow hlen hcell
  have hne' : ¬ g = m := fun e => hne e.symm
  have hne2 : ¬ off + k * 259 + 258 = off + k * 259 + 2 + q := by omega
  have hne3 : ¬ off + k * 259 + 2 + q = off + k * 259 + 258 := by omega
  have hk0 : ¬ (k : Int) < 0 := by omega
  go_enter Try.func23, Try.ntmps23
  go_wp2_with (first | (go_at_call 47; refine (Hid.out C).mono ?_; rintro e w4 ⟨rfl, hww⟩; rw [hww]; clear hww w4) | (at_builtin; go_loud (refine wpList_pushN rfl _ _ rfl 0 vT ts (a : Int) (w.setCell ⟨g, off + k * 259 + 2 + q, none⟩ (.int .u8 x)) w.heap.size (Hid.out HSZ) rfl rfl rfl (Hid.out HR) (Hid.out HL) (Hid.out H0) ?_; intro v' w1 hown hgr hloc; obtain ⟨ta, tm, tc, rfl⟩ := row_slice hown; obtain ⟨hca, hcz⟩ := Hid.out HC w1 hgr; have HO := hidden hown; have HG := hidden hgr; have HLO := hidden hloc; clear hown hgr hloc)))
  go_ret
  exact ⟨rfl, _, _, rfl, Hid.out HO, Hid.out HG, Hid.out HLO⟩
set_option maxRecDepth 20000 in
set_option maxHeartbeats 8000000 in
theorem poke5_any (w : World) (s : S5) (h : M5 w s) (a : Nat) (v : UInt8) (ha : a < 4294967296) (htl : s.ts.length < 1000000) : Calls Try.prog 23 #[.pointer (some ⟨s.m, 0, none⟩), .int .u32 (a : Int), .int .u8 (v.toNat : Int)] w fun e w' => e = .returned (.bool (decide (find5 s.l (a / 256 * 256) < s.l.length))) ∧ ∃ s', Step5 w s w' s' ∧ s'.m = s.m ∧ s'.most = s.most ∧ s'.l = poke5 s.l a v ∧ s'.ts = touch5 s.l s.ts a := by
  have H := hidden h
  obtain ⟨ao, cap0, hv0, hps⟩ := h.ps
  have C := hidden (find_any w s.m ao cap0 a s.l hps (by rw [h.cellP, hv0]) h.few ha)
  unfold poke5 touch5
  obtain ⟨p, hp⟩ : ∃ p, a / 256 * 256 = p := ⟨_, rfl⟩
  rw [hp] at C ⊢
  by_cases hf : find5 s.l p < s.l.length
  · rw [find5I_yes hf] at C
    rw [if_pos hf, decide_eq_true hf]
    obtain ⟨k, hk⟩ : ∃ k, find5 s.l p = k := ⟨_, rfl⟩
    rw [hk] at C hf ⊢
    simp only [hf, true_and]
    obtain ⟨g, off, cap, ho, hv, hlt, hth, ⟨cur, hbg⟩, hc⟩ := h.row hf
    have hfit := h.fitAt hf
    obtain ⟨q, hq⟩ : ∃ q, a % 256 = q := ⟨_, rfl⟩
    have hq2 : (a : Int) % 256 = (q : Int) := by omega
    have hq3 : q < 256 := by omega
    rw [hq]
    have hP : w.cell? ⟨s.m, 1, none⟩ = some (.slice (some ⟨g, off, none⟩) s.l.length cap) := by rw [h.cellP, hv]
    have hT : w.cell? ⟨s.m, 2, none⟩ = some s.vT := h.self.cell rfl
    have hB : w.cell? ⟨g, off + k * 259 + 2 + q, none⟩ = some (.int .u8 (((s.l.getD k nop5).b.getD q 0).toNat : Int)) := by
      rw [Nat.add_assoc _ 2 q]
      exact hc k (2 + q) _ hf (by omega) (one5_byte hfit hq3)
    have hW : w.cell? ⟨g, off + k * 259 + 258, none⟩ = some (.bool (s.l.getD k nop5).watched) := hc k 258 _ hf (by omega) (one5_watch hfit)
    have hz := hth (off + k * 259 + 2 + q)
    have hne : ¬ s.m = g := blk_ne h.self hbg (by decide)
    have st := h.set hf (i := 2 + q) (by omega) (put5_one hfit hq3 v) (put5_fit hfit q v) hv ho
    rw [← Nat.add_assoc] at st
    by_cases hw : (s.l.getD k nop5).watched = true
    · rw [if_pos hw]
      rw [hw] at hW
      refine (poke5_on w s.m g off cap s.l.length k q a _ (v.toNat : Int) s.vT s.ts (Hid.out C) hP hT hB hW hz hne hq2 hq3 hf st.mem.touched htl ?_).mono ?_
      · intro w2 hg2
        have hb2 : Blk w2 s.m #[.int .i64 (s.most : Int), s.vP, s.vT] 70 := ((Keep.grown hg2).block s.m st.mem.lt fun e => by
          obtain ⟨c2, hc2⟩ := st.mem.blkT e
          exact blk_ne hc2 st.mem.self (by decide) rfl).trans st.mem.self
        exact ⟨hb2.cell rfl, frozen_of_row _ _ _ _ _ hb2⟩
      · rintro e w' ⟨rfl, v2, w2, rfl, hown, hgr, hloc⟩
        exact ⟨rfl, _, st.trans (st.mem.touch (a := a) hown hgr hloc), rfl, rfl, rfl, rfl⟩
    · rw [if_neg hw]
      have hw2 : (s.l.getD k nop5).watched = false := by simpa using hw
      rw [hw2] at hW
      refine (poke5_off w s.m g off cap s.l.length k q a _ (v.toNat : Int) (Hid.out C) hP hB hW hz hne hq2 hq3 hf).mono ?_
      rintro e w' ⟨rfl, rfl⟩
      exact ⟨rfl, _, st, rfl, rfl, rfl, rfl⟩
  · rw [find5I_no hf] at C
    rw [if_neg hf, decide_eq_false hf]
    simp only [hf, false_and, if_false]
    have HE := hidden (Step5.refl h)
    clear h hp hf hps hv0
    go_enter Try.func23, Try.ntmps23
    go_wp2_with (first | (go_at_call 47; refine (Hid.out C).mono ?_; rintro e w4 ⟨rfl, hww⟩; rw [hww]; clear hww w4))
    go_ret
    exact ⟨rfl, s, Hid.out HE, rfl, rfl, rfl, rfl⟩
end Go.Proofs.Ytfbmkgdpejgjpaa
namespace Go.Proofs.Ytfbmkgdpejgjpaa
open Go.ChangeShapes Go.WideShapes Go.ChangeAt Go.RowKit
set_option linter.unusedVariables false
def allow5 (p : P5) (z : Int) : P5 := { p with perm := bits .or .i64 p.perm (bits .and .i64 z 7) }
theorem allow5_fit {p : P5} (h : Fit5 p) (z : Int) : Fit5 (allow5 p z) := ⟨h.lb, h.la⟩
theorem allow5_one (p : P5) (z : Int) : one5 (allow5 p z) = (one5 p).set 1 (.int .i64 (bits .or .i64 p.perm (bits .and .i64 z 7))) := rfl
set_option maxRecDepth 20000 in
set_option maxHeartbeats 8000000 in
theorem map5_there (w : World) (m g off cap n k a : Nat) (pm z : Int) (hC : Calls Try.prog 47 #[.pointer (some ⟨m, 0, none⟩), .int .u32 (a : Int)] w fun e w' => e = .returned (.int .i64 (k : Int)) ∧ w' = w) (hP : w.cell? ⟨m, 1, none⟩ = some (.slice (some ⟨g, off, none⟩) n cap)) (hB : w.cell? ⟨g, off + k * 259 + 1, none⟩ = some (.int .i64 pm)) (hz : w.frozen? ⟨g, off + k * 259 + 1, none⟩ = false) (hne : ¬ m = g) (hkn : k < n) :
    Calls Try.prog 13 #[.pointer (some ⟨m, 0, none⟩), .int .u32 (a : Int), .int .i64 z] w fun e w' => e = .returned (.int .i64 0) ∧ ∃ r, w' = (w.drewN r).setCell ⟨g, off + k * 259 + 1, none⟩ (.int .i64 (bits .or .i64 pm (bits .and .i64 z 7))) := by
  have C := hidden hC
  clear hC
  have hne' : ¬ g = m := fun e => hne e.symm
  have hk0 : (0 : Int) ≤ (k : Int) := by omega
  go_enter Try.func13, Try.ntmps13
  go_wp2_with (first | (go_at_call 47; refine (Hid.out C).mono ?_; rintro e w4 ⟨rfl, hww⟩; rw [hww]; clear hww w4))
  go_region
  all_goals go_wp2
  go_ret
  exact ⟨rfl, _, rfl⟩
set_option maxRecDepth 20000 in
set_option maxHeartbeats 8000000 in
theorem map5_full (w : World) (m cap n most a : Nat) (ao : Option Addr) (z : Int) (hC : Calls Try.prog 47 #[.pointer (some ⟨m, 0, none⟩), .int .u32 (a : Int)] w fun e w' => e = .returned (.int .i64 (-1)) ∧ w' = w) (hP : w.cell? ⟨m, 1, none⟩ = some (.slice ao n cap)) (h0 : w.cell? ⟨m, 0, none⟩ = some (.int .i64 (most : Int))) (hfull : most ≤ n) :
    Calls Try.prog 13 #[.pointer (some ⟨m, 0, none⟩), .int .u32 (a : Int), .int .i64 z] w fun e w' => e = .returned (.int .i64 2) ∧ ∃ r, w' = w.drewN r := by
  have C := hidden hC
  clear hC
  have hf2 : (most : Int) ≤ (n : Int) := by omega
  go_enter Try.func13, Try.ntmps13
  go_wp2_with (first | (go_at_call 47; refine (Hid.out C).mono ?_; rintro e w4 ⟨rfl, hww⟩; rw [hww]; clear hww w4))
  go_region
  all_goals go_wp2
  go_ret
  exact ⟨rfl, _, rfl⟩
end Go.Proofs.Ytfbmkgdpejgjpaa
namespace Go.Proofs.Ytfbmkgdpejgjpaa
open Go.ChangeShapes Go.WideShapes Go.ChangeAt Go.RowKit
set_option linter.unusedVariables false
def page5 (a : Nat) (z : Int) : P5 := ⟨a, z, zeros, false⟩
theorem page5_fit {a : Nat} (h : a < 4294967296) (z : Int) : Fit5 (page5 a z) := ⟨zeros_len, h⟩
theorem info100 : (Try.prog.info? 83).map (fun i => (i.zero, i.size, i.bytes)) = some (some (.agg (one5 (page5 0 0)).toArray), 259, 280) := by kernel_rfl
theorem build100 (a : Nat) (z : Int) (w : World) : (Instr.build 83 #[(0, .int .u32 (a : Int)), (1, .int .i64 z)]).run Try.prog w = .ok (.agg (one5 (page5 a z)).toArray) w := by kernel_rfl
theorem one5_one (p : P5) : ∀ u ∈ one5 p, u.oneCell' = true := by
  intro u hu
  simp only [one5, cellsU, List.mem_cons, List.mem_append, List.mem_map, List.not_mem_nil, or_false] at hu
  rcases hu with rfl | rfl | ⟨x, _, rfl⟩ | rfl <;> rfl
theorem page0_size : (one5 (page5 0 0)).length = 259 := one5_len (page5_fit (by omega) 0)
/-- A page put behind a row of pages of one's own. -/
theorem wpList_pushP {wa : World} {ops : Array Oper} {rest : List Oper} {o : Oper} {a : Act} {Q : Exit → Act → World → Prop} (hgd : o.guard = none) (s x : Operand) (ho : o.op = .call { callee := .builtin .append, args := #[s, x], argTypes := #[68, 68] }) (base : Nat) (v : Value) (l : List P5) (p : P5) (hp : Fit5 p) (w4 : World) (hwa : wa = w4.alloc (.cells (one5 p).toArray 83)) (hs : a.eval s = v) (hx : a.eval x = .slice (some ⟨w4.heap.size, 0, none⟩) 1 1) (hrow : w4.ownsRow base 83 259 v l.length (cells5 l)) (hlen : l.length ≤ 1000) (hbase : base ≤ w4.heap.size)
    (h : ∀ v' w', w'.ownsRow base 83 259 v' (l ++ [p]).length (cells5 (l ++ [p])) → w4.grownBy w' v.ownBlock → (v'.ownBlock = v.ownBlock ∨ ∃ q, w4.heap.size ≤ q ∧ v'.ownBlock = some q) → wpList Try.prog ops Q rest (a.put o.dst v') w') : wpList Try.prog ops Q (o :: rest) a wa := by
  subst hwa
  obtain ⟨i0, hi, hz0, hz1, hz2⟩ := info_parts info100
  refine wpList_append_own_at _ hgd s x 68 ho base 83 i0 _ 259 280 Try.underlying68 hi hz0 hz1 hz2 page0_size (by decide) v l.length (cells5 l) hs (hrow.alloc _) ⟨w4.heap.size, 0, none⟩ 1 1 (one5 p) hx (by rw [one5_len hp]) ?_ (one5_one p) (by unfold maxLen; omega) (by omega) (by simp; omega) ?_
  · intro j u hu
    rw [Addr.add_lit, Nat.zero_add, cell_of_row _ _ _ _ _ _ (heap_alloc_new w4 _), List.getElem?_toArray]
    exact hu
  · intro v' w' hown hgr _ hloc
    refine h v' w' ?_ ((World.grownBy_alloc w4 _ _).trans hgr) ?_
    · rw [cells5_append, List.length_append]
      have e : cells5 [p] = one5 p := by simp [cells5]
      rw [e]
      exact hown
    · rcases hloc with hl | hl
      · exact .inl hl
      · exact .inr ⟨_, by simp, hl⟩
/-- The memory with one page more. -/
theorem M5.more {w w2 : World} {s : S5} {v : Value} {p : P5} (h : M5 w s) (hp : Fit5 p) (hlen : s.l.length < 1000) (hown : w2.ownsRow 0 83 259 v (s.l ++ [p]).length (cells5 (s.l ++ [p]))) (hg : w.grownBy w2 s.vP.ownBlock) (hl : v.ownBlock = s.vP.ownBlock ∨ ∃ q, w.heap.size ≤ q ∧ v.ownBlock = some q) :
    Step5 w s (w2.setCell ⟨s.m, 1, none⟩ v) { s with l := s.l ++ [p], vP := v } := by
  have kp := Keep.grown hg
  have hmP : ∀ t, s.vP.ownBlock = some t → t ≠ s.m := fun t ht => by
    obtain ⟨c, hb⟩ := h.blkP ht
    exact blk_ne hb h.self (by decide)
  have hmT : ∀ t, s.vT.ownBlock = some t → t ≠ s.m ∧ t < w.heap.size ∧ ¬ s.vP.ownBlock = some t := fun t ht => by
    obtain ⟨c, hb⟩ := h.blkT ht
    refine ⟨blk_ne hb h.self (by decide), hb.lt, fun e => ?_⟩
    obtain ⟨c2, hb2⟩ := h.blkP e
    exact blk_ne hb2 hb (by decide) rfl
  have hself : Blk w2 s.m #[.int .i64 (s.most : Int), s.vP, s.vT] 70 := (kp.block s.m h.lt fun e => hmP _ e rfl).trans h.self
  have hvm : ∀ t, v.ownBlock = some t → t ≠ s.m := fun t ht => by
    rcases hl with hl | ⟨q, hq, hl⟩
    · rw [hl] at ht; exact hmP t ht
    · rw [hl] at ht
      have := h.lt
      simp at ht
      omega
  have out : ∀ b, b ≠ s.m → (w2.setCell ⟨s.m, 1, none⟩ v).heap[b]? = w2.heap[b]? := fun b hb => Below.heap_setCell _ _ _ b hb
  refine ⟨⟨?_, ?_, ?_, ?_, ?_⟩, ?_, ?_⟩
  · show (w2.setCell ⟨s.m, 1, none⟩ v).heap[s.m]? = _
    rw [Lib.heap_setCell_same hself v]
    rfl
  · exact ownsRow_same hown fun t ht => out t (hvm t ht)
  · exact ownsRow_same (ownsRow_same h.touched fun t ht => kp.block t (hmT t ht).2.1 (hmT t ht).2.2) fun t ht => out t (hmT t ht).1
  · intro q hq
    rcases List.mem_append.1 hq with hq | hq
    · exact h.fit q hq
    · rw [List.mem_singleton.1 hq]; exact hp
  · show (s.l ++ [p]).length ≤ 1000
    rw [List.length_append]
    exact hlen
  · refine (kp.mono (G := foot5 s) fun b _ hb => .inr (.inl hb)).trans (keep_set w2 _ v) fun b _ hb => .inl hb
  · rintro b (hb | hb | hb)
    · exact .inl (.inl hb)
    · rcases hl with hl | ⟨q, hq, hl⟩
      · exact .inl (.inr (.inl (by rw [← hl]; exact hb)))
      · right
        have hb2 : v.ownBlock = some b := hb
        rw [hl] at hb2
        simp at hb2
        omega
    · exact .inl (.inr (.inr hb))
end Go.Proofs.Ytfbmkgdpejgjpaa
namespace Go.Proofs.Ytfbmkgdpejgjpaa
open Go.ChangeShapes Go.WideShapes Go.ChangeAt Go.RowKit
set_option linter.unusedVariables false
def setL (l : List Value) : Nat → List Value → List Value
  | _, [] => l
  | o, v :: r => setL (l.set o v) (o + 1) r
theorem setL_len : ∀ (vs l : List Value) (o : Nat), (setL l o vs).length = l.length
  | [], _, _ => rfl
  | v :: r, l, o => by rw [setL, setL_len r, List.length_set]
theorem setL_take (n : Nat) : ∀ (vs l : List Value) (o : Nat), (setL l o vs).take n = setL (l.take n) o vs
  | [], _, _ => rfl
  | v :: r, l, o => by rw [setL, setL, setL_take n r, List.take_set]
theorem setL_mid : ∀ (vs a b c : List Value), b.length = vs.length → setL (a ++ (b ++ c)) a.length vs = a ++ (vs ++ c)
  | [], a, b, c, h => by rw [List.eq_nil_of_length_eq_zero h]; rfl
  | v :: r, a, b, c, h => by
    obtain ⟨x, t, rfl⟩ : ∃ x t, b = x :: t := by
      cases b with
      | nil => simp at h
      | cons x t => exact ⟨x, t, rfl⟩
    have e : (a ++ (x :: t ++ c)).set a.length v = (a ++ [v]) ++ (t ++ c) := by
      rw [List.set_append_right _ _ (Nat.le_refl _), Nat.sub_self]
      simp
    rw [setL, e, show a.length + 1 = (a ++ [v]).length by simp, setL_mid r (a ++ [v]) t c (by simpa using h)]
    simp
theorem heap_setCells_row {g : Nat} {T : TypeId} {fr : Nat × Nat} : ∀ (vs : List Value) (o : Nat) (w : World) (cs : Array Value), w.heap[g]? = some (.cells cs T fr) → (w.setCells g o vs).heap[g]? = some (.cells (setL cs.toList o vs).toArray T fr)
  | [], _, _, _, h => by simpa [World.setCells, setL] using h
  | v :: r, o, w, cs, h => by
    rw [World.setCells, heap_setCells_row r (o + 1) _ _ (Lib.heap_setCell_same h v), setL, Array.toList_setIfInBounds]
theorem size_setCells (g : Nat) : ∀ (vs : List Value) (o : Nat) (w : World), (w.setCells g o vs).heap.size = w.heap.size
  | [], _, _ => rfl
  | v :: r, o, w => by rw [World.setCells, size_setCells g r]; simp [World.setCell]
theorem tape_setCells (g : Nat) : ∀ (vs : List Value) (o : Nat) (w : World), (w.setCells g o vs).tape = w.tape
  | [], _, _ => rfl
  | v :: r, o, w => by rw [World.setCells, tape_setCells g r]; rfl
theorem keep_setCells (w : World) (g o : Nat) (vs : List Value) : Keep (· = g) w (w.setCells g o vs) :=
  ⟨World.os_setCells _ _ _ _, tape_setCells _ _ _ _, World.output_setCells _ _ _ _, Nat.le_of_eq (size_setCells g vs o w).symm, fun k hk hne => World.heap_setCells_other w g o vs hk hne⟩
theorem cells5_put {l : List P5} (hf : ∀ p ∈ l, Fit5 p) {k : Nat} (hk : k < l.length) {q : P5} (hq : Fit5 q) : setL (cells5 l) (k * 259) (one5 q) = cells5 (l.set k q) := by
  have e : l = l.take k ++ ([l[k]] ++ l.drop (k + 1)) := by simp
  have e2 : l.set k q = l.take k ++ ([q] ++ l.drop (k + 1)) := by rw [List.set_eq_take_append_cons_drop, if_pos hk]; rfl
  have e3 : (cells5 (l.take k)).length = k * 259 := by
    rw [cells5_len fun p hp => hf p (List.mem_of_mem_take hp), List.length_take, Nat.min_eq_left (Nat.le_of_lt hk)]
  have e4 : ∀ p : P5, cells5 [p] = one5 p := fun p => by simp [cells5]
  rw [e2]
  conv => lhs; rw [e]
  rw [cells5_append, cells5_append, cells5_append, cells5_append, e4, e4, ← e3, setL_mid _ _ _ _ (by rw [one5_len hq, one5_len (hf _ (List.getElem_mem hk))])]
/-- One page put in the place of another. -/
theorem M5.put {w : World} {s : S5} (h : M5 w s) {k : Nat} (hk : k < s.l.length) {q : P5} (hq : Fit5 q) {g off cap : Nat} (hv : s.vP = .slice (some ⟨g, off, none⟩) s.l.length cap) (h0 : off = 0) :
    Step5 w s (w.setCells g (off + k * 259) (one5 q)) { s with l := s.l.set k q } := by
  subst h0
  have hgP : s.vP.ownBlock = some g := by rw [hv]; rfl
  obtain ⟨c1, hb1⟩ := h.blkP hgP
  have hgm : s.m ≠ g := blk_ne h.self hb1 (by decide)
  have out : ∀ b, b < w.heap.size → b ≠ g → (w.setCells g (0 + k * 259) (one5 q)).heap[b]? = w.heap[b]? := fun b hb hne => World.heap_setCells_other _ _ _ _ hb hne
  refine ⟨⟨(out _ h.lt hgm).trans h.self, ?_, ownsRow_same h.touched fun t ht => ?_, ?_, ?_⟩, (keep_setCells w g _ _).mono fun b _ hb => ?_, fun b hb => .inl hb⟩
  · show (w.setCells g (0 + k * 259) (one5 q)).ownsRow 0 83 259 s.vP (s.l.set k q).length (cells5 (s.l.set k q))
    rw [List.length_set, ← cells5_put h.fit hk hq]
    refine ⟨by rw [setL_len]; exact h.pages.1, ?_⟩
    rcases h.pages.2 with ⟨e, hz⟩ | ⟨g', cap', cur, e, hb, hg, hnc, hcm, hsz, htk⟩
    · omega
    · rw [hv] at e
      simp at e
      obtain ⟨rfl, rfl⟩ := e
      refine .inr ⟨g, cap, _, hv, hb, heap_setCells_row _ _ _ _ hg, hnc, hcm, by rw [List.size_toArray, setL_len]; simpa using hsz, ?_⟩
      rw [← htk, setL_take, Nat.zero_add]
  · obtain ⟨c2, hb2⟩ := h.blkT ht
    exact out t hb2.lt (blk_ne hb2 hb1 (by decide))
  · intro p hp
    rcases List.mem_or_eq_of_mem_set hp with hp | rfl
    · exact h.fit p hp
    · exact hq
  · show (s.l.set k q).length ≤ 1000
    rw [List.length_set]
    exact h.few
  · exact .inr (.inl (by rw [hgP]; exact congrArg some hb.symm))
end Go.Proofs.Ytfbmkgdpejgjpaa

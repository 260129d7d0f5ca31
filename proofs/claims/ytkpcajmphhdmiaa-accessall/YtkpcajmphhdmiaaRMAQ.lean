/- A block of cells in memory. -/
import Derived.Test.YtkpcajmphhdmiaaRMAM
import Derived.Test.YtkpcajmphhdmiaaRMAG
import Derived.Test.YtkpcajmphhdmiaaRMAH
import Derived.Test.YtkpcajmphhdmiaaRMAP
namespace Go.Proofs.Ytkpcajmphhdmiaa
open Go.ChangeShapes Go.WideShapes Go.ChangeAt Go.RowKit
set_option linter.unusedVariables false
def Blk (w : World) (n : Nat) (cs : Array Value) (T : TypeId) : Prop := w.heap[n]? = some (.cells cs T (0, 0))
theorem Blk.lt {w : World} {n : Nat} {cs : Array Value} {T : TypeId} (h : Blk w n cs T) : n < w.heap.size := (Array.getElem?_eq_some_iff.1 h).1
theorem Blk.cell {w : World} {n : Nat} {cs : Array Value} {T : TypeId} (h : Blk w n cs T) {j : Nat} {v : Value} (hj : cs[j]? = some v) : w.cell? ⟨n, j, none⟩ = some v := (cell_of_row _ _ _ _ _ _ h).trans hj
theorem Blk.later {w w' : World} {n : Nat} {cs : Array Value} {T : TypeId} (h : Blk w n cs T) (hb : Below w.heap.size w w') : Blk w' n cs T := (hb.block n h.lt).trans h
theorem Blk.new (w : World) (cs : Array Value) (T : TypeId) : Blk (w.alloc (.cells cs T)) w.heap.size cs T := heap_alloc_new w _
theorem below_new (w : World) (o : Obj) : Below w.heap.size w (w.alloc o) := (Below.refl _ w).alloc (Nat.le_refl _) _
theorem bthen {u v w : World} (h : Below u.heap.size u v) (k : Below v.heap.size v w) : Below u.heap.size u w := h.trans (k.mono h.size)
end Go.Proofs.Ytkpcajmphhdmiaa
namespace Go.Proofs.Ytkpcajmphhdmiaa
open Go.ChangeShapes Go.WideShapes Go.ChangeAt Go.RowKit
set_option linter.unusedVariables false
/-- A page. -/
structure P5 where
  at_ : Nat
  perm : Int
  b : List UInt8
  watched : Bool
def nop5 : P5 := ⟨0, 0, [], false⟩
structure P5At (w : World) (b o : Nat) (p : P5) : Prop where
  c0 : w.cell? ⟨b, o, none⟩ = some (.int .u32 (p.at_ : Int))
  c1 : w.cell? ⟨b, o + 1, none⟩ = some (.int .i64 p.perm)
  cb : ∀ i, i < 256 → w.cell? ⟨b, o + 2 + i, none⟩ = some (.int .u8 ((p.b.getD i 0).toNat : Int))
  cw : w.cell? ⟨b, o + 258, none⟩ = some (.bool p.watched)
  la : p.at_ < 4294967296
def Ps5 (w : World) (ao : Option Addr) (l : List P5) : Prop := l = [] ∨ ∃ b off, ao = some ⟨b, off, none⟩ ∧ b < w.heap.size ∧ ∀ j, j < l.length → P5At w b (off + j * 259) (l.getD j nop5)
theorem Ps5.at {w : World} {ao : Option Addr} {l : List P5} (h : Ps5 w ao l) {k : Nat} (hk : k < l.length) : ∃ b off, ao = some ⟨b, off, none⟩ ∧ b < w.heap.size ∧ ∀ j, j < l.length → P5At w b (off + j * 259) (l.getD j nop5) := by
  rcases h with h | h
  · rw [h] at hk; simp at hk
  · exact h
/-- Where a page stands: its length, if nowhere. -/
def find5 (l : List P5) (p : Nat) : Nat := l.findIdx fun x => x.at_ == p
def find5I (l : List P5) (p : Nat) : Int := if find5 l p < l.length then (find5 l p : Int) else -1
theorem find5_here {l : List P5} {p k : Nat} (hk : k < l.length) (hn : ∀ a, a < k → (l.getD a nop5).at_ ≠ p) (he : (l.getD k nop5).at_ = p) : find5 l p = k := by
  unfold find5
  rw [List.findIdx_eq hk]
  refine ⟨?_, fun j hj => ?_⟩
  · simpa [List.getD_eq_getElem?_getD, hk] using he
  · have := hn j hj
    have hj2 : j < l.length := Nat.lt_trans hj hk
    simpa [List.getD_eq_getElem?_getD, hj2] using this
theorem find5_none {l : List P5} {p : Nat} (hn : ∀ a, a < l.length → (l.getD a nop5).at_ ≠ p) : ¬ find5 l p < l.length := by
  unfold find5
  rw [List.findIdx_lt_length]
  rintro ⟨x, hx, he⟩
  obtain ⟨j, hj, rfl⟩ := List.getElem_of_mem hx
  have := hn j hj
  simp [List.getD_eq_getElem?_getD, hj] at this
  simp at he
  exact this he
theorem find5_at {l : List P5} {p : Nat} (h : find5 l p < l.length) : (l.getD (find5 l p) nop5).at_ = p := by
  have h2 := eq_of_beq (List.findIdx_getElem (xs := l) (p := fun x : P5 => x.at_ == p) (w := h))
  rw [List.getD_eq_getElem?_getD, List.getElem?_eq_getElem h]
  exact h2
set_option maxRecDepth 20000 in
theorem page5_any (a : Nat) (ha : a < 4294967296) (w : World) : Calls Try.prog 59 #[.int .u32 (a : Int)] w fun e w' => e = .returned (.int .u32 ((a / 256 * 256 : Nat) : Int)) ∧ w' = w := by
  have e0 : ((a : Int) - (a : Int) % 256) % 4294967296 = ((a / 256 * 256 : Nat) : Int) := by omega
  go_enter Try.func59, Try.ntmps59
  go_wp2
  go_ret
  exact ⟨ret_int (by omega), rfl⟩
set_option maxRecDepth 20000 in
set_option maxHeartbeats 8000000 in
theorem find_any (w : World) (m : Nat) (ao : Option Addr) (cap a : Nat) (l : List P5) (h : Ps5 w ao l) (h1 : w.cell? ⟨m, 1, none⟩ = some (.slice ao l.length cap)) (hmax : l.length ≤ 1000) (ha : a < 4294967296) : Calls Try.prog 58 #[.pointer (some ⟨m, 0, none⟩), .int .u32 (a : Int)] w fun e w' => e = .returned (.int .i64 (find5I l (a / 256 * 256))) ∧ w' = w := by
  have H := hidden h
  obtain ⟨p, hp⟩ : ∃ p, a / 256 * 256 = p := ⟨_, rfl⟩
  have C : Hid (Calls Try.prog 59 #[.int .u32 (a : Int)] w fun e w' => e = .returned (.int .u32 (p : Int)) ∧ w' = w) := by rw [← hp]; exact page5_any a ha w
  rw [hp]
  have hp2 : p < 4294967296 := by omega
  clear h hp
  go_enter Try.func58, Try.ntmps58
  go_wp2_with (first | (go_at_call 59; refine (Hid.out C).mono ?_; rintro e w4 ⟨rfl, hww⟩; rw [hww]; clear hww w4))
  go_loopw [6] (fun x6 wr => ∃ k : Nat, k ≤ l.length ∧ x6 = .int .i64 (k : Int) ∧ wr = w ∧ ∀ j, j < k → (l.getD j nop5).at_ ≠ p) (fun x6 _ => l.length - (intOf x6).toNat)
  case atStart => exact ⟨0, by omega, rfl, rfl, by omega⟩
  case round =>
    obtain ⟨k, hk, rfl, rfl, hno⟩ := hrel
    have HN := hidden hno
    clear hno
    by_cases hkl : k < l.length
    · obtain ⟨b, off, rfl, hlt, hc⟩ := (Hid.out H).at hkl
      obtain ⟨s, hs⟩ : ∃ s, s = l.getD k nop5 := ⟨_, rfl⟩
      have hat := hc k hkl
      rw [← hs] at hat
      have c0 := hat.c0
      have la := hat.la
      have HS := hidden hs
      have hkl2 : (k : Int) < (l.length : Int) := by omega
      clear hc hs hat
      by_cases z : s.at_ = p
      · have y : (s.at_ : Int) = (p : Int) := by omega
        have HR := hidden (find5_here hkl (Hid.out HN) (by rw [← Hid.out HS]; exact z))
        go_wp2
        go_ret
        refine ⟨?_, rfl⟩
        have e1 := Hid.out HR
        unfold find5I
        rw [e1, if_pos hkl]
        rfl
      · have y : ¬ (s.at_ : Int) = (p : Int) := by omega
        go_wp2
        go_roundw
        case rel =>
          refine ⟨k + 1, by omega, by first | rfl | simp, by first | rfl | trivial, fun j hj => ?_⟩
          rcases Nat.lt_succ_iff_lt_or_eq.1 hj with h | h
          · exact Hid.out HN j h
          · subst h; rw [← Hid.out HS]; exact z
        case measure => simp [intOf]; omega
    · have hkl2 : ¬ (k : Int) < (l.length : Int) := by omega
      have hkk : k = l.length := by omega
      have HR := hidden (find5_none (l := l) (p := p) (by rw [← hkk]; exact Hid.out HN))
      clear hkk
      go_wp2
      go_ret
      refine ⟨?_, rfl⟩
      have e1 := Hid.out HR
      unfold find5I
      rw [if_neg e1]
      rfl
theorem find5I_yes {l : List P5} {p : Nat} (h : find5 l p < l.length) : find5I l p = (find5 l p : Int) := if_pos h
theorem find5I_no {l : List P5} {p : Nat} (h : ¬ find5 l p < l.length) : find5I l p = -1 := if_neg h
/-- What the page of a place allows: 0 where there is none. -/
def perm5 (l : List P5) (p : Nat) : Int := if find5 l p < l.length then (l.getD (find5 l p) nop5).perm else 0
set_option maxRecDepth 20000 in
theorem perm5_any (w : World) (m : Nat) (ao : Option Addr) (cap a : Nat) (l : List P5) (h : Ps5 w ao l) (h1 : w.cell? ⟨m, 1, none⟩ = some (.slice ao l.length cap)) (hmax : l.length ≤ 1000) (ha : a < 4294967296) : Calls Try.prog 36 #[.pointer (some ⟨m, 0, none⟩), .int .u32 (a : Int)] w fun e w' => e = .returned (.int .i64 (perm5 l (a / 256 * 256))) ∧ w' = w := by
  have C := hidden (find_any w m ao cap a l h h1 hmax ha)
  obtain ⟨p, hp⟩ : ∃ p, a / 256 * 256 = p := ⟨_, rfl⟩
  rw [hp] at C ⊢
  unfold perm5
  by_cases hf : find5 l p < l.length
  · rw [find5I_yes hf] at C
    rw [if_pos hf]
    obtain ⟨k, hk⟩ : ∃ k, find5 l p = k := ⟨_, rfl⟩
    rw [hk] at C hf ⊢
    obtain ⟨b, off, rfl, hlt, hc⟩ := h.at hf
    have c1 := (hc k hf).c1
    generalize (l.getD k nop5).perm = pm at c1 ⊢
    have hk0 : (0 : Int) ≤ (k : Int) := by omega
    clear hp hk h hc
    go_enter Try.func36, Try.ntmps36
    go_wp2_with (first | (go_at_call 58; refine (Hid.out C).mono ?_; rintro e w4 ⟨rfl, hww⟩; rw [hww]; clear hww w4))
    go_ret
    exact ⟨rfl, rfl⟩
  · rw [find5I_no hf] at C
    rw [if_neg hf]
    clear hp h hf
    go_enter Try.func36, Try.ntmps36
    go_wp2_with (first | (go_at_call 58; refine (Hid.out C).mono ?_; rintro e w4 ⟨rfl, hww⟩; rw [hww]; clear hww w4))
    go_ret
    exact ⟨rfl, rfl⟩
/-- The byte at a place: 0 where there is no page. -/
def peek5 (l : List P5) (a : Nat) : UInt8 := if find5 l (a / 256 * 256) < l.length then (l.getD (find5 l (a / 256 * 256)) nop5).b.getD (a % 256) 0 else 0
set_option maxRecDepth 20000 in
theorem peek5_any (w : World) (m : Nat) (ao : Option Addr) (cap a : Nat) (l : List P5) (h : Ps5 w ao l) (h1 : w.cell? ⟨m, 1, none⟩ = some (.slice ao l.length cap)) (hmax : l.length ≤ 1000) (ha : a < 4294967296) : Calls Try.prog 41 #[.pointer (some ⟨m, 0, none⟩), .int .u32 (a : Int)] w fun e w' => e = .returned (.int .u8 ((peek5 l a).toNat : Int)) ∧ w' = w := by
  have C := hidden (find_any w m ao cap a l h h1 hmax ha)
  unfold peek5
  obtain ⟨p, hp⟩ : ∃ p, a / 256 * 256 = p := ⟨_, rfl⟩
  rw [hp] at C ⊢
  by_cases hf : find5 l p < l.length
  · rw [find5I_yes hf] at C
    rw [if_pos hf]
    obtain ⟨k, hk⟩ : ∃ k, find5 l p = k := ⟨_, rfl⟩
    rw [hk] at C hf ⊢
    obtain ⟨b, off, rfl, hlt, hc⟩ := h.at hf
    have c1 := (hc k hf).cb (a % 256) (by omega)
    generalize (l.getD k nop5).b.getD (a % 256) 0 = pm at c1 ⊢
    have hpm : pm.toNat < 256 := pm.toNat_lt
    have hk0 : (0 : Int) ≤ (k : Int) := by omega
    obtain ⟨q, hq⟩ : ∃ q, a % 256 = q := ⟨_, rfl⟩
    rw [hq] at c1
    have hq2 : (a : Int) % 256 = (q : Int) := by omega
    have hq3 : q < 256 := by omega
    clear hp hk h hc hq
    go_enter Try.func41, Try.ntmps41
    go_wp2_with (first | (go_at_call 58; refine (Hid.out C).mono ?_; rintro e w4 ⟨rfl, hww⟩; rw [hww]; clear hww w4))
    go_ret
    exact ⟨rfl, rfl⟩
  · rw [find5I_no hf] at C
    rw [if_neg hf]
    clear hp h hf
    go_enter Try.func41, Try.ntmps41
    go_wp2_with (first | (go_at_call 58; refine (Hid.out C).mono ?_; rintro e w4 ⟨rfl, hww⟩; rw [hww]; clear hww w4))
    go_ret
    exact ⟨rfl, rfl⟩
end Go.Proofs.Ytkpcajmphhdmiaa
namespace Go.Proofs.Ytkpcajmphhdmiaa
open Go.ChangeShapes Go.WideShapes Go.ChangeAt Go.RowKit
set_option linter.unusedVariables false
theorem P5At.later {w w' : World} {b o : Nat} {p : P5} (h : P5At w b o p) (hlt : b < w.heap.size) {n : Nat} (hn : b < n) (hb : Below n w w') : P5At w' b o p :=
  ⟨(hb.cell (p := ⟨b, o, none⟩) hn).trans h.c0, (hb.cell (p := ⟨b, o + 1, none⟩) hn).trans h.c1, fun i hi => (hb.cell (p := ⟨b, o + 2 + i, none⟩) hn).trans (h.cb i hi), (hb.cell (p := ⟨b, o + 258, none⟩) hn).trans h.cw, h.la⟩
theorem Ps5.later {w w' : World} {ao : Option Addr} {l : List P5} (h : Ps5 w ao l) (hb : Below w.heap.size w w') : Ps5 w' ao l := by
  rcases h with h | ⟨b, off, e, hlt, h⟩
  · exact .inl h
  · exact .inr ⟨b, off, e, Nat.lt_of_lt_of_le hlt hb.size, fun j hj => (h j hj).later hlt hlt hb⟩
theorem take5 {l : List P5} {k : Nat} (h : k < l.length) : (l.take k).map P5.at_ ++ [(l.getD k nop5).at_] = (l.take (k + 1)).map P5.at_ := by
  rw [List.take_add_one, List.getElem?_eq_getElem h, List.getD_eq_getElem?_getD, List.getElem?_eq_getElem h, List.map_append]
  rfl
/-- One byte put behind a row of the call's own. -/
theorem wpList_pushB {ops : Array Oper} {rest : List Oper} {o : Oper} {a : Act} {Q : Exit → Act → World → Prop} {w wa : World} (hgd : o.guard = none) (s y : Operand)
    (ho : o.op = .call { callee := .builtin .append, args := #[s, y], argTypes := #[46, 46] }) (base : Nat) (v : Value) (l : List UInt8) (z : UInt8) (hwa : wa = w.alloc (.cells #[.int .u8 (z.toNat : Int)] 5)) (hs : a.eval s = v) (hy : a.eval y = .slice (some ⟨w.heap.size, 0, none⟩) 1 1)
    (hown : w.ownsRow base 5 1 v l.length (cellsU l)) (hl : l.length < 1000000) (hbase : base ≤ w.heap.size)
    (h : ∀ v' w', w'.ownsRow base 5 1 v' (l ++ [z]).length (cellsU (l ++ [z])) → Below base w w' → wpList Try.prog ops Q rest (a.put o.dst v') w') : wpList Try.prog ops Q (o :: rest) a wa := by
  obtain ⟨i0, hi, hz0, hz1, hz2⟩ := info_parts info5
  subst hwa
  refine wpList_append_own _ hgd s y 46 ho base 5 i0 (.int .u8 0) 1 1 Try.underlying46 hi hz0 hz1 hz2 rfl (by decide) v l.length (cellsU l) hs (hown.alloc _) ⟨w.heap.size, 0, none⟩ 1 1 (cellsU [z]) hy rfl ?_ (cellsU_one _) (by simp [maxLen]; omega) (by omega) (by simp; omega) ?_
  · refine Lies.cells (fun j hj => ?_)
    have : j = 0 := by simp at hj; omega
    subst this
    rw [cell_of_row _ _ _ _ _ _ (heap_alloc_new w _)]
    rfl
  · intro v' w' hown' hgrow _
    rw [← cellsU_append] at hown'
    refine h v' w' (by simpa using hown') ?_
    refine ((Below.refl base w).alloc hbase _).grown hgrow (by simp; omega) ?_
    intro k hk
    exact (hown.lt k hk).1
/-- The bytes from a place on. -/
def bytes5 (l : List P5) (a k : Nat) : List UInt8 := (List.range k).map fun i => peek5 l ((a + i) % 4294967296)
theorem bytes5_snoc (l : List P5) (a k : Nat) : bytes5 l a (k + 1) = bytes5 l a k ++ [peek5 l ((a + k) % 4294967296)] := by
  unfold bytes5
  rw [List.range_succ, List.map_append]
  rfl
set_option maxRecDepth 20000 in
set_option maxHeartbeats 8000000 in
theorem bytes5_any (w : World) (m : Nat) (ao : Option Addr) (cap a : Nat) (c : Nat) (l : List P5) (h : Ps5 w ao l) (hm : m < w.heap.size) (h1 : w.cell? ⟨m, 1, none⟩ = some (.slice ao l.length cap)) (hmax : l.length ≤ 1000) (ha : a < 4294967296) (hc : c ≤ 16384) : Calls Try.prog 49 #[.pointer (some ⟨m, 0, none⟩), .int .u32 (a : Int), .int .i64 (c : Int)] w fun e w' => ∃ v, e = .returned v ∧ w'.ownsRow w.heap.size 5 1 v (bytes5 l a c).length (cellsU (bytes5 l a c)) ∧ Below w.heap.size w w' := by
  have H := hidden h
  have H1 := hidden h1
  obtain ⟨n, hn⟩ : ∃ n, w.heap.size = n := ⟨_, rfl⟩
  have HM : Hid (m < n) := by rw [← hn]; exact hm
  have HN := hidden hn
  rw [hn]
  clear h hm hn h1
  have B0 := hidden (Below.refl n w)
  have R0 := hidden (World.ownsRow_nil w n 5 1)
  have NN : Hid (n ≤ w.heap.size) := by rw [Hid.out HN]; exact Nat.le_refl _
  have hmin : min (c : Int) 16384 = (c : Int) := by omega
  have HC := hidden hc
  have hc2 : (c : Int) ≤ 16384 := by omega
  clear hc
  go_enter Try.func49, Try.ntmps49
  go_wp2
  go_loopw [7, 8] (fun x7 x8 wr => ∃ (k : Nat) (ts : List UInt8), k ≤ c ∧ x8 = .int .i64 (k : Int) ∧ ts = bytes5 l a k ∧ wr.ownsRow n 5 1 x7 ts.length (cellsU ts) ∧ Below n w wr) (fun _ x8 _ => c - (intOf x8).toNat)
  case atStart => exact ⟨0, [], by omega, rfl, by simp [bytes5], Hid.out R0, Hid.out B0⟩
  case round =>
    obtain ⟨k, ts, hk, rfl, hts, hrow, hb⟩ := hrel
    have hbs : n ≤ wr.heap.size := Nat.le_trans (Hid.out NN) hb.size
    have htl : ts.length = k := by rw [hts]; simp [bytes5]
    have hlen : ts.length < 1000000 := by have := Hid.out HC; omega
    have HR := hidden hrow
    have HB := hidden hb
    have HT := hidden hts
    have HL := hidden hlen
    have HBS := hidden hbs
    by_cases hkl : k < c
    · obtain ⟨q, hq⟩ : ∃ q, (a + k) % 4294967296 = q := ⟨_, rfl⟩
      have hq2 : ((a : Int) + (k : Int)) % 4294967296 = (q : Int) := by omega
      have hk3 : (k : Int) % 4294967296 = (k : Int) := by have := Hid.out HC; omega
      have C := hidden (peek5_any wr m ao cap q l ((Hid.out H).later (by rw [Hid.out HN]; exact hb)) ((hb.cell (p := ⟨m, 1, none⟩) (Hid.out HM)).trans (Hid.out H1)) hmax (by omega))
      obtain ⟨z, hz⟩ : ∃ z, peek5 l q = z := ⟨_, rfl⟩
      rw [hz] at C
      have hkl2 : (k : Int) < (c : Int) := by omega
      have HQ := hidden hq
      have HZ := hidden hz
      clear hb hrow hts htl hlen hbs hq hz
      go_wp2_with (first | (go_at_call 41; refine (Hid.out C).mono ?_; rintro e w4 ⟨rfl, hww⟩; rw [hww]; clear hww w4) | (at_builtin; refine wpList_pushB rfl _ _ rfl n _ ts z rfl rfl rfl (Hid.out HR) (Hid.out HL) (Hid.out HBS) ?_; intro v' w1 hown hgr; have HO := hidden hown; have HG := hidden hgr; clear hown hgr))
      go_roundw
      case rel =>
        refine ⟨k + 1, ts ++ [z], by omega, by first | rfl | simp, ?_, Hid.out HO, (Hid.out HB).trans (Hid.out HG)⟩
        rw [bytes5_snoc, Hid.out HT, Hid.out HQ, Hid.out HZ]
      case measure => simp [intOf]; omega
    · have hkl2 : ¬ (k : Int) < (c : Int) := by omega
      have hkk : k = c := by omega
      have HK := hidden hkk
      clear hb hrow hts htl hlen hbs hkk
      go_wp2
      go_ret
      have e1 : ts = bytes5 l a c := by rw [Hid.out HT, Hid.out HK]
      exact ⟨_, rfl, by rw [← e1]; exact Hid.out HR, Hid.out HB⟩
set_option maxRecDepth 20000 in
set_option maxHeartbeats 8000000 in
theorem pages5_any (w : World) (m : Nat) (ao : Option Addr) (cap : Nat) (l : List P5) (h : Ps5 w ao l) (hm : m < w.heap.size) (h1 : w.cell? ⟨m, 1, none⟩ = some (.slice ao l.length cap)) (hmax : l.length ≤ 1000) : Calls Try.prog 46 #[.pointer (some ⟨m, 0, none⟩)] w fun e w' => ∃ v, e = .returned v ∧ w'.ownsRow w.heap.size 23 1 v (l.map P5.at_).length (words (l.map P5.at_)) ∧ Below w.heap.size w w' := by
  have H := hidden h
  have H1 := hidden h1
  obtain ⟨n, hn⟩ : ∃ n, w.heap.size = n := ⟨_, rfl⟩
  have HM : Hid (m < n) := by rw [← hn]; exact hm
  have HN := hidden hn
  rw [hn]
  clear h hm hn h1
  have B0 := hidden (Below.refl n w)
  have R0 := hidden (World.ownsRow_nil w n 23 1)
  have NN : Hid (n ≤ w.heap.size) := by rw [Hid.out HN]; exact Nat.le_refl _
  go_enter Try.func46, Try.ntmps46
  go_wp2
  go_loopw [3, 4] (fun x3 x4 wr => ∃ (k : Nat) (ts : List Nat), k ≤ l.length ∧ x4 = .int .i64 (k : Int) ∧ ts = (l.take k).map P5.at_ ∧ wr.ownsRow n 23 1 x3 ts.length (words ts) ∧ Below n w wr) (fun _ x4 _ => l.length - (intOf x4).toNat)
  case atStart => exact ⟨0, [], by omega, rfl, by simp, Hid.out R0, Hid.out B0⟩
  case round =>
    obtain ⟨k, ts, hk, rfl, hts, hrow, hb⟩ := hrel
    have hbs : n ≤ wr.heap.size := Nat.le_trans (Hid.out NN) hb.size
    have r1 : wr.cell? ⟨m, 1, none⟩ = some (.slice ao l.length cap) := (hb.cell (p := ⟨m, 1, none⟩) (Hid.out HM)).trans (Hid.out H1)
    have htl : ts.length = k := by rw [hts]; simp; omega
    have hlen : ts.length < 1099511627776 := by omega
    have HR := hidden hrow
    have HB := hidden hb
    have HT := hidden hts
    have HL := hidden hlen
    have HBS := hidden hbs
    by_cases hkl : k < l.length
    · obtain ⟨b, off, rfl, hlt, hc⟩ := ((Hid.out H).later (by rw [Hid.out HN]; exact hb)).at hkl
      obtain ⟨s, hs⟩ : ∃ s, s = l.getD k nop5 := ⟨_, rfl⟩
      have hat := hc k hkl
      rw [← hs] at hat
      have c0 := hat.c0
      have la := hat.la
      have HS := hidden hs
      have hkl2 : (k : Int) < (l.length : Int) := by omega
      clear hc hs hat hb hrow hts htl hlen hbs
      go_wp2_with (at_builtin; refine wpList_pushW rfl _ _ rfl n _ ts (s.at_ : Int) wr rfl rfl rfl (Hid.out HR) (Hid.out HL) (Hid.out HBS) ?_; intro v' w1 hown hgr hloc; have HO := hidden hown; have HG := hidden hgr; clear hown hgr hloc)
      go_roundw
      case rel =>
        refine ⟨k + 1, ts ++ [s.at_], by omega, by first | rfl | simp, ?_, ?_, ?_⟩
        · rw [Hid.out HT, Hid.out HS]
          exact take5 hkl
        · have := Hid.out HO
          simpa [words] using this
        · exact (Hid.out HB).grown (Hid.out HG) (Hid.out HBS) fun j hj => ((Hid.out HR).lt j hj).1
      case measure => simp [intOf]; omega
    · have hkl2 : ¬ (k : Int) < (l.length : Int) := by omega
      have hkk : k = l.length := by omega
      have HK := hidden hkk
      clear hb hrow hts htl hlen hbs hkk
      go_wp2
      go_ret
      have e1 : ts = l.map P5.at_ := by rw [Hid.out HT, Hid.out HK, List.take_length]
      have e2 : ts.length = l.length := by rw [e1, List.length_map]
      have HR2 := Hid.out HR
      rw [e2] at HR2
      exact ⟨_, rfl, by rw [← e1]; exact HR2, Hid.out HB⟩
end Go.Proofs.Ytkpcajmphhdmiaa

/- Chapter 5's own memory: its pages' places and its bytes as rows. -/
import Derived.Test.YtodoenimlhldjaaQMRead
namespace Go.Proofs.Ytodoenimlhldjaa
open Go.ChangeShapes Go.WideShapes Go.ChangeAt Go.RowKit
set_option linter.unusedVariables false
theorem P5At.later {w w' : World} {b o : Nat} {p : P5} (h : P5At w b o p) (hlt : b < w.heap.size) {n : Nat} (hn : b < n) (hb : Below n w w') : P5At w' b o p :=
  ⟨(hb.cell (p := ⟨b, o, none⟩) hn).trans h.c0, (hb.cell (p := ⟨b, o + 1, none⟩) hn).trans h.c1, fun i hi => (hb.cell (p := ⟨b, o + 2 + i, none⟩) hn).trans (h.cb i hi), (hb.cell (p := ⟨b, o + 258, none⟩) hn).trans h.cw, h.la⟩
theorem Ps5.later {w w' : World} {ao : Option Addr} {l : List P5} (h : Ps5 w ao l) (hb : Below w.heap.size w w') : Ps5 w' ao l := by
  rcases h with h | ⟨b, off, e, hlt, h⟩
  · exact .inl h
  · exact .inr ⟨b, off, e, Nat.lt_of_lt_of_le hlt hb.size, fun j hj => (h j hj).later hlt hlt hb⟩
theorem take5 {l : List P5} {k : Nat} (h : k < l.length) : (l.take k).map P5.at_ ++ [(l.getD k nop5).at_] = (l.take (k + 1)).map P5.at_ := by
  rw [List.take_add_one, List.getElem?_eq_getElem h, List.getD_eq_getElem?_getD, List.getElem?_eq_getElem h, List.map_append]
  rfl
/-- One byte put behind a row of the call's own. -/
theorem wpList_pushB {ops : Array Oper} {rest : List Oper} {o : Oper} {a : Act} {Q : Exit → Act → World → Prop} {w wa : World} (hgd : o.guard = none) (s y : Operand)
    (ho : o.op = .call { callee := .builtin .append, args := #[s, y], argTypes := #[50, 50] }) (base : Nat) (v : Value) (l : List UInt8) (z : UInt8) (hwa : wa = w.alloc (.cells #[.int .u8 (z.toNat : Int)] 5)) (hs : a.eval s = v) (hy : a.eval y = .slice (some ⟨w.heap.size, 0, none⟩) 1 1)
    (hown : w.ownsRow base 5 1 v l.length (cellsU l)) (hl : l.length < 1000000) (hbase : base ≤ w.heap.size)
    (h : ∀ v' w', w'.ownsRow base 5 1 v' (l ++ [z]).length (cellsU (l ++ [z])) → Below base w w' → wpList Try.prog ops Q rest (a.put o.dst v') w') : wpList Try.prog ops Q (o :: rest) a wa := by
  obtain ⟨i0, hi, hz0, hz1, hz2⟩ := info_parts info5
  subst hwa
  refine wpList_append_own _ hgd s y 50 ho base 5 i0 (.int .u8 0) 1 1 Try.underlying50 hi hz0 hz1 hz2 rfl (by decide) v l.length (cellsU l) hs (hown.alloc _) ⟨w.heap.size, 0, none⟩ 1 1 (cellsU [z]) hy rfl ?_ (cellsU_one _) (by simp [maxLen]; omega) (by omega) (by simp; omega) ?_
  · refine Lies.cells (fun j hj => ?_)
    have : j = 0 := by simp at hj; omega
    subst this
    rw [cell_of_row _ _ _ _ _ _ (heap_alloc_new w _)]
    rfl
  · intro v' w' hown' hgrow _
    rw [← cellsU_append] at hown'
    refine h v' w' (by simpa using hown') ?_
    refine ((Below.refl base w).alloc hbase _).grown hgrow (by simp; omega) ?_
    intro k hk
    exact (hown.lt k hk).1
/-- The bytes from a place on. -/
def bytes5 (l : List P5) (a k : Nat) : List UInt8 := (List.range k).map fun i => peek5 l ((a + i) % 4294967296)
theorem bytes5_snoc (l : List P5) (a k : Nat) : bytes5 l a (k + 1) = bytes5 l a k ++ [peek5 l ((a + k) % 4294967296)] := by
  unfold bytes5
  rw [List.range_succ, List.map_append]
  rfl
set_option maxRecDepth 20000 in
set_option maxHeartbeats 8000000 in
theorem bytes5_any (w : World) (m : Nat) (ao : Option Addr) (cap a : Nat) (c : Nat) (l : List P5) (h : Ps5 w ao l) (hm : m < w.heap.size) (h1 : w.cell? ⟨m, 1, none⟩ = some (.slice ao l.length cap)) (hmax : l.length ≤ 1000) (ha : a < 4294967296) (hc : c ≤ 16384) : Calls Try.prog 48 #[.pointer (some ⟨m, 0, none⟩), .int .u32 (a : Int), .int .i64 (c : Int)] w fun e w' => ∃ v, e = .returned v ∧ w'.ownsRow w.heap.size 5 1 v (bytes5 l a c).length (cellsU (bytes5 l a c)) ∧ Below w.heap.size w w' := by
  have H := hidden h
  have H1 := hidden h1
  obtain ⟨n, hn⟩ : ∃ n, w.heap.size = n := ⟨_, rfl⟩
  have HM : Hid (m < n) := by rw [← hn]; exact hm
  have HN := hidden hn
  rw [hn]
  clear h hm hn h1
  have B0 := hidden (Below.refl n w)
  have R0 := hidden (World.ownsRow_nil w n 5 1)
  have NN : Hid (n ≤ w.heap.size) := by rw [Hid.out HN]; exact Nat.le_refl _
  have hmin : min (c : Int) 16384 = (c : Int) := by omega
  have HC := hidden hc
  have hc2 : (c : Int) ≤ 16384 := by omega
  clear hc
  go_enter Try.func48, Try.ntmps48
  go_wp2
  go_loopw [7, 8] (fun x7 x8 wr => ∃ (k : Nat) (ts : List UInt8), k ≤ c ∧ x8 = .int .i64 (k : Int) ∧ ts = bytes5 l a k ∧ wr.ownsRow n 5 1 x7 ts.length (cellsU ts) ∧ Below n w wr) (fun _ x8 _ => c - (intOf x8).toNat)
  case atStart => exact ⟨0, [], by omega, rfl, by simp [bytes5], Hid.out R0, Hid.out B0⟩
  case round =>
    obtain ⟨k, ts, hk, rfl, hts, hrow, hb⟩ := hrel
    have hbs : n ≤ wr.heap.size := Nat.le_trans (Hid.out NN) hb.size
    have htl : ts.length = k := by rw [hts]; simp [bytes5]
    have hlen : ts.length < 1000000 := by have := Hid.out HC; omega
    have HR := hidden hrow
    have HB := hidden hb
    have HT := hidden hts
    have HL := hidden hlen
    have HBS := hidden hbs
    by_cases hkl : k < c
    · obtain ⟨q, hq⟩ : ∃ q, (a + k) % 4294967296 = q := ⟨_, rfl⟩
      have hq2 : ((a : Int) + (k : Int)) % 4294967296 = (q : Int) := by omega
      have hk3 : (k : Int) % 4294967296 = (k : Int) := by have := Hid.out HC; omega
      have C := hidden (peek5_any wr m ao cap q l ((Hid.out H).later (by rw [Hid.out HN]; exact hb)) ((hb.cell (p := ⟨m, 1, none⟩) (Hid.out HM)).trans (Hid.out H1)) hmax (by omega))
      obtain ⟨z, hz⟩ : ∃ z, peek5 l q = z := ⟨_, rfl⟩
      rw [hz] at C
      have hkl2 : (k : Int) < (c : Int) := by omega
      have HQ := hidden hq
      have HZ := hidden hz
      clear hb hrow hts htl hlen hbs hq hz
      go_wp2_with (first | (go_at_call 69; refine (Hid.out C).mono ?_; rintro e w4 ⟨rfl, hww⟩; rw [hww]; clear hww w4) | (at_builtin; refine wpList_pushB rfl _ _ rfl n _ ts z rfl rfl rfl (Hid.out HR) (Hid.out HL) (Hid.out HBS) ?_; intro v' w1 hown hgr; have HO := hidden hown; have HG := hidden hgr; clear hown hgr))
      go_roundw
      case rel =>
        refine ⟨k + 1, ts ++ [z], by omega, by first | rfl | simp, ?_, Hid.out HO, (Hid.out HB).trans (Hid.out HG)⟩
        rw [bytes5_snoc, Hid.out HT, Hid.out HQ, Hid.out HZ]
      case measure => simp [intOf]; omega
    · have hkl2 : ¬ (k : Int) < (c : Int) := by omega
      have hkk : k = c := by omega
      have HK := hidden hkk
      clear hb hrow hts htl hlen hbs hkk
      go_wp2
      go_ret
      have e1 : ts = bytes5 l a c := by rw [Hid.out HT, Hid.out HK]
      exact ⟨_, rfl, by rw [← e1]; exact Hid.out HR, Hid.out HB⟩
set_option maxRecDepth 20000 in
set_option maxHeartbeats 8000000 in
theorem pages5_any (w : World) (m : Nat) (ao : Option Addr) (cap : Nat) (l : List P5) (h : Ps5 w ao l) (hm : m < w.heap.size) (h1 : w.cell? ⟨m, 1, none⟩ = some (.slice ao l.length cap)) (hmax : l.length ≤ 1000) : Calls Try.prog 46 #[.pointer (some ⟨m, 0, none⟩)] w fun e w' => ∃ v, e = .returned v ∧ w'.ownsRow w.heap.size 23 1 v (l.map P5.at_).length (words (l.map P5.at_)) ∧ Below w.heap.size w w' := by
  have H := hidden h
  have H1 := hidden h1
  obtain ⟨n, hn⟩ : ∃ n, w.heap.size = n := ⟨_, rfl⟩
  have HM : Hid (m < n) := by rw [← hn]; exact hm
  have HN := hidden hn
  rw [hn]
  clear h hm hn h1
  have B0 := hidden (Below.refl n w)
  have R0 := hidden (World.ownsRow_nil w n 23 1)
  have NN : Hid (n ≤ w.heap.size) := by rw [Hid.out HN]; exact Nat.le_refl _
  go_enter Try.func46, Try.ntmps46
  go_wp2
  go_loopw [3, 4] (fun x3 x4 wr => ∃ (k : Nat) (ts : List Nat), k ≤ l.length ∧ x4 = .int .i64 (k : Int) ∧ ts = (l.take k).map P5.at_ ∧ wr.ownsRow n 23 1 x3 ts.length (words ts) ∧ Below n w wr) (fun _ x4 _ => l.length - (intOf x4).toNat)
  case atStart => exact ⟨0, [], by omega, rfl, by simp, Hid.out R0, Hid.out B0⟩
  case round =>
    obtain ⟨k, ts, hk, rfl, hts, hrow, hb⟩ := hrel
    have hbs : n ≤ wr.heap.size := Nat.le_trans (Hid.out NN) hb.size
    have r1 : wr.cell? ⟨m, 1, none⟩ = some (.slice ao l.length cap) := (hb.cell (p := ⟨m, 1, none⟩) (Hid.out HM)).trans (Hid.out H1)
    have htl : ts.length = k := by rw [hts]; simp; omega
    have hlen : ts.length < 1099511627776 := by omega
    have HR := hidden hrow
    have HB := hidden hb
    have HT := hidden hts
    have HL := hidden hlen
    have HBS := hidden hbs
    by_cases hkl : k < l.length
    · obtain ⟨b, off, rfl, hlt, hc⟩ := ((Hid.out H).later (by rw [Hid.out HN]; exact hb)).at hkl
      obtain ⟨s, hs⟩ : ∃ s, s = l.getD k nop5 := ⟨_, rfl⟩
      have hat := hc k hkl
      rw [← hs] at hat
      have c0 := hat.c0
      have la := hat.la
      have HS := hidden hs
      have hkl2 : (k : Int) < (l.length : Int) := by omega
      clear hc hs hat hb hrow hts htl hlen hbs
      go_wp2_with (at_builtin; refine wpList_pushW rfl _ _ rfl n _ ts (s.at_ : Int) wr rfl rfl rfl (Hid.out HR) (Hid.out HL) (Hid.out HBS) ?_; intro v' w1 hown hgr hloc; have HO := hidden hown; have HG := hidden hgr; clear hown hgr hloc)
      go_roundw
      case rel =>
        refine ⟨k + 1, ts ++ [s.at_], by omega, by first | rfl | simp, ?_, ?_, ?_⟩
        · rw [Hid.out HT, Hid.out HS]
          exact take5 hkl
        · have := Hid.out HO
          simpa [words] using this
        · exact (Hid.out HB).grown (Hid.out HG) (Hid.out HBS) fun j hj => ((Hid.out HR).lt j hj).1
      case measure => simp [intOf]; omega
    · have hkl2 : ¬ (k : Int) < (l.length : Int) := by omega
      have hkk : k = l.length := by omega
      have HK := hidden hkk
      clear hb hrow hts htl hlen hbs hkk
      go_wp2
      go_ret
      have e1 : ts = l.map P5.at_ := by rw [Hid.out HT, Hid.out HK, List.take_length]
      have e2 : ts.length = l.length := by rw [e1, List.length_map]
      have HR2 := Hid.out HR
      rw [e2] at HR2
      exact ⟨_, rfl, by rw [← e1]; exact HR2, Hid.out HB⟩
end Go.Proofs.Ytodoenimlhldjaa

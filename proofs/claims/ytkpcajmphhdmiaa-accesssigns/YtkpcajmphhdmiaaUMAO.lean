/- Chapter 5's own memory: its pages' places and its bytes as rows. -/
import Derived.Test.YtkpcajmphhdmiaaUMAN
import Derived.Lib.BufferMore
namespace Go.Proofs.Ytkpcajmphhdmiaa
open Go.ChangeShapes Go.WideShapes Go.ChangeAt Go.RowKit
set_option linter.unusedVariables false
theorem P5At.later {w w' : World} {b o : Nat} {p : P5} (h : P5At w b o p) (hlt : b < w.heap.size) {n : Nat} (hn : b < n) (hb : Below n w w') : P5At w' b o p :=
  ⟨(hb.cell (p := ⟨b, o, none⟩) hn).trans h.c0, (hb.cell (p := ⟨b, o + 1, none⟩) hn).trans h.c1, fun i hi => (hb.cell (p := ⟨b, o + 2 + i, none⟩) hn).trans (h.cb i hi), (hb.cell (p := ⟨b, o + 258, none⟩) hn).trans h.cw, h.la⟩
theorem Ps5.later {w w' : World} {ao : Option Addr} {l : List P5} (h : Ps5 w ao l) (hb : Below w.heap.size w w') : Ps5 w' ao l := by
  rcases h with h | ⟨b, off, e, hlt, h⟩
  · exact .inl h
  · exact .inr ⟨b, off, e, Nat.lt_of_lt_of_le hlt hb.size, fun j hj => (h j hj).later hlt hlt hb⟩
theorem take5 {l : List P5} {k : Nat} (h : k < l.length) : (l.take k).map P5.at_ ++ [(l.getD k nop5).at_] = (l.take (k + 1)).map P5.at_ := by
  rw [List.take_add_one, List.getElem?_eq_getElem h, List.getD_eq_getElem?_getD, List.getElem?_eq_getElem h, List.map_append]
  rfl
/-- One byte put behind a row of the call's own. -/
theorem wpList_pushB {ops : Array Oper} {rest : List Oper} {o : Oper} {a : Act} {Q : Exit → Act → World → Prop} {w wa : World} (hgd : o.guard = none) (s y : Operand)
    (ho : o.op = .call { callee := .builtin .append, args := #[s, y], argTypes := #[46, 46] }) (base : Nat) (v : Value) (l : List UInt8) (z : UInt8) (hwa : wa = w.alloc (.cells #[.int .u8 (z.toNat : Int)] 5)) (hs : a.eval s = v) (hy : a.eval y = .slice (some ⟨w.heap.size, 0, none⟩) 1 1)
    (hown : w.ownsRow base 5 1 v l.length (cellsU l)) (hl : l.length < 1000000) (hbase : base ≤ w.heap.size)
    (h : ∀ v' w', w'.ownsRow base 5 1 v' (l ++ [z]).length (cellsU (l ++ [z])) → Below base w w' → wpList Try.prog ops Q rest (a.put o.dst v') w') : wpList Try.prog ops Q (o :: rest) a wa := by
  obtain ⟨i0, hi, hz0, hz1, hz2⟩ := info_parts info5
  subst hwa
  refine wpList_append_own _ hgd s y 46 ho base 5 i0 (.int .u8 0) 1 1 Try.underlying46 hi hz0 hz1 hz2 rfl (by decide) v l.length (cellsU l) hs (hown.alloc _) ⟨w.heap.size, 0, none⟩ 1 1 (cellsU [z]) hy rfl ?_ (cellsU_one _) (by simp [maxLen]; omega) (by omega) (by simp; omega) ?_
  · refine Lies.cells (fun j hj => ?_)
    have : j = 0 := by simp at hj; omega
    subst this
    rw [cell_of_row _ _ _ _ _ _ (heap_alloc_new w _)]
    rfl
  · intro v' w' hown' hgrow _
    rw [← cellsU_append] at hown'
    refine h v' w' (by simpa using hown') ?_
    refine ((Below.refl base w).alloc hbase _).grown hgrow (by simp; omega) ?_
    intro k hk
    exact (hown.lt k hk).1
/-- The bytes from a place on. -/
def bytes5 (l : List P5) (a k : Nat) : List UInt8 := (List.range k).map fun i => peek5 l ((a + i) % 4294967296)
theorem bytes5_snoc (l : List P5) (a k : Nat) : bytes5 l a (k + 1) = bytes5 l a k ++ [peek5 l ((a + k) % 4294967296)] := by
  unfold bytes5
  rw [List.range_succ, List.map_append]
  rfl
set_option maxRecDepth 20000 in
set_option maxHeartbeats 8000000 in
theorem bytes5_any (w : World) (m : Nat) (ao : Option Addr) (cap a : Nat) (c : Nat) (l : List P5) (h : Ps5 w ao l) (hm : m < w.heap.size) (h1 : w.cell? ⟨m, 1, none⟩ = some (.slice ao l.length cap)) (hmax : l.length ≤ 1000) (ha : a < 4294967296) (hc : c ≤ 16384) : Calls Try.prog 49 #[.pointer (some ⟨m, 0, none⟩), .int .u32 (a : Int), .int .i64 (c : Int)] w fun e w' => ∃ v, e = .returned v ∧ w'.ownsRow w.heap.size 5 1 v (bytes5 l a c).length (cellsU (bytes5 l a c)) ∧ Below w.heap.size w w' := by
  have H := hidden h
  have H1 := hidden h1
  obtain ⟨n, hn⟩ : ∃ n, w.heap.size = n := ⟨_, rfl⟩
  have HM : Hid (m < n) := by rw [← hn]; exact hm
  have HN := hidden hn
  rw [hn]
  clear h hm hn h1
  have B0 := hidden (Below.refl n w)
  have R0 := hidden (World.ownsRow_nil w n 5 1)
  have NN : Hid (n ≤ w.heap.size) := by rw [Hid.out HN]; exact Nat.le_refl _
  have hmin : min (c : Int) 16384 = (c : Int) := by omega
  have HC := hidden hc
  have hc2 : (c : Int) ≤ 16384 := by omega
  clear hc
  go_enter Try.func49, Try.ntmps49
  go_wp2
  go_loopw [7, 8] (fun x7 x8 wr => ∃ (k : Nat) (ts : List UInt8), k ≤ c ∧ x8 = .int .i64 (k : Int) ∧ ts = bytes5 l a k ∧ wr.ownsRow n 5 1 x7 ts.length (cellsU ts) ∧ Below n w wr) (fun _ x8 _ => c - (intOf x8).toNat)
  case atStart => exact ⟨0, [], by omega, rfl, by simp [bytes5], Hid.out R0, Hid.out B0⟩
  case round =>
    obtain ⟨k, ts, hk, rfl, hts, hrow, hb⟩ := hrel
    have hbs : n ≤ wr.heap.size := Nat.le_trans (Hid.out NN) hb.size
    have htl : ts.length = k := by rw [hts]; simp [bytes5]
    have hlen : ts.length < 1000000 := by have := Hid.out HC; omega
    have HR := hidden hrow
    have HB := hidden hb
    have HT := hidden hts
    have HL := hidden hlen
    have HBS := hidden hbs
    by_cases hkl : k < c
    · obtain ⟨q, hq⟩ : ∃ q, (a + k) % 4294967296 = q := ⟨_, rfl⟩
      have hq2 : ((a : Int) + (k : Int)) % 4294967296 = (q : Int) := by omega
      have hk3 : (k : Int) % 4294967296 = (k : Int) := by have := Hid.out HC; omega
      have C := hidden (peek5_any wr m ao cap q l ((Hid.out H).later (by rw [Hid.out HN]; exact hb)) ((hb.cell (p := ⟨m, 1, none⟩) (Hid.out HM)).trans (Hid.out H1)) hmax (by omega))
      obtain ⟨z, hz⟩ : ∃ z, peek5 l q = z := ⟨_, rfl⟩
      rw [hz] at C
      have hkl2 : (k : Int) < (c : Int) := by omega
      have HQ := hidden hq
      have HZ := hidden hz
      clear hb hrow hts htl hlen hbs hq hz
      go_wp2_with (first | (go_at_call 41; refine (Hid.out C).mono ?_; rintro e w4 ⟨rfl, hww⟩; rw [hww]; clear hww w4) | (at_builtin; refine wpList_pushB rfl _ _ rfl n _ ts z rfl rfl rfl (Hid.out HR) (Hid.out HL) (Hid.out HBS) ?_; intro v' w1 hown hgr; have HO := hidden hown; have HG := hidden hgr; clear hown hgr))
      go_roundw
      case rel =>
        refine ⟨k + 1, ts ++ [z], by omega, by first | rfl | simp, ?_, Hid.out HO, (Hid.out HB).trans (Hid.out HG)⟩
        rw [bytes5_snoc, Hid.out HT, Hid.out HQ, Hid.out HZ]
      case measure => simp [intOf]; omega
    · have hkl2 : ¬ (k : Int) < (c : Int) := by omega
      have hkk : k = c := by omega
      have HK := hidden hkk
      clear hb hrow hts htl hlen hbs hkk
      go_wp2
      go_ret
      have e1 : ts = bytes5 l a c := by rw [Hid.out HT, Hid.out HK]
      exact ⟨_, rfl, by rw [← e1]; exact Hid.out HR, Hid.out HB⟩
set_option maxRecDepth 20000 in
set_option maxHeartbeats 8000000 in
theorem pages5_any (w : World) (m : Nat) (ao : Option Addr) (cap : Nat) (l : List P5) (h : Ps5 w ao l) (hm : m < w.heap.size) (h1 : w.cell? ⟨m, 1, none⟩ = some (.slice ao l.length cap)) (hmax : l.length ≤ 1000) : Calls Try.prog 46 #[.pointer (some ⟨m, 0, none⟩)] w fun e w' => ∃ v, e = .returned v ∧ w'.ownsRow w.heap.size 23 1 v (l.map P5.at_).length (words (l.map P5.at_)) ∧ Below w.heap.size w w' := by
  have H := hidden h
  have H1 := hidden h1
  obtain ⟨n, hn⟩ : ∃ n, w.heap.size = n := ⟨_, rfl⟩
  have HM : Hid (m < n) := by rw [← hn]; exact hm
  have HN := hidden hn
  rw [hn]
  clear h hm hn h1
  have B0 := hidden (Below.refl n w)
  have R0 := hidden (World.ownsRow_nil w n 23 1)
  have NN : Hid (n ≤ w.heap.size) := by rw [Hid.out HN]; exact Nat.le_refl _
  go_enter Try.func46, Try.ntmps46
  go_wp2
  go_loopw [3, 4] (fun x3 x4 wr => ∃ (k : Nat) (ts : List Nat), k ≤ l.length ∧ x4 = .int .i64 (k : Int) ∧ ts = (l.take k).map P5.at_ ∧ wr.ownsRow n 23 1 x3 ts.length (words ts) ∧ Below n w wr) (fun _ x4 _ => l.length - (intOf x4).toNat)
  case atStart => exact ⟨0, [], by omega, rfl, by simp, Hid.out R0, Hid.out B0⟩
  case round =>
    obtain ⟨k, ts, hk, rfl, hts, hrow, hb⟩ := hrel
    have hbs : n ≤ wr.heap.size := Nat.le_trans (Hid.out NN) hb.size
    have r1 : wr.cell? ⟨m, 1, none⟩ = some (.slice ao l.length cap) := (hb.cell (p := ⟨m, 1, none⟩) (Hid.out HM)).trans (Hid.out H1)
    have htl : ts.length = k := by rw [hts]; simp; omega
    have hlen : ts.length < 1099511627776 := by omega
    have HR := hidden hrow
    have HB := hidden hb
    have HT := hidden hts
    have HL := hidden hlen
    have HBS := hidden hbs
    by_cases hkl : k < l.length
    · obtain ⟨b, off, rfl, hlt, hc⟩ := ((Hid.out H).later (by rw [Hid.out HN]; exact hb)).at hkl
      obtain ⟨s, hs⟩ : ∃ s, s = l.getD k nop5 := ⟨_, rfl⟩
      have hat := hc k hkl
      rw [← hs] at hat
      have c0 := hat.c0
      have la := hat.la
      have HS := hidden hs
      have hkl2 : (k : Int) < (l.length : Int) := by omega
      clear hc hs hat hb hrow hts htl hlen hbs
      go_wp2_with (at_builtin; refine wpList_pushW rfl _ _ rfl n _ ts (s.at_ : Int) wr rfl rfl rfl (Hid.out HR) (Hid.out HL) (Hid.out HBS) ?_; intro v' w1 hown hgr hloc; have HO := hidden hown; have HG := hidden hgr; clear hown hgr hloc)
      go_roundw
      case rel =>
        refine ⟨k + 1, ts ++ [s.at_], by omega, by first | rfl | simp, ?_, ?_, ?_⟩
        · rw [Hid.out HT, Hid.out HS]
          exact take5 hkl
        · have := Hid.out HO
          simpa [words] using this
        · exact (Hid.out HB).grown (Hid.out HG) (Hid.out HBS) fun j hj => ((Hid.out HR).lt j hj).1
      case measure => simp [intOf]; omega
    · have hkl2 : ¬ (k : Int) < (l.length : Int) := by omega
      have hkk : k = l.length := by omega
      have HK := hidden hkk
      clear hb hrow hts htl hlen hbs hkk
      go_wp2
      go_ret
      have e1 : ts = l.map P5.at_ := by rw [Hid.out HT, Hid.out HK, List.take_length]
      have e2 : ts.length = l.length := by rw [e1, List.length_map]
      have HR2 := Hid.out HR
      rw [e2] at HR2
      exact ⟨_, rfl, by rw [← e1]; exact HR2, Hid.out HB⟩
end Go.Proofs.Ytkpcajmphhdmiaa
namespace Go.Proofs.Ytkpcajmphhdmiaa
open Go.ChangeShapes Go.WideShapes Go.ChangeAt Go.RowKit
set_option linter.unusedVariables false
def one5 (p : P5) : List Value := .int .u32 (p.at_ : Int) :: .int .i64 p.perm :: (cellsU p.b ++ [.bool p.watched])
def cells5 (l : List P5) : List Value := l.flatMap one5
structure Fit5 (p : P5) : Prop where
  lb : p.b.length = 256
  la : p.at_ < 4294967296
theorem one5_len {p : P5} (h : Fit5 p) : (one5 p).length = 259 := by simp [one5, cellsU, h.lb]
theorem one5_byte {p : P5} (h : Fit5 p) {i : Nat} (hi : i < 256) : (one5 p)[2 + i]? = some (.int .u8 ((p.b.getD i 0).toNat : Int)) := by
  have h2 : i < p.b.length := by rw [h.lb]; exact hi
  have : one5 p = [.int .u32 (p.at_ : Int), .int .i64 p.perm] ++ (cellsU p.b ++ [.bool p.watched]) := rfl
  rw [this, List.getElem?_append_right (by simp), List.getElem?_append_left (by simp [cellsU]; omega)]
  simp [cellsU, h2]
theorem one5_watch {p : P5} (h : Fit5 p) : (one5 p)[258]? = some (.bool p.watched) := by
  have : one5 p = ([.int .u32 (p.at_ : Int), .int .i64 p.perm] ++ cellsU p.b) ++ [.bool p.watched] := by simp [one5]
  rw [this, List.getElem?_append_right (by simp [cellsU, h.lb])]
  simp [cellsU, h.lb]
theorem cells5_cons (p : P5) (l : List P5) : cells5 (p :: l) = one5 p ++ cells5 l := rfl
theorem cells5_append (l k : List P5) : cells5 (l ++ k) = cells5 l ++ cells5 k := by unfold cells5; rw [List.flatMap_append]
theorem cells5_len : ∀ {l : List P5}, (∀ p ∈ l, Fit5 p) → (cells5 l).length = l.length * 259
  | [], _ => rfl
  | p :: l, h => by
    rw [cells5_cons, List.length_append, one5_len (h p (List.mem_cons_self ..)), cells5_len (fun q hq => h q (List.mem_cons_of_mem _ hq)), List.length_cons]
    omega
theorem cells5_get : ∀ {l : List P5}, (∀ p ∈ l, Fit5 p) → ∀ (j i : Nat), j < l.length → i < 259 → (cells5 l)[j * 259 + i]? = (one5 (l.getD j nop5))[i]?
  | [], _, j, i, h, _ => by simp at h
  | p :: l, hf, 0, i, _, hi => by
    rw [cells5_cons, List.getElem?_append_left (by rw [one5_len (hf p (List.mem_cons_self ..))]; omega)]
    simp
  | p :: l, hf, j + 1, i, h, hi => by
    have hl := one5_len (hf p (List.mem_cons_self ..))
    rw [cells5_cons, List.getElem?_append_right (by rw [hl]; omega), hl, show (j + 1) * 259 + i - 259 = j * 259 + i by omega, cells5_get (fun q hq => hf q (List.mem_cons_of_mem _ hq)) j i (by simpa using h) hi]
    simp
theorem cells5_set : ∀ {l : List P5}, (∀ p ∈ l, Fit5 p) → ∀ (j i : Nat) (q : P5) (v : Value), j < l.length → i < 259 → one5 q = (one5 (l.getD j nop5)).set i v → (cells5 l).set (j * 259 + i) v = cells5 (l.set j q)
  | [], _, j, i, _, _, h, _, _ => by simp at h
  | p :: l, hf, 0, i, q, v, _, hi, he => by
    rw [cells5_cons, List.set_append_left _ _ (by rw [one5_len (hf p (List.mem_cons_self ..))]; omega), List.set_cons_zero, cells5_cons, he]
    simp
  | p :: l, hf, j + 1, i, q, v, h, hi, he => by
    have hl := one5_len (hf p (List.mem_cons_self ..))
    rw [cells5_cons, List.set_append_right _ _ (by rw [hl]; omega), hl, show (j + 1) * 259 + i - 259 = j * 259 + i by omega, List.set_cons_succ, cells5_cons, cells5_set (fun q hq => hf q (List.mem_cons_of_mem _ hq)) j i q v (by simpa using h) hi (by simpa using he)]
/-- A memory of chapter 5's own: where it lies and what it holds. -/
structure S5 where
  m : Nat
  most : Nat
  l : List P5
  vP : Value
  ts : List Nat
  vT : Value
structure M5 (w : World) (s : S5) : Prop where
  self : Blk w s.m #[.int .i64 (s.most : Int), s.vP, s.vT] 88
  pages : w.ownsRow 0 102 259 s.vP s.l.length (cells5 s.l)
  touched : w.ownsRow 0 23 1 s.vT s.ts.length (words s.ts)
  fit : ∀ p ∈ s.l, Fit5 p
  few : s.l.length ≤ 1000
def foot5 (s : S5) (b : Nat) : Prop := b = s.m ∨ s.vP.ownBlock = some b ∨ s.vT.ownBlock = some b
structure Step5 (w : World) (s : S5) (w' : World) (s' : S5) : Prop where
  mem : M5 w' s'
  keep : Keep (foot5 s) w w'
  grow : ∀ b, foot5 s' b → foot5 s b ∨ w.heap.size ≤ b
theorem M5.fitAt {w : World} {s : S5} (h : M5 w s) {k : Nat} (hk : k < s.l.length) : Fit5 (s.l.getD k nop5) := by
  rw [List.getD_eq_getElem?_getD, List.getElem?_eq_getElem hk]
  exact h.fit _ (List.getElem_mem hk)
/-- The row of pages, where there is one. -/
theorem M5.row {w : World} {s : S5} (h : M5 w s) {k : Nat} (hk : k < s.l.length) : ∃ g off cap, off = 0 ∧ s.vP = .slice (some ⟨g, off, none⟩) s.l.length cap ∧ g < w.heap.size ∧ (∀ j, w.frozen? ⟨g, j, none⟩ = false) ∧ (∃ cur, Blk w g cur 102) ∧ ∀ j i v, j < s.l.length → i < 259 → (one5 (s.l.getD j nop5))[i]? = some v → w.cell? ⟨g, off + j * 259 + i, none⟩ = some v := by
  have hp := h.pages
  rcases hp.2 with ⟨_, hz⟩ | ⟨g, cap, cur, e, _, hg, hnc, hcm, _, _⟩
  · omega
  · refine ⟨g, 0, cap, rfl, e, (Array.getElem?_eq_some_iff.1 hg).1, fun j => frozen_of_row _ _ _ _ _ hg, ⟨cur, hg⟩, fun j i v hj hi hv => ?_⟩
    rw [e] at hp
    have := hp.cells (g := g) rfl (j * 259 + i) v (by rw [cells5_get h.fit j i hj hi]; exact hv)
    rw [Addr.add_lit] at this
    rw [Nat.add_assoc]
    exact this
theorem M5.ps {w : World} {s : S5} (h : M5 w s) : ∃ ao cap, s.vP = .slice ao s.l.length cap ∧ Ps5 w ao s.l := by
  by_cases hl : s.l = []
  · rcases h.pages.2 with ⟨e, hz⟩ | ⟨g, cap, cur, e, _⟩
    · exact ⟨none, 0, by rw [e, hz], .inl hl⟩
    · exact ⟨_, cap, e, .inl hl⟩
  · obtain ⟨g, off, cap, h0, e, hlt, _, _, hc⟩ := h.row (k := 0) (List.length_pos_iff.2 hl)
    refine ⟨_, cap, e, .inr ⟨g, off, rfl, hlt, fun j hj => ?_⟩⟩
    have hf := h.fitAt hj
    refine ⟨hc j 0 _ hj (by omega) rfl, hc j 1 _ hj (by omega) rfl, fun i hi => ?_, hc j 258 _ hj (by omega) ?_, hf.la⟩
    · rw [Nat.add_assoc _ 2 i]
      exact hc j (2 + i) _ hj (by omega) (one5_byte hf hi)
    · exact one5_watch hf
theorem M5.cellP {w : World} {s : S5} (h : M5 w s) : w.cell? ⟨s.m, 1, none⟩ = some s.vP := h.self.cell rfl
theorem M5.lt {w : World} {s : S5} (h : M5 w s) : s.m < w.heap.size := h.self.lt
set_option maxRecDepth 20000 in
theorem new5_any (most : Nat) (z : Int) (hz : min (max z 0) 64 = (most : Int)) (w : World) : Calls Try.prog 26 #[.int .i64 z] w fun e w' => e = .returned (.pointer (some ⟨w.heap.size, 0, none⟩)) ∧ Below w.heap.size w w' ∧ M5 w' ⟨w.heap.size, most, [], .slice none 0 0, [], .slice none 0 0⟩ := by
  have HE : Hid (∀ q : Int, q = (most : Int) → Below w.heap.size w (w.alloc (.cells #[.int .i64 q, .slice none 0 0, .slice none 0 0] 88)) ∧ M5 (w.alloc (.cells #[.int .i64 q, .slice none 0 0, .slice none 0 0] 88)) ⟨w.heap.size, most, [], .slice none 0 0, [], .slice none 0 0⟩) := by
    rintro q rfl
    exact ⟨below_new w _, Blk.new w _ _, World.ownsRow_nil _ _ _ _, World.ownsRow_nil _ _ _ _, by simp, by simp⟩
  have HZ := hidden hz
  clear hz
  go_enter Try.func26, Try.ntmps26
  go_wp2
  all_goals go_wp2
  all_goals go_ret
  all_goals exact ⟨rfl, (Hid.out HE _ (by have := Hid.out HZ; omega)).1, (Hid.out HE _ (by have := Hid.out HZ; omega)).2⟩
end Go.Proofs.Ytkpcajmphhdmiaa
namespace Go.Proofs.Ytkpcajmphhdmiaa
open Go.ChangeShapes Go.WideShapes Go.ChangeAt Go.RowKit
set_option linter.unusedVariables false
theorem blk_ne {w : World} {a b : Nat} {x y : Array Value} {T U : TypeId} (h : Blk w a x T) (k : Blk w b y U) (hT : T ≠ U) : a ≠ b := by
  rintro rfl
  have := h.symm.trans k
  simp at this
  exact hT this.2
theorem keep_set (w : World) (a : Addr) (v : Value) : Keep (· = a.block) w (w.setCell a v) :=
  ⟨rfl, rfl, rfl, by simp [World.setCell], fun k _ hk => Below.heap_setCell _ _ _ k hk⟩
theorem M5.blkT {w : World} {s : S5} (h : M5 w s) {g : Nat} (hg : s.vT.ownBlock = some g) : ∃ cur, Blk w g cur 23 := by
  rcases h.touched.2 with ⟨e, _⟩ | ⟨g', cap, cur, e, _, hc, _⟩
  · rw [e] at hg; simp [Value.ownBlock] at hg
  · rw [e] at hg
    simp [Value.ownBlock] at hg
    subst hg
    exact ⟨cur, hc⟩
theorem M5.blkP {w : World} {s : S5} (h : M5 w s) {g : Nat} (hg : s.vP.ownBlock = some g) : ∃ cur, Blk w g cur 102 := by
  rcases h.pages.2 with ⟨e, _⟩ | ⟨g', cap, cur, e, _, hc, _⟩
  · rw [e] at hg; simp [Value.ownBlock] at hg
  · rw [e] at hg
    simp [Value.ownBlock] at hg
    subst hg
    exact ⟨cur, hc⟩
theorem M5.drewN {w : World} {s : S5} (h : M5 w s) (n : Nat) : M5 (w.drewN n) s := ⟨h.self, h.pages, h.touched, h.fit, h.few⟩
theorem Step5.refl {w : World} {s : S5} (h : M5 w s) : Step5 w s w s := ⟨h, Keep.refl _ _, fun _ hb => .inl hb⟩
theorem Step5.trans {u v w : World} {r s t : S5} (h : Step5 u r v s) (k : Step5 v s w t) : Step5 u r w t := by
  refine ⟨k.mem, h.keep.trans k.keep fun b hb hs => ?_, fun b hb => ?_⟩
  · rcases h.grow b hs with h1 | h1
    · exact h1
    · omega
  · rcases k.grow b hb with h1 | h1
    · exact h.grow b h1
    · exact .inr (Nat.le_trans h.keep.size h1)
/-- One cell of one page turned. -/
theorem M5.set {w : World} {s : S5} (h : M5 w s) {k i : Nat} (hk : k < s.l.length) (hi : i < 259) {q : P5} {v : Value} (he : one5 q = (one5 (s.l.getD k nop5)).set i v) (hq : Fit5 q) {g off cap : Nat} (hv : s.vP = .slice (some ⟨g, off, none⟩) s.l.length cap) (h0 : off = 0) :
    Step5 w s (w.setCell ⟨g, off + k * 259 + i, none⟩ v) { s with l := s.l.set k q } := by
  subst h0
  have hgP : s.vP.ownBlock = some g := by rw [hv]; rfl
  obtain ⟨c1, hb1⟩ := h.blkP hgP
  have hgm : s.m ≠ g := blk_ne h.self hb1 (by decide)
  have hgt : ∀ t, s.vT.ownBlock = some t → t ≠ g := fun t ht => by
    obtain ⟨c2, hb2⟩ := h.blkT ht
    exact blk_ne hb2 hb1 (by decide)
  have out : ∀ b, b ≠ g → (w.setCell ⟨g, 0 + k * 259 + i, none⟩ v).heap[b]? = w.heap[b]? := fun b hb => Below.heap_setCell _ _ _ b hb
  refine ⟨⟨(out _ hgm).trans h.self, ?_, ownsRow_same h.touched fun t ht => out t (hgt t ht), ?_, ?_⟩, (keep_set w _ v).mono fun b _ hb => ?_, fun b hb => .inl hb⟩
  · show (w.setCell ⟨g, 0 + k * 259 + i, none⟩ v).ownsRow 0 102 259 s.vP (s.l.set k q).length (cells5 (s.l.set k q))
    rw [List.length_set, ← cells5_set h.fit k i q v hk hi he]
    refine ⟨by rw [List.length_set]; exact h.pages.1, ?_⟩
    rcases h.pages.2 with ⟨e, hz⟩ | ⟨g', cap', cur, e, hb, hg, hnc, hcm, hsz, htk⟩
    · omega
    · rw [hv] at e
      simp at e
      obtain ⟨rfl, rfl⟩ := e
      refine .inr ⟨g, cap, cur.setIfInBounds (0 + k * 259 + i) v, hv, hb, Lib.heap_setCell_same hg v, hnc, hcm, by simpa using hsz, ?_⟩
      rw [← htk, Array.toList_setIfInBounds, List.take_set, Nat.zero_add]
  · intro p hp
    rcases List.mem_or_eq_of_mem_set hp with hp | rfl
    · exact h.fit p hp
    · exact hq
  · show (s.l.set k q).length ≤ 1000
    rw [List.length_set]
    exact h.few
  · exact .inr (.inl (by rw [hgP]; exact congrArg some hb.symm))
end Go.Proofs.Ytkpcajmphhdmiaa

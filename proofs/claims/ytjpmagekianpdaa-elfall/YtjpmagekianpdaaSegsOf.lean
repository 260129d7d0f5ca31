/- The segments of all rows. -/
import Derived.Test.YtjpmagekianpdaaSegOf
import Derived.Maps.AppendAt
import Derived.WalkMore
namespace Go.Proofs.Ytjpmagekianpdaa
open Go.ChangeShapes Go.WideShapes Go.ChangeAt Go.RowKit
set_option linter.unusedVariables false
/-- The segments of so many rows. -/
def segsT (l : List UInt8) : Nat → List UInt8 → List Sg → Option (List Sg)
  | 0, _, acc => some acc
  | n + 1, T, acc => if w32 (T.take 32) 0 ≠ 1 then segsT l n (T.drop 32) acc else if segOkR l (T.take 32) = false then none else if (segR l (T.take 32)).size = 0 then segsT l n (T.drop 32) acc else segsT l n (T.drop 32) (acc ++ [segR l (T.take 32)])
theorem w32_piece (l : List UInt8) (p n k : Nat) (hk : k + 4 ≤ n) (hp : p + n ≤ l.length) : w32 ((l.drop p).take n) k = w32 l (p + k) := by
  have hb : ∀ j, j < n → bt ((l.drop p).take n) j = bt l (p + j) := by
    intro j hj
    unfold bt
    rw [List.getD_eq_getElem?_getD, List.getElem?_take_of_lt hj, List.getElem?_drop, ← List.getD_eq_getElem?_getD]
  unfold w32
  rw [hb k (by omega), hb (k + 1) (by omega), hb (k + 2) (by omega), hb (k + 3) (by omega)]
  simp only [Nat.add_assoc]
theorem seg_piece (l : List UInt8) (p : Nat) (hp : p + 32 ≤ l.length) : segR l ((l.drop p).take 32) = segAt l p ∧ segOkR l ((l.drop p).take 32) = segOk l p := by
  have e : segR l ((l.drop p).take 32) = segAt l p := by
    unfold segR segAt
    rw [w32_piece l p 32 8 (by omega) hp, w32_piece l p 32 4 (by omega) hp, w32_piece l p 32 16 (by omega) hp, w32_piece l p 32 20 (by omega) hp, w32_piece l p 32 24 (by omega) hp]
  refine ⟨e, ?_⟩
  unfold segOkR segOk
  rw [e, w32_piece l p 32 4 (by omega) hp, w32_piece l p 32 16 (by omega) hp]
theorem segsT_E (l : List UInt8) : ∀ (n p : Nat) (acc : List Sg), p + 32 * n ≤ l.length → segsT l n ((l.drop p).take (32 * n)) acc = segsE l n p acc
  | 0, p, acc, _ => rfl
  | n + 1, p, acc, h => by
    have e1 : ((l.drop p).take (32 * (n + 1))).take 32 = (l.drop p).take 32 := by rw [List.take_take]; congr 1; try omega
    have e2 : ((l.drop p).take (32 * (n + 1))).drop 32 = (l.drop (p + 32)).take (32 * n) := by rw [List.drop_take, List.drop_drop]; congr 1; try omega
    obtain ⟨s1, s2⟩ := seg_piece l p (by omega)
    have ih := fun acc => segsT_E l n (p + 32) acc (by omega)
    have w0 := w32_piece l p 32 0 (by omega) (by omega)
    rw [Nat.add_zero] at w0
    rw [segsT, segsE, e1, e2, s1, s2, w0, ih, ih]
def segCells (l : List Sg) : List Value := l.flatMap fun s => [.int .u32 (s.at_ : Int), .string ⟨s.data.toArray⟩, .int .u32 (s.size : Int), .int .i64 s.perm]
theorem segCells_len : ∀ l : List Sg, (segCells l).length = l.length * 4
  | [] => rfl
  | s :: t => by
    have := segCells_len t
    unfold segCells at this ⊢
    rw [List.flatMap_cons, List.length_append, this, List.length_cons]
    simp
    omega
theorem segCells_append (l m : List Sg) : segCells (l ++ m) = segCells l ++ segCells m := by unfold segCells; rw [List.flatMap_append]
theorem segCells_get : ∀ (l : List Sg) (j i : Nat), j < l.length → i < 4 → (segCells l)[j * 4 + i]? = (#[Value.int .u32 ((l.getD j nosg).at_ : Int), .string ⟨(l.getD j nosg).data.toArray⟩, .int .u32 ((l.getD j nosg).size : Int), .int .i64 (l.getD j nosg).perm] : Array Value)[i]?
  | [], j, i, h, _ => by simp at h
  | s :: t, 0, i, _, hi => by
    have : segCells (s :: t) = [.int .u32 (s.at_ : Int), .string ⟨s.data.toArray⟩, .int .u32 (s.size : Int), .int .i64 s.perm] ++ segCells t := rfl
    rw [this, List.getElem?_append_left (by simp; omega)]
    simp
  | s :: t, j + 1, i, h, hi => by
    have ih := segCells_get t j i (by simpa using h) hi
    have : segCells (s :: t) = [.int .u32 (s.at_ : Int), .string ⟨s.data.toArray⟩, .int .u32 (s.size : Int), .int .i64 s.perm] ++ segCells t := rfl
    rw [this, List.getElem?_append_right (by simp; omega)]
    simp only [List.length_cons, List.length_nil]
    rw [show (j + 1) * 4 + i - (0 + 1 + 1 + 1 + 1) = j * 4 + i by omega, ih]
    simp
theorem segCells_one (l : List Sg) : ∀ u ∈ segCells l, u.oneCell' = true := by
  intro u hu
  simp only [segCells, List.mem_flatMap] at hu
  obtain ⟨s, _, hs⟩ := hu
  simp only [List.mem_cons, List.not_mem_nil, or_false] at hs
  rcases hs with rfl | rfl | rfl | rfl <;> rfl
def OutS (w : World) (base : Nat) (v : Value) (l : List Sg) : Prop := w.ownsRow base 43 4 v l.length (segCells l)
theorem info43 : (Try.prog.info? 43).map (fun i => (i.zero, i.size, i.bytes)) = some (some (.agg #[.int .u32 0, .string ⟨#[]⟩, .int .u32 0, .int .i64 0]), 4, 40) := by kernel_rfl
theorem OutS.later {w w' : World} {base : Nat} {v : Value} {l : List Sg} (h : OutS w base v l) (hb : Below w.heap.size w w') : OutS w' base v l := by
  refine ⟨h.1, ?_⟩
  rcases h.2 with h | ⟨g, cap, cur, h1, h2, h3, h4⟩
  · exact .inl h
  · exact .inr ⟨g, cap, cur, h1, h2, (hb.block g (Array.getElem?_eq_some_iff.1 h3).1).trans h3, h4⟩
theorem OutS.segs {w : World} {base : Nat} {v : Value} {l : List Sg} (h : OutS w base v l) (hf : ∀ j, j < l.length → Fit (l.getD j nosg)) : ∃ ao cap, v = .slice ao l.length cap ∧ Segs w ao l ∧ l.length ≤ cap ∧ cap ≤ 9223372036854775807 := by
  have h0 := h
  rcases h.2 with ⟨rfl, hz⟩ | ⟨g, cap, cur, rfl, _, hg, hnc, hcm, _, _⟩
  · rw [hz]
    exact ⟨none, 0, rfl, .inl (List.eq_nil_of_length_eq_zero hz), Nat.le_refl _, by omega⟩
  · refine ⟨_, cap, rfl, ?_, hnc, hcm⟩
    by_cases hl : l = []
    · exact .inl hl
    · refine .inr ⟨g, 0, rfl, (Array.getElem?_eq_some_iff.1 hg).1, fun j hj => ?_⟩
      have hc : ∀ i v, i < 4 → (#[Value.int .u32 ((l.getD j nosg).at_ : Int), .string ⟨(l.getD j nosg).data.toArray⟩, .int .u32 ((l.getD j nosg).size : Int), .int .i64 (l.getD j nosg).perm] : Array Value)[i]? = some v → w.cell? ⟨g, 0 + j * 4 + i, none⟩ = some v := by
        intro i v hi hv
        have := h0.cells (g := g) rfl (j * 4 + i) v (by rw [segCells_get l j i hj hi]; exact hv)
        rw [Addr.add_lit] at this
        rw [Nat.add_assoc]
        exact this
      exact ⟨hc 0 _ (by omega) rfl, hc 1 _ (by omega) rfl, hc 2 _ (by omega) rfl, hc 3 _ (by omega) rfl, hf j hj⟩
theorem run_moreS {w : World} {base : Nat} {v : Value} {l : List Sg} (h : OutS w base v l) (hb : base ≤ w.heap.size) (g : Nat) (s : Sg) (hs : Blk w g #[.int .u32 (s.at_ : Int), .string ⟨s.data.toArray⟩, .int .u32 (s.size : Int), .int .i64 s.perm] 43) (hlen : l.length ≤ 1000) :
    ∃ v' w', (Builtin.append_ #[24, 24] 24 #[v, .slice (some ⟨g, 0, none⟩) 1 1]).run Try.prog w = .ok v' w' ∧ OutS w' base v' (l ++ [s]) ∧ Below base w w' := by
  obtain ⟨i0, hi, hz0, hz1, hz2⟩ := info_parts info43
  obtain ⟨v', w', hr, h1, h2, _, _⟩ := run_append_own_at (P := Try.prog) w base 24 24 43 i0 _ 4 40 Try.underlying24 hi hz0 hz1 hz2 rfl (by decide) v l.length (segCells l) h ⟨g, 0, none⟩ 1 1 (segCells [s]) (by rw [segCells_len]; rfl) (by
    intro j u hu
    rw [Addr.add_lit, Nat.zero_add]
    exact hs.cell (by simpa [segCells] using hu)) (segCells_one _) (by unfold maxLen; omega) (by omega) hb
  refine ⟨v', w', hr, ?_, (Below.refl base w).grown h2 hb fun k hk => (h.lt k hk).1⟩
  rw [← segCells_append] at h1
  unfold OutS
  rw [List.length_append]
  exact h1
theorem segR_fit (l r : List UInt8) (hl : l.length ≤ 20000) : Fit (segR l r) := ⟨w32_lt _ _, w32_lt _ _, by
  show ((l.drop _).take _).length ≤ _
  rw [List.length_take, List.length_drop]
  omega⟩
theorem fits_snoc {acc : List Sg} {s : Sg} (h : ∀ j, j < acc.length → Fit (acc.getD j nosg)) (hs : Fit s) : ∀ j, j < (acc ++ [s]).length → Fit ((acc ++ [s]).getD j nosg) := by
  intro j hj
  rw [List.length_append] at hj
  simp only [List.length_cons, List.length_nil] at hj
  by_cases h1 : j < acc.length
  · rw [List.getD_eq_getElem?_getD, List.getElem?_append_left h1, ← List.getD_eq_getElem?_getD]
    exact h j h1
  · obtain rfl : j = acc.length := by omega
    rw [List.getD_eq_getElem?_getD, List.getElem?_append_right (Nat.le_refl _)]
    simpa using hs
theorem push_seg {w w2 : World} {v : Value} {acc : List Sg} {s : Sg} {k : Nat} (hb : Below w.heap.size w w2) (ho : OutS w2 w.heap.size v acc) (hk : acc.length ≤ k) (hk2 : k ≤ 8) : ∃ v' w', (Builtin.append_ #[24, 24] 24 #[v, .slice (some ⟨w2.heap.size + 1, 0, none⟩) 1 1]).run Try.prog ((w2.alloc (.cells #[.int .u32 (s.at_ : Int), .string ⟨s.data.toArray⟩, .int .u32 (s.size : Int), .int .i64 s.perm] 43)).alloc (.cells #[.int .u32 (s.at_ : Int), .string ⟨s.data.toArray⟩, .int .u32 (s.size : Int), .int .i64 s.perm] 43)) = .ok v' w' ∧ OutS w' w.heap.size v' (acc ++ [s]) ∧ Below w.heap.size w w' := by
  have h1 := below_new w2 (.cells #[.int .u32 (s.at_ : Int), .string ⟨s.data.toArray⟩, .int .u32 (s.size : Int), .int .i64 s.perm] 43)
  have h2 := bthen h1 (below_new (w2.alloc (.cells #[.int .u32 (s.at_ : Int), .string ⟨s.data.toArray⟩, .int .u32 (s.size : Int), .int .i64 s.perm] 43)) (.cells #[.int .u32 (s.at_ : Int), .string ⟨s.data.toArray⟩, .int .u32 (s.size : Int), .int .i64 s.perm] 43))
  have h3 := bthen hb h2
  have hS := Blk.new (w2.alloc (.cells #[.int .u32 (s.at_ : Int), .string ⟨s.data.toArray⟩, .int .u32 (s.size : Int), .int .i64 s.perm] 43)) #[.int .u32 (s.at_ : Int), .string ⟨s.data.toArray⟩, .int .u32 (s.size : Int), .int .i64 s.perm] 43
  rw [World.size_alloc] at hS
  obtain ⟨v', w', hr, ho', hb'⟩ := run_moreS (ho.later h2) h3.size (w2.heap.size + 1) s hS (by omega)
  exact ⟨v', w', hr, ho', h3.trans hb'⟩
/-- On the way through the rows. -/
def Inv22 (w wr : World) (l T : List UInt8) (n : Nat) (x1 x6 : Value) : Prop := ∃ (k N : Nat) (T' : List UInt8) (acc : List Sg) (ta' : Option Addr), k ≤ n ∧ x1 = .slice ta' N N ∧ T'.length = N ∧ N = 32 * (n - k) ∧ Row w ta' T' N ∧ OutS wr w.heap.size x6 acc ∧ acc.length ≤ k ∧ (∀ j, j < acc.length → Fit (acc.getD j nosg)) ∧ segsT l n T [] = segsT l (n - k) T' acc ∧ Below w.heap.size w wr
theorem inv22 {w wr : World} {l T : List UInt8} {n : Nat} {x6 : Value} (k N : Nat) (T' : List UInt8) (acc : List Sg) (ta' : Option Addr) (h1 : k ≤ n) (h2 : T'.length = N) (h3 : N = 32 * (n - k)) (h4 : Row w ta' T' N) (h5 : OutS wr w.heap.size x6 acc) (h6 : acc.length ≤ k) (h7 : ∀ j, j < acc.length → Fit (acc.getD j nosg)) (h8 : segsT l n T [] = segsT l (n - k) T' acc) (h9 : Below w.heap.size w wr) : Inv22 w wr l T n (.slice ta' N N) x6 := ⟨k, N, T', acc, ta', h1, rfl, h2, h3, h4, h5, h6, h7, h8, h9⟩
def lenV : Value → Nat
  | .slice _ m _ => m
  | _ => 0
set_option maxRecDepth 20000 in
set_option maxHeartbeats 4000000 in
theorem segmentsOf_any (w : World) (ao ta : Option Addr) (l T : List UInt8) (cap n tn : Nat) (h : Row w ao l cap) (hl : l.length ≤ 20000) (ht : Row w ta T tn) (htn : T.length = tn) (hT : tn = 32 * n) (hn : n ≤ 8) : Calls Try.prog 22 #[.slice ao l.length cap, .slice ta tn tn] w fun e w' => ∃ v ok, e = .returned (.tuple #[v, .bool ok]) ∧ Below w.heap.size w w' ∧ ((segsT l n T [] = none ∧ ok = false ∧ v = .slice none 0 0) ∨ (∃ acc ao' cap', segsT l n T [] = some acc ∧ ok = true ∧ v = .slice ao' acc.length cap' ∧ Segs w' ao' acc ∧ acc.length ≤ cap' ∧ cap' ≤ 9223372036854775807)) := by
  have H := hidden h
  have HT := hidden ht
  have HTN := hidden htn
  have HTT := hidden hT
  have htn8 : tn ≤ 256 := by omega
  clear h ht htn hT
  go_enter Try.func22, Try.ntmps22
  go_wp2
  go_step3
  go_wp2
  go_step3
  go_wp2
  go_loopw [1, 6] (fun x1 x6 wr => Inv22 w wr l T n x1 x6) (fun x1 x6 _ => lenV x1)
  case atStart => exact ⟨0, tn, T, [], ta, by omega, rfl, Hid.out HTN, Hid.out HTT, Hid.out HT, World.ownsRow_nil _ _ 43 4, by simp, by simp, rfl, Below.refl _ _⟩
  case round =>
    obtain ⟨k, N, T', acc, ta', hk, rfl, hTl, hN, hrow, hacc, hal, hfits, hst, hbel⟩ := hrel
    have HBEL := hidden hbel
    have HACC := hidden hacc
    have HAL := hidden hal
    have HFITS := hidden hfits
    have HN2 := hidden hN
    by_cases hz : N = 0
    · have hz2 : ¬ (0 : Int) < (N : Int) := by omega
      have hnk : n - k = 0 := by omega
      rw [hnk] at hst
      have HST : Hid (segsT l n T [] = some acc) := hst
      clear hbel hacc hal hfits hst hrow hTl hN hnk hz
      go_wp2
      (try rw [Exit.noGoto_ret])
      go_ret2
      obtain ⟨ap, cp, e1, e2, e3, e4⟩ := (Hid.out HACC).segs (Hid.out HFITS)
      exact ⟨_, _, rfl, Hid.out HBEL, .inr ⟨acc, ap, cp, Hid.out HST, rfl, e1, e2, e3, e4⟩⟩
    · have hN32 : 32 ≤ N := by omega
      have hz2 : (0 : Int) < (N : Int) := by omega
      have hz3 : (32 : Int) ≤ (N : Int) := by omega
      have hN256 : N ≤ 256 := by omega
      have hk8 : k ≤ 8 := by omega
      have HPC : Hid (∀ w2, Below w.heap.size w w2 → OutS w2 w.heap.size u6 acc → ∀ o, Below w.heap.size w (w2.alloc o) ∧ OutS (w2.alloc o) w.heap.size u6 acc) := fun w2 h1 h2 o => ⟨bthen h1 (below_new w2 o), h2.later (below_new w2 o)⟩
      have HK1 : Hid (k + 1 ≤ n) := by show k + 1 ≤ n; omega
      obtain ⟨b, off, rfl, hlt, hc⟩ := rowCells hrow (by omega)
      have hr32 : (T'.take 32).length = 32 := by rw [List.length_take]; omega
      have hr := rowPiece hrow 0 32 (by omega) 32 (Nat.le_refl _) (by unfold maxLen; omega)
      rw [List.drop_zero, Nat.add_zero] at hr
      have H23 : Hid (Calls Try.prog 23 #[.slice (some ⟨b, off, none⟩) 32 32, .int .i64 0] wr fun e w' => e = .returned (.int .u32 (w32 (T'.take 32) 0 : Int)) ∧ Below wr.heap.size wr w') := by
        have := bword_any wr _ (T'.take 32) 32 0 (hr.later hbel) (by omega) (by omega)
        rw [hr32] at this
        exact this
      have H40 : Hid (∀ w1, Below w.heap.size w w1 → Calls Try.prog 40 #[.slice ao l.length cap, .slice (some ⟨b, off, none⟩) 32 32] w1 fun e w' => ∃ s : Sg, e = .returned (.tuple #[.agg #[.int .u32 (s.at_ : Int), .string ⟨s.data.toArray⟩, .int .u32 (s.size : Int), .int .i64 s.perm], .bool (segOkR l (T'.take 32))]) ∧ (segOkR l (T'.take 32) = true → s = segR l (T'.take 32)) ∧ Below w1.heap.size w1 w') := by
        intro w1 hb1
        have := segmentOf_any w1 ao (some ⟨b, off, none⟩) l (T'.take 32) cap 32 ((Hid.out H).later hb1) hl (hr.later hb1) hr32
        rw [hr32] at this
        exact this
      have HST : Hid (segsT l n T [] = if w32 (T'.take 32) 0 ≠ 1 then segsT l (n - (k + 1)) (T'.drop 32) acc else if segOkR l (T'.take 32) = false then none else if (segR l (T'.take 32)).size = 0 then segsT l (n - (k + 1)) (T'.drop 32) acc else segsT l (n - (k + 1)) (T'.drop 32) (acc ++ [segR l (T'.take 32)])) := by
        rw [show n - k = (n - (k + 1)) + 1 by omega] at hst
        exact hst
      have HNL : Hid ((T'.drop 32).length = N - 32) := by show _ = _; rw [List.length_drop, hTl]
      have HN2' : Hid (N - 32 = 32 * (n - (k + 1))) := by show _ = _; omega
      by_cases hlast : N = 32
      · subst hlast
        have HROW : Hid (Row w (some ⟨b, off, none⟩) (T'.drop 32) (32 - 32)) := by
          have : T'.drop 32 = [] := List.eq_nil_of_length_eq_zero (Hid.out HNL)
          rw [this]
          exact ⟨by simp, by simp [maxLen], by simp, .inl rfl⟩
        clear hbel hacc hal hfits hst hrow hTl hN hr hr32 hc
        by_cases p1 : w32 (T'.take 32) 0 = 1
        case neg =>
          have q1 : ¬ ((w32 (T'.take 32) 0 : Nat) : Int) = 1 := by omega
          have HSEG : Hid (segsT l n T [] = segsT l (n - (k + 1)) (T'.drop 32) acc) := (Hid.out HST).trans (if_pos p1)
          generalize w32 (T'.take 32) 0 = x at H23 q1
          clear p1
          go_wp2_with (go_at_call 23; with_reducible refine (Hid.out H23).mono ?_; rintro e w1 ⟨rfl, hb1⟩; have HB1 := hidden (bthen (Hid.out HBEL) hb1); have HO1 := hidden (OutS.later (Hid.out HACC) hb1); clear hb1)
          go_roundw
          case rel => first | exact inv22 (k + 1) (32 - 32) (T'.drop 32) acc (some ⟨b, off, none⟩) (Hid.out HK1) (Hid.out HNL) (Hid.out HN2') (Hid.out HROW) (Hid.out HO1) (Nat.le_succ_of_le (Hid.out HAL)) (Hid.out HFITS) (Hid.out HSEG) (Hid.out HB1) | ((repeat (refine ⟨_, ?_⟩)); exact ⟨inv22 (k + 1) (32 - 32) (T'.drop 32) acc (some ⟨b, off, none⟩) (Hid.out HK1) (Hid.out HNL) (Hid.out HN2') (Hid.out HROW) (Hid.out HO1) (Nat.le_succ_of_le (Hid.out HAL)) (Hid.out HFITS) (Hid.out HSEG) (Hid.out HB1), rfl⟩)
          case measure => have := Hid.out HN2; first | (show N - 32 < N; omega) | (show 32 - 32 < 32; omega) | (simp [lenV]; omega) | simp [lenV]
        have q1 : ((w32 (T'.take 32) 0 : Nat) : Int) = 1 := by omega
        have HST1 : Hid (segsT l n T [] = if segOkR l (T'.take 32) = false then none else if (segR l (T'.take 32)).size = 0 then segsT l (n - (k + 1)) (T'.drop 32) acc else segsT l (n - (k + 1)) (T'.drop 32) (acc ++ [segR l (T'.take 32)])) := (Hid.out HST).trans (if_neg (by rw [p1]; simp))
        generalize w32 (T'.take 32) 0 = x at H23 q1
        clear p1
        cases hok : segOkR l (T'.take 32)
        · rw [hok] at H40
          have HSEG : Hid (segsT l n T [] = none) := (Hid.out HST1).trans (if_pos hok)
          clear hok
          go_wp2_with (first | (go_at_call 23; with_reducible refine (Hid.out H23).mono ?_; rintro e w1 ⟨rfl, hb1⟩; have HB1 := hidden (bthen (Hid.out HBEL) hb1); have HO1 := hidden (OutS.later (Hid.out HACC) hb1); clear hb1) | (go_at_call 40; with_reducible refine (Hid.out H40 w1 (Hid.out HB1)).mono ?_; rintro e w2 ⟨s, rfl, hs, hb2⟩; have HB2 := hidden (bthen (Hid.out HB1) hb2); have HO2 := hidden (OutS.later (Hid.out HO1) hb2); clear hb2 hs))
          (try rw [Exit.noGoto_ret])
          go_ret2
          exact ⟨_, _, rfl, bthen (Hid.out HB2) (below_new w2 _), .inl ⟨Hid.out HSEG, rfl, rfl⟩⟩
        · rw [hok] at H40
          have HST2 : Hid (segsT l n T [] = if (segR l (T'.take 32)).size = 0 then segsT l (n - (k + 1)) (T'.drop 32) acc else segsT l (n - (k + 1)) (T'.drop 32) (acc ++ [segR l (T'.take 32)])) := (Hid.out HST1).trans (if_neg (by rw [hok]; simp))
          have HFIT : Hid (Fit (segR l (T'.take 32))) := segR_fit l (T'.take 32) hl
          clear hok
          have H40b : Hid (∀ w1, Below w.heap.size w w1 → Calls Try.prog 40 #[.slice ao l.length cap, .slice (some ⟨b, off, none⟩) 32 32] w1 fun e w' => e = .returned (.tuple #[.agg #[.int .u32 ((segR l (T'.take 32)).at_ : Int), .string ⟨(segR l (T'.take 32)).data.toArray⟩, .int .u32 ((segR l (T'.take 32)).size : Int), .int .i64 (segR l (T'.take 32)).perm], .bool true]) ∧ Below w1.heap.size w1 w') := fun w1 hb => (Hid.out H40 w1 hb).mono fun e w' ⟨s, h1, h2, h3⟩ => by obtain rfl := h2 rfl; exact ⟨h1, h3⟩
          clear H40
          generalize segR l (T'.take 32) = sr at H40b HST2 HFIT
          by_cases p3 : sr.size = 0
          · have q3 : (sr.size : Int) = 0 := by omega
            have HSEG : Hid (segsT l n T [] = segsT l (n - (k + 1)) (T'.drop 32) acc) := (Hid.out HST2).trans (if_pos p3)
            clear p3
            go_wp2_with (first | (go_at_call 23; with_reducible refine (Hid.out H23).mono ?_; rintro e w1 ⟨rfl, hb1⟩; have HB1 := hidden (bthen (Hid.out HBEL) hb1); have HO1 := hidden (OutS.later (Hid.out HACC) hb1); clear hb1) | (go_at_call 40; with_reducible refine (Hid.out H40b w1 (Hid.out HB1)).mono ?_; rintro e w2 ⟨rfl, hb2⟩; have HB2 := hidden (bthen (Hid.out HB1) hb2); have HO2 := hidden (OutS.later (Hid.out HO1) hb2); have HX := hidden (Hid.out HPC w2 (Hid.out HB2) (Hid.out HO2)); clear hb2))
            go_roundw
            case rel => first | exact inv22 (k + 1) (32 - 32) (T'.drop 32) acc (some ⟨b, off, none⟩) (Hid.out HK1) (Hid.out HNL) (Hid.out HN2') (Hid.out HROW) (Hid.out HX _).2 (Nat.le_succ_of_le (Hid.out HAL)) (Hid.out HFITS) (Hid.out HSEG) (Hid.out HX _).1 | ((repeat (refine ⟨_, ?_⟩)); exact ⟨inv22 (k + 1) (32 - 32) (T'.drop 32) acc (some ⟨b, off, none⟩) (Hid.out HK1) (Hid.out HNL) (Hid.out HN2') (Hid.out HROW) (Hid.out HX _).2 (Nat.le_succ_of_le (Hid.out HAL)) (Hid.out HFITS) (Hid.out HSEG) (Hid.out HX _).1, rfl⟩)
            case measure => have := Hid.out HN2; first | (show N - 32 < N; omega) | (show 32 - 32 < 32; omega) | (simp [lenV]; omega) | simp [lenV]
          · have q3 : ¬ (sr.size : Int) = 0 := by omega
            have HSEG : Hid (segsT l n T [] = segsT l (n - (k + 1)) (T'.drop 32) (acc ++ [sr])) := (Hid.out HST2).trans (if_neg p3)
            clear p3
            go_wp2_with (first | (go_at_call 23; with_reducible refine (Hid.out H23).mono ?_; rintro e w1 ⟨rfl, hb1⟩; have HB1 := hidden (bthen (Hid.out HBEL) hb1); have HO1 := hidden (OutS.later (Hid.out HACC) hb1); clear hb1) | (go_at_call 40; with_reducible refine (Hid.out H40b w1 (Hid.out HB1)).mono ?_; rintro e w2 ⟨rfl, hb2⟩; have HB2 := hidden (bthen (Hid.out HB1) hb2); have HO2 := hidden (OutS.later (Hid.out HO1) hb2); obtain ⟨v', w', hr, ho', hb'⟩ := push_seg (s := sr) (Hid.out HB2) (Hid.out HO2) (Hid.out HAL) hk8; have HAP := hidden hr; have HOX := hidden ho'; have HBX := hidden hb'; clear hb2 hr ho' hb') | (at_builtin; refine wpList_append_run rfl _ _ 24 24 rfl rfl rfl (Hid.out HAP) ?_))
            go_roundw
            case rel => first | exact inv22 (k + 1) (32 - 32) (T'.drop 32) (acc ++ [sr]) (some ⟨b, off, none⟩) (Hid.out HK1) (Hid.out HNL) (Hid.out HN2') (Hid.out HROW) (Hid.out HOX) (by rw [List.length_append]; exact Nat.succ_le_succ (Hid.out HAL)) (fits_snoc (Hid.out HFITS) (Hid.out HFIT)) (Hid.out HSEG) (Hid.out HBX) | ((repeat (refine ⟨_, ?_⟩)); exact ⟨inv22 (k + 1) (32 - 32) (T'.drop 32) (acc ++ [sr]) (some ⟨b, off, none⟩) (Hid.out HK1) (Hid.out HNL) (Hid.out HN2') (Hid.out HROW) (Hid.out HOX) (by rw [List.length_append]; exact Nat.succ_le_succ (Hid.out HAL)) (fits_snoc (Hid.out HFITS) (Hid.out HFIT)) (Hid.out HSEG) (Hid.out HBX), rfl⟩)
            case measure => have := Hid.out HN2; first | (show N - 32 < N; omega) | (show 32 - 32 < 32; omega) | (simp [lenV]; omega) | simp [lenV]
      · have hlast2 : ¬ N - 32 = 0 := by omega
        have HROW : Hid (Row w (some ⟨b, off + 32, none⟩) (T'.drop 32) (N - 32)) := by
          have := rowPiece hrow 32 (N - 32) (by omega) (N - 32) (Nat.le_refl _) (by unfold maxLen; omega)
          rw [List.take_of_length_le (by rw [List.length_drop]; omega)] at this
          exact this
        clear hbel hacc hal hfits hst hrow hTl hN hr hr32 hc
        by_cases p1 : w32 (T'.take 32) 0 = 1
        case neg =>
          have q1 : ¬ ((w32 (T'.take 32) 0 : Nat) : Int) = 1 := by omega
          have HSEG : Hid (segsT l n T [] = segsT l (n - (k + 1)) (T'.drop 32) acc) := (Hid.out HST).trans (if_pos p1)
          generalize w32 (T'.take 32) 0 = x at H23 q1
          clear p1
          go_wp2_with (go_at_call 23; with_reducible refine (Hid.out H23).mono ?_; rintro e w1 ⟨rfl, hb1⟩; have HB1 := hidden (bthen (Hid.out HBEL) hb1); have HO1 := hidden (OutS.later (Hid.out HACC) hb1); clear hb1)
          go_roundw
          case rel => first | exact inv22 (k + 1) (N - 32) (T'.drop 32) acc (some ⟨b, off + 32, none⟩) (Hid.out HK1) (Hid.out HNL) (Hid.out HN2') (Hid.out HROW) (Hid.out HO1) (Nat.le_succ_of_le (Hid.out HAL)) (Hid.out HFITS) (Hid.out HSEG) (Hid.out HB1) | ((repeat (refine ⟨_, ?_⟩)); exact ⟨inv22 (k + 1) (N - 32) (T'.drop 32) acc (some ⟨b, off + 32, none⟩) (Hid.out HK1) (Hid.out HNL) (Hid.out HN2') (Hid.out HROW) (Hid.out HO1) (Nat.le_succ_of_le (Hid.out HAL)) (Hid.out HFITS) (Hid.out HSEG) (Hid.out HB1), rfl⟩)
          case measure => have := Hid.out HN2; first | (show N - 32 < N; omega) | (show 32 - 32 < 32; omega) | (simp [lenV]; omega) | simp [lenV]
        have q1 : ((w32 (T'.take 32) 0 : Nat) : Int) = 1 := by omega
        have HST1 : Hid (segsT l n T [] = if segOkR l (T'.take 32) = false then none else if (segR l (T'.take 32)).size = 0 then segsT l (n - (k + 1)) (T'.drop 32) acc else segsT l (n - (k + 1)) (T'.drop 32) (acc ++ [segR l (T'.take 32)])) := (Hid.out HST).trans (if_neg (by rw [p1]; simp))
        generalize w32 (T'.take 32) 0 = x at H23 q1
        clear p1
        cases hok : segOkR l (T'.take 32)
        · rw [hok] at H40
          have HSEG : Hid (segsT l n T [] = none) := (Hid.out HST1).trans (if_pos hok)
          clear hok
          go_wp2_with (first | (go_at_call 23; with_reducible refine (Hid.out H23).mono ?_; rintro e w1 ⟨rfl, hb1⟩; have HB1 := hidden (bthen (Hid.out HBEL) hb1); have HO1 := hidden (OutS.later (Hid.out HACC) hb1); clear hb1) | (go_at_call 40; with_reducible refine (Hid.out H40 w1 (Hid.out HB1)).mono ?_; rintro e w2 ⟨s, rfl, hs, hb2⟩; have HB2 := hidden (bthen (Hid.out HB1) hb2); have HO2 := hidden (OutS.later (Hid.out HO1) hb2); clear hb2 hs))
          (try rw [Exit.noGoto_ret])
          go_ret2
          exact ⟨_, _, rfl, bthen (Hid.out HB2) (below_new w2 _), .inl ⟨Hid.out HSEG, rfl, rfl⟩⟩
        · rw [hok] at H40
          have HST2 : Hid (segsT l n T [] = if (segR l (T'.take 32)).size = 0 then segsT l (n - (k + 1)) (T'.drop 32) acc else segsT l (n - (k + 1)) (T'.drop 32) (acc ++ [segR l (T'.take 32)])) := (Hid.out HST1).trans (if_neg (by rw [hok]; simp))
          have HFIT : Hid (Fit (segR l (T'.take 32))) := segR_fit l (T'.take 32) hl
          clear hok
          have H40b : Hid (∀ w1, Below w.heap.size w w1 → Calls Try.prog 40 #[.slice ao l.length cap, .slice (some ⟨b, off, none⟩) 32 32] w1 fun e w' => e = .returned (.tuple #[.agg #[.int .u32 ((segR l (T'.take 32)).at_ : Int), .string ⟨(segR l (T'.take 32)).data.toArray⟩, .int .u32 ((segR l (T'.take 32)).size : Int), .int .i64 (segR l (T'.take 32)).perm], .bool true]) ∧ Below w1.heap.size w1 w') := fun w1 hb => (Hid.out H40 w1 hb).mono fun e w' ⟨s, h1, h2, h3⟩ => by obtain rfl := h2 rfl; exact ⟨h1, h3⟩
          clear H40
          generalize segR l (T'.take 32) = sr at H40b HST2 HFIT
          by_cases p3 : sr.size = 0
          · have q3 : (sr.size : Int) = 0 := by omega
            have HSEG : Hid (segsT l n T [] = segsT l (n - (k + 1)) (T'.drop 32) acc) := (Hid.out HST2).trans (if_pos p3)
            clear p3
            go_wp2_with (first | (go_at_call 23; with_reducible refine (Hid.out H23).mono ?_; rintro e w1 ⟨rfl, hb1⟩; have HB1 := hidden (bthen (Hid.out HBEL) hb1); have HO1 := hidden (OutS.later (Hid.out HACC) hb1); clear hb1) | (go_at_call 40; with_reducible refine (Hid.out H40b w1 (Hid.out HB1)).mono ?_; rintro e w2 ⟨rfl, hb2⟩; have HB2 := hidden (bthen (Hid.out HB1) hb2); have HO2 := hidden (OutS.later (Hid.out HO1) hb2); have HX := hidden (Hid.out HPC w2 (Hid.out HB2) (Hid.out HO2)); clear hb2))
            go_roundw
            case rel => first | exact inv22 (k + 1) (N - 32) (T'.drop 32) acc (some ⟨b, off + 32, none⟩) (Hid.out HK1) (Hid.out HNL) (Hid.out HN2') (Hid.out HROW) (Hid.out HX _).2 (Nat.le_succ_of_le (Hid.out HAL)) (Hid.out HFITS) (Hid.out HSEG) (Hid.out HX _).1 | ((repeat (refine ⟨_, ?_⟩)); exact ⟨inv22 (k + 1) (N - 32) (T'.drop 32) acc (some ⟨b, off + 32, none⟩) (Hid.out HK1) (Hid.out HNL) (Hid.out HN2') (Hid.out HROW) (Hid.out HX _).2 (Nat.le_succ_of_le (Hid.out HAL)) (Hid.out HFITS) (Hid.out HSEG) (Hid.out HX _).1, rfl⟩)
            case measure => have := Hid.out HN2; first | (show N - 32 < N; omega) | (show 32 - 32 < 32; omega) | (simp [lenV]; omega) | simp [lenV]
          · have q3 : ¬ (sr.size : Int) = 0 := by omega
            have HSEG : Hid (segsT l n T [] = segsT l (n - (k + 1)) (T'.drop 32) (acc ++ [sr])) := (Hid.out HST2).trans (if_neg p3)
            clear p3
            go_wp2_with (first | (go_at_call 23; with_reducible refine (Hid.out H23).mono ?_; rintro e w1 ⟨rfl, hb1⟩; have HB1 := hidden (bthen (Hid.out HBEL) hb1); have HO1 := hidden (OutS.later (Hid.out HACC) hb1); clear hb1) | (go_at_call 40; with_reducible refine (Hid.out H40b w1 (Hid.out HB1)).mono ?_; rintro e w2 ⟨rfl, hb2⟩; have HB2 := hidden (bthen (Hid.out HB1) hb2); have HO2 := hidden (OutS.later (Hid.out HO1) hb2); obtain ⟨v', w', hr, ho', hb'⟩ := push_seg (s := sr) (Hid.out HB2) (Hid.out HO2) (Hid.out HAL) hk8; have HAP := hidden hr; have HOX := hidden ho'; have HBX := hidden hb'; clear hb2 hr ho' hb') | (at_builtin; refine wpList_append_run rfl _ _ 24 24 rfl rfl rfl (Hid.out HAP) ?_))
            go_roundw
            case rel => first | exact inv22 (k + 1) (N - 32) (T'.drop 32) (acc ++ [sr]) (some ⟨b, off + 32, none⟩) (Hid.out HK1) (Hid.out HNL) (Hid.out HN2') (Hid.out HROW) (Hid.out HOX) (by rw [List.length_append]; exact Nat.succ_le_succ (Hid.out HAL)) (fits_snoc (Hid.out HFITS) (Hid.out HFIT)) (Hid.out HSEG) (Hid.out HBX) | ((repeat (refine ⟨_, ?_⟩)); exact ⟨inv22 (k + 1) (N - 32) (T'.drop 32) (acc ++ [sr]) (some ⟨b, off + 32, none⟩) (Hid.out HK1) (Hid.out HNL) (Hid.out HN2') (Hid.out HROW) (Hid.out HOX) (by rw [List.length_append]; exact Nat.succ_le_succ (Hid.out HAL)) (fits_snoc (Hid.out HFITS) (Hid.out HFIT)) (Hid.out HSEG) (Hid.out HBX), rfl⟩)
            case measure => have := Hid.out HN2; first | (show N - 32 < N; omega) | (show 32 - 32 < 32; omega) | (simp [lenV]; omega) | simp [lenV]
end Go.Proofs.Ytjpmagekianpdaa

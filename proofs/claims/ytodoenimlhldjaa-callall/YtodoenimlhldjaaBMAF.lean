/- How many bits a short length has: some number. -/
import Derived.Test.YtodoenimlhldjaaBMAE
import Derived.Deep.LoopGhost
import Derived.Laws.Strings
import Derived.Test.YtodoenimlhldjaaBMAB
import Derived.Outline
namespace Go.Proofs.Ytodoenimlhldjaa
open Go.ChangeShapes Go.WideShapes Go.ChangeAt Go.RowKit
set_option linter.unusedVariables false
set_option maxRecDepth 20000 in
theorem len64_any (x : Nat) (h : x < 256) (w : World) : Calls Try.prog 95 #[.int .u64 (x : Int)] w fun e w' => ∃ k : Int, e = .returned (.int .i64 k) ∧ w' = w := by
  have h1 : ¬ (4294967296 : Int) ≤ (x : Int) := by omega
  have h2 : ¬ (65536 : Int) ≤ (x : Int) := by omega
  have h3 : ¬ (256 : Int) ≤ (x : Int) := by omega
  go_enter Try.func95, Try.ntmps95
  go_wp2
  go_ret
  exact ⟨_, rfl, rfl⟩
theorem len_any (x : Nat) (h : x < 256) (w : World) : Calls Try.prog 83 #[.int .u64 (x : Int)] w fun e w' => ∃ k : Int, e = .returned (.int .i64 k) ∧ w' = w := by
  have H := hidden (len64_any x h w)
  go_enter Try.func83, Try.ntmps83
  go_wp2_with (go_at_call 95; refine (Hid.out H).mono ?_; rintro e w1 ⟨k, rfl, hww⟩; rw [hww]; clear hww w1)
  go_ret
  exact ⟨k, rfl, rfl⟩
end Go.Proofs.Ytodoenimlhldjaa
namespace Go.Proofs.Ytodoenimlhldjaa
open Go.ChangeShapes Go.WideShapes Go.ChangeAt Go.RowKit
set_option linter.unusedVariables false
theorem insertion_nil (w : World) : Calls Try.prog 85 #[.slice none 0 0, .int .i64 0, .int .i64 0] w fun e w' => e = .returned (.tuple #[]) ∧ w' = w := by
  go_enter Try.func85, Try.ntmps85
  go_wp2
  go_loopg [6, 7] 1 (fun q x6 x7 wr => x6 = .int .i64 1 ∧ wr = w)
  case atStart => exact ⟨rfl, rfl⟩
  case round =>
    obtain ⟨rfl, rfl⟩ := hrel
    go_wp2
    go_end0
    exact ⟨rfl, rfl⟩
set_option maxRecDepth 20000 in
theorem pdq_nil (w : World) (k : Int) : Calls Try.prog 82 #[.slice none 0 0, .int .i64 0, .int .i64 0, .int .i64 k] w fun e w' => e = .returned (.tuple #[]) ∧ w' = w := by
  have H := hidden (insertion_nil w)
  go_enter Try.func82, Try.ntmps82
  go_wp2
  go_loopg [1, 2, 3] 1 (fun q x1 x2 x3 wr => x1 = .int .i64 0 ∧ x2 = .int .i64 0 ∧ wr = w)
  case atStart => exact ⟨rfl, rfl, rfl⟩
  case round =>
    obtain ⟨rfl, rfl, rfl⟩ := hrel
    go_wp2_with (go_at_call 85; refine (Hid.out H).mono ?_; rintro e w1 ⟨rfl, hww⟩; rw [hww]; clear hww w1)
    first | go_end0 | refine bodyPost_ret (results_none rfl _ _ _) rfl ?_
    exact ⟨rfl, rfl⟩
set_option maxRecDepth 20000 in
theorem pdq_small (w : World) (g cap : Nat) (d : List Nat) (tl : List Value) (k : Int) (h : Srow w g d tl) (hlen : d.length ≤ 12) :
    Calls Try.prog 82 #[.slice (some ⟨g, 0, none⟩) d.length cap, .int .i64 0, .int .i64 (d.length : Int), .int .i64 k] w fun e w' => e = .returned (.tuple #[]) ∧ ∃ m, Srow w' g m tl ∧ m.Perm d ∧ SortedOn m 0 d.length ∧ Only g w w' := by
  have H := hidden (insertion_any w g cap 0 d.length d tl h (Nat.zero_le _) (Nat.le_refl _) (by omega))
  rw [show ((0 : Nat) : Int) = 0 from rfl] at H
  have hl : (d.length : Int) ≤ 12 := by omega
  clear h
  go_enter Try.func82, Try.ntmps82
  go_wp2
  go_loopg [1, 2, 3] 1 (fun q x1 x2 x3 wr => x1 = .int .i64 0 ∧ x2 = .int .i64 (d.length : Int) ∧ wr = w)
  case atStart => exact ⟨rfl, rfl, rfl⟩
  case round =>
    obtain ⟨rfl, rfl, rfl⟩ := hrel
    go_wp2_with (go_at_call 85; refine (Hid.out H).mono ?_; rintro e w1 ⟨rfl, m, h1, h2, h3, h4⟩; have H1 := hidden h1; have H2 := hidden h2; have H3 := hidden h3; have H4 := hidden h4; clear h1 h2 h3 h4)
    first | go_end0 | refine bodyPost_ret (results_none rfl _ _ _) rfl ?_
    exact ⟨rfl, m, Hid.out H1, (Hid.out H2).perm, Hid.out H3, Hid.out H4⟩
/-- Rising, each once. -/
def Rising (l : List Nat) : Prop := ∀ p q, p < q → q < l.length → l.getD p 0 < l.getD q 0
theorem rising_of {l : List Nat} (h : SortedOn l 0 l.length) (hn : l.Nodup) : Rising l := by
  intro p q hpq hq
  have h1 := h p q (Nat.zero_le _) hpq hq
  have h2 : l.getD p 0 ≠ l.getD q 0 := by
    rw [List.getD_eq_getElem?_getD, List.getD_eq_getElem?_getD, List.getElem?_eq_getElem hq, List.getElem?_eq_getElem (by omega)]
    exact List.pairwise_iff_getElem.1 hn p q (by omega) hq hpq
  omega
theorem sort_small (w : World) (v : Value) (d : List Nat) (base : Nat) (hrow : w.ownsRow base 23 1 v d.length (words d)) (hlen : d.length ≤ 12) :
    Calls Try.prog 72 #[v] w fun e w' => e = .returned (.tuple #[]) ∧ ∃ m, m.Perm d ∧ SortedOn m 0 m.length ∧ w'.ownsRow base 23 1 v m.length (words m) ∧ w.grownBy w' v.ownBlock := by
  rcases hrow.2 with ⟨rfl, h0⟩ | ⟨g, cap, cur, rfl, hb, hg, hnc, hcm, hcs, htk⟩
  · have hd : d = [] := List.eq_nil_of_length_eq_zero h0
    subst hd
    have HL := hidden (len_any 0 (by omega) w)
    rw [show ((0 : Nat) : Int) = 0 from rfl] at HL
    have HP := fun k => hidden (pdq_nil w k)
    clear hrow h0 hlen
    go_enter Try.func72, Try.ntmps72
    go_wp2_with (first | (go_at_call 83; refine (Hid.out HL).mono ?_; rintro e w1 ⟨k, rfl, hww⟩; rw [hww]; clear hww w1) | (go_at_call 82; refine (Hid.out (HP _)).mono ?_; rintro e w1 ⟨rfl, hww⟩; rw [hww]; clear hww w1))
    go_end0
    exact ⟨rfl, [], List.Perm.refl _, fun p q h1 h2 h3 => by simp at h3, World.ownsRow_nil _ _ _ _, ⟨rfl, rfl, rfl, Nat.le_refl _, fun _ _ _ => rfl⟩⟩
  · have hS : Srow w g d (cur.toList.drop d.length) := by
      unfold Srow
      rw [hg]
      congr 2
      have e : cur.toList = words d ++ cur.toList.drop d.length := by
        rw [← htk, Nat.mul_one, List.take_append_drop]
      apply Array.ext'
      simp
      exact e
    have hcap : d.length ≤ cap := hnc
    have HL := hidden (len_any d.length (by omega) w)
    have HP := fun k => hidden (pdq_small w g cap d (cur.toList.drop d.length) k hS hlen)
    have hcl : (cur.toList.drop d.length).length = cap - d.length := by
      rw [List.length_drop, Array.length_toList, hcs, Nat.mul_one]
    generalize cur.toList.drop d.length = tl at HP hcl
    clear hrow hS hg htk hcs
    go_enter Try.func72, Try.ntmps72
    go_wp2_with (first | (go_at_call 83; refine (Hid.out HL).mono ?_; rintro e w1 ⟨k, rfl, hww⟩; rw [hww]; clear hww w1) | (go_at_call 82; refine (Hid.out (HP _)).mono ?_; rintro e w1 ⟨rfl, m, h1, h2, h3, h4⟩; have H1 := hidden h1; have H2 := hidden h2; have H3 := hidden h3; have H4 := hidden h4; clear h1 h2 h3 h4))
    go_end0
    have hml := (Hid.out H2).length_eq
    refine ⟨rfl, m, Hid.out H2, by rw [hml]; exact Hid.out H3, ⟨by rw [words_len, Nat.mul_one], .inr ⟨g, cap, _, by rw [hml], hb, Hid.out H1, by rw [hml]; exact hcap, hcm, ?_, ?_⟩⟩, ?_⟩
    · simp [words_len, hcl, hml]
      omega
    · simp [words_len]
    · exact only_grown (Hid.out H4)
theorem pages_small (w : World) (s : MS) (h : MemW w s) (hlen : s.ks.length ≤ 12) : Calls Try.prog 24 #[.pointer (some ⟨s.mb, 0, none⟩)] w fun e w' => ∃ ao cap l, e = .returned (.slice ao l.length cap) ∧ l.Perm s.ks ∧ Rising l ∧ Wds w' (.slice ao l.length cap) l ∧ Below w.heap.size w w' := by
  have hc := h.cell0
  have hnd := h.nodup
  have H56 := hidden (keysOf_any s.bm w)
  have hb0 : Below w.heap.size w (w.alloc (.cells #[.map (some s.bm)] 86)) := (Below.refl _ w).alloc (Nat.le_refl _) _
  have H64 := hidden (collect_any w.heap.size s.bm s.hb s.ks (by omega) (w.alloc (.cells #[.map (some s.bm)] 86)) (by simp) (by rw [cell_of_row _ _ _ _ _ _ (heap_alloc_new w _)]; rfl) ((hb0.block s.bm (h.lt (.inr (.inl rfl)))).trans h.map) hnd)
  have HB0 := hidden hb0
  have H55 : Hid (Calls Try.prog 51 #[.func (.func 73) #[] #[.pointer (some ⟨w.heap.size, 0, none⟩)]] (w.alloc (.cells #[.map (some s.bm)] 86)) fun e w' => ∃ ao cap l, e = .returned (.slice ao l.length cap) ∧ l.Perm s.ks ∧ Rising l ∧ Wds w' (.slice ao l.length cap) l ∧ Below w.heap.size w w') := by
    show Calls Try.prog 51 #[.func (.func 73) #[] #[.pointer (some ⟨w.heap.size, 0, none⟩)]] (w.alloc (.cells #[.map (some s.bm)] 86)) fun e w' => ∃ ao cap l, e = .returned (.slice ao l.length cap) ∧ l.Perm s.ks ∧ Rising l ∧ Wds w' (.slice ao l.length cap) l ∧ Below w.heap.size w w'
    have H65 : Hid (∀ u v ss, ss.Perm s.ks → u.ownsRow (w.alloc (.cells #[.map (some s.bm)] 86)).heap.size 23 1 v ss.length (words ss) → Calls Try.prog 72 #[v] u fun e w' => e = .returned (.tuple #[]) ∧ ∃ m, m.Perm ss ∧ SortedOn m 0 m.length ∧ w'.ownsRow (w.alloc (.cells #[.map (some s.bm)] 86)).heap.size 23 1 v m.length (words m) ∧ u.grownBy w' v.ownBlock) := fun u v ss hp hr => sort_small u v ss _ hr (by rw [hp.length_eq]; exact hlen)
    have HND := hidden hnd
    clear h hc H56 hnd hb0
    go_enter Try.func51, Try.ntmps51
    go_wp2_with (first | (go_at_call 71; refine (Hid.out H64).mono ?_; rintro e w2 ⟨v, ss, rfl, hp, hr, hn, hb⟩; obtain ⟨va, vn, vc, rfl⟩ := row_slice hr; have HP := hidden hp; have HR := hidden hr; have HB := hidden hb; clear hp hr hn hb H64) | (go_at_call 72; refine (Hid.out H65 _ _ _ (Hid.out HP) (Hid.out HR)).mono ?_; rintro e w3 ⟨rfl, m, hm1, hm2, hm3, hm4⟩; have HM1 := hidden hm1; have HM2 := hidden hm2; have HM3 := hidden hm3; have HM4 := hidden hm4; clear hm1 hm2 hm3 hm4))
    go_ret
    have hperm := (Hid.out HM1).trans (Hid.out HP)
    obtain ⟨ao, cap, e, hwd⟩ := wds_of_row (Hid.out HM3)
    simp only [Value.slice.injEq] at e
    obtain ⟨rfl, rfl, rfl⟩ := e
    refine ⟨_, _, m, rfl, hperm, rising_of (Hid.out HM2) (hperm.nodup_iff.2 (Hid.out HND)), ⟨_, _, rfl, hwd⟩, ?_⟩
    have hbb := (Hid.out HB0).trans ((Hid.out HB).mono (Hid.out HB0).size)
    exact hbb.grown (Hid.out HM4) hbb.size fun g hg => Nat.le_trans (Hid.out HB0).size (row_base (Hid.out HM3) g hg)
  clear h hnd H64 hb0 HB0
  go_enter Try.func24, Try.ntmps24
  go_wp2_with (first | (go_at_call 52; refine (Hid.out H56).mono ?_; rintro e w1 ⟨rfl, hww⟩; rw [hww]; clear hww w1) | (go_at_call 51; refine (Hid.out H55).mono ?_; rintro e w2 ⟨ao, cap, l, rfl, h1, h2, h3, h4⟩; have H1 := hidden h1; have H2 := hidden h2; have H3 := hidden h3; have H4 := hidden h4; clear h1 h2 h3 h4))
  go_ret
  exact ⟨ao, cap, l, rfl, Hid.out H1, Hid.out H2, Hid.out H3, Hid.out H4⟩
end Go.Proofs.Ytodoenimlhldjaa
namespace Go.Proofs.Ytodoenimlhldjaa
open Go.ChangeShapes Go.WideShapes Go.ChangeAt Go.RowKit
set_option linter.unusedVariables false
theorem bytes_ne {l m : List UInt8} (h : l ≠ m) : ((⟨l.toArray⟩ : ByteArray).toList == (⟨m.toArray⟩ : ByteArray).toList) = false := by
  rw [ByteArray.toList_eq, ByteArray.toList_eq]
  simpa using h
theorem partB_all (l : List UInt8) (h : l.length = 256) : partB l 0 256 = l := by
  unfold partB
  simp [List.take_of_length_le, h]
def goodAt (s t : MS) (k : Nat) : Bool := decide (k ∈ t.ks) && decide (s.pm k = t.pm k ∧ s.data k = t.data k)
def sameM (s t : MS) : Bool := decide (s.ks.length = t.ks.length) && s.ks.all (goodAt s t)
theorem pageOf_key {k : Nat} (h : k % 256 = 0) : pageOf k = k := by unfold pageOf; omega
end Go.Proofs.Ytodoenimlhldjaa
namespace Go.Proofs.Ytodoenimlhldjaa
open Go.ChangeShapes Go.WideShapes Go.ChangeAt Go.RowKit
set_option linter.unusedVariables false
/-- What the store into the copy's counter leaves. -/
structure R2 (c : Nat) (l : List UInt8) (p n : Int) (w w' : World) : Prop where
  only : Only c w w'
  any : (∃ m, Pg 127 w c l p m) → ∃ m, Pg 127 w' c l p m
  fin : Pg 127 w c l p n → Pg 127 w' c l p n
theorem R2.refl {c : Nat} {l : List UInt8} {p n : Int} (w : World) : R2 c l p n w w := ⟨Only.refl _ _, id, id⟩
theorem R2.later (c : Nat) (l : List UInt8) (p n : Int) : Later (R2 c l p n) :=
  ⟨fun w => R2.refl w, fun u v w h k => ⟨h.only.trans k.only, fun x => k.any (h.any x), fun x => k.fin (h.fin x)⟩, fun w => ⟨(Only.refl _ w).drew, fun ⟨m, h⟩ => ⟨m, h.same rfl⟩, fun h => h.same rfl⟩⟩
theorem r2_store {c : Nat} {l : List UInt8} {p n m : Int} {w : World} (h : Pg 127 w c l p m) : R2 c l p n w (w.setCell ⟨c, 257, none⟩ (.int .i64 n)) :=
  ⟨(Only.refl _ _).setCell _ _, fun _ => ⟨n, h.setCount n⟩, fun _ => h.setCount n⟩
/-- What the slots of the region hold, whatever the order. -/
def phiBox (b m : Nat) (l : List UInt8) (p : Int) : Nat → Value → World → Prop
  | 0, x, _ => x = .pointer (some ⟨b, 0, none⟩)
  | 1, x, _ => x = .pointer (some ⟨b, 0, none⟩)
  | 2, x, _ => x = .pointer (some ⟨b, 0, none⟩)
  | 3, x, _ => x = .agg (cellsU l).toArray
  | 4, x, _ => x = .pointer (some ⟨b, 0, none⟩)
  | 5, x, _ => x = .pointer (some ⟨b, 0, none⟩)
  | 6, x, _ => x = .pointer (some ⟨b, 256, none⟩)
  | 7, x, _ => x = .int .i64 p
  | 8, x, _ => x = .agg (pcells l p 0)
  | 9, x, w => ∃ g, x = .pointer (some ⟨g, 0, none⟩) ∧ m ≤ g ∧ Pg 127 w g l p 0
  | 10, x, w => ∃ g, x = .pointer (some ⟨g, 0, none⟩) ∧ m ≤ g ∧ Pg 127 w g l p 0
  | _ + 11, _, _ => True
theorem phiBox_mono (b m : Nat) (l : List UInt8) (p : Int) : ∀ i x w w', phiBox b m l p i x w → Below w.heap.size w w' → phiBox b m l p i x w'
  | 0, _, _, _, h, _ => h
  | 1, _, _, _, h, _ => h
  | 2, _, _, _, h, _ => h
  | 3, _, _, _, h, _ => h
  | 4, _, _, _, h, _ => h
  | 5, _, _, _, h, _ => h
  | 6, _, _, _, h, _ => h
  | 7, _, _, _, h, _ => h
  | 8, _, _, _, h, _ => h
  | 9, x, w, w', h, hb => by obtain ⟨g, e, h1, h2⟩ := h; exact ⟨g, e, h1, h2.later hb⟩
  | 10, x, w, w', h, hb => by obtain ⟨g, e, h1, h2⟩ := h; exact ⟨g, e, h1, h2.later hb⟩
  | _ + 11, _, _, _, _, _ => trivial
/-- What the slots of the region hold, whatever the order. -/
def phiStore (b c : Nat) (l : List UInt8) (p n : Int) : Nat → Value → World → Prop
  | 0, x, _ => x = .pointer (some ⟨c, 0, none⟩)
  | 1, x, _ => x = .pointer (some ⟨c, 0, none⟩)
  | 2, x, _ => x = .pointer (some ⟨c, 257, none⟩)
  | 3, x, _ => x = .pointer (some ⟨b, 0, none⟩)
  | 4, x, _ => x = .pointer (some ⟨b, 0, none⟩)
  | 5, x, _ => x = .pointer (some ⟨b, 257, none⟩)
  | 6, x, _ => x = .int .i64 n
  | 7, x, w => x = .tuple #[] ∧ Pg 127 w c l p n
  | _ + 8, _, _ => True
theorem phiStore_mono (b c : Nat) (l : List UInt8) (p n : Int) : ∀ i x w w', phiStore b c l p n i x w → R2 c l p n w w' → phiStore b c l p n i x w'
  | 0, _, _, _, h, _ => h
  | 1, _, _, _, h, _ => h
  | 2, _, _, _, h, _ => h
  | 3, _, _, _, h, _ => h
  | 4, _, _, _, h, _ => h
  | 5, _, _, _, h, _ => h
  | 6, _, _, _, h, _ => h
  | 7, x, w, w', h, hb => ⟨h.1, hb.fin h.2⟩
  | _ + 8, _, _, _, _, _ => trivial
theorem list11 : ∀ xs : List Value, xs.length = 11 → ∃ x0 x1 x2 x3 x4 x5 x6 x7 x8 x9 x10, xs = [x0, x1, x2, x3, x4, x5, x6, x7, x8, x9, x10]
  | [x0, x1, x2, x3, x4, x5, x6, x7, x8, x9, x10], _ => ⟨_, _, _, _, _, _, _, _, _, _, _, rfl⟩
theorem list8 : ∀ xs : List Value, xs.length = 8 → ∃ x0 x1 x2 x3 x4 x5 x6 x7, xs = [x0, x1, x2, x3, x4, x5, x6, x7]
  | [x0, x1, x2, x3, x4, x5, x6, x7], _ => ⟨_, _, _, _, _, _, _, _, rfl⟩
end Go.Proofs.Ytodoenimlhldjaa

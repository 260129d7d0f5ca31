/- Pages: the pages that are there, rising; of at most twelve. -/
import Derived.Test.YtpknppicamefgaaQMAG
import Derived.Laws.BitsAllLaws
import Derived.Laws.ShiftsVarLaws
import Derived.Laws.MathBits
import Derived.RowKit
import Derived.WalkKit
import Derived.ProofKit
import Derived.OpenShut
import Derived.Deep.QuietTactic
import Derived.BigQuiet
namespace Go.Proofs.Ytpknppicamefgaa
open Go.ChangeShapes Go.WideShapes Go.ChangeAt Go.RowKit
set_option linter.unusedVariables false
theorem insertion_nil (w : World) : Calls Try.prog 89 #[.slice none 0 0, .int .i64 0, .int .i64 0] w fun e w' => e = .returned (.tuple #[]) ∧ w' = w := by
  go_enter Try.func89, Try.ntmps89
  go_wp2
  go_loopg [6, 7] 1 (fun q x6 x7 wr => x6 = .int .i64 1 ∧ wr = w)
  case atStart => exact ⟨rfl, rfl⟩
  case round =>
    obtain ⟨rfl, rfl⟩ := hrel
    go_wp2
    go_end0
    exact ⟨rfl, rfl⟩
set_option maxRecDepth 20000 in
theorem pdq_nil (w : World) (k : Int) : Calls Try.prog 85 #[.slice none 0 0, .int .i64 0, .int .i64 0, .int .i64 k] w fun e w' => e = .returned (.tuple #[]) ∧ w' = w := by
  have H := hidden (insertion_nil w)
  go_enter Try.func85, Try.ntmps85
  go_wp2
  go_loopg [1, 2, 3] 1 (fun q x1 x2 x3 wr => x1 = .int .i64 0 ∧ x2 = .int .i64 0 ∧ wr = w)
  case atStart => exact ⟨rfl, rfl, rfl⟩
  case round =>
    obtain ⟨rfl, rfl, rfl⟩ := hrel
    go_wp2_with (go_at_call 89; refine (Hid.out H).mono ?_; rintro e w1 ⟨rfl, hww⟩; rw [hww]; clear hww w1)
    first | go_end0 | refine bodyPost_ret (results_none rfl _ _ _) rfl ?_
    exact ⟨rfl, rfl⟩
set_option maxRecDepth 20000 in
theorem pdq_small (w : World) (g cap : Nat) (d : List Nat) (tl : List Value) (k : Int) (h : Srow w g d tl) (hlen : d.length ≤ 12) :
    Calls Try.prog 85 #[.slice (some ⟨g, 0, none⟩) d.length cap, .int .i64 0, .int .i64 (d.length : Int), .int .i64 k] w fun e w' => e = .returned (.tuple #[]) ∧ ∃ m, Srow w' g m tl ∧ m.Perm d ∧ SortedOn m 0 d.length ∧ Only g w w' := by
  have H := hidden (insertion_any w g cap 0 d.length d tl h (Nat.zero_le _) (Nat.le_refl _) (by omega))
  rw [show ((0 : Nat) : Int) = 0 from rfl] at H
  have hl : (d.length : Int) ≤ 12 := by omega
  clear h
  go_enter Try.func85, Try.ntmps85
  go_wp2
  go_loopg [1, 2, 3] 1 (fun q x1 x2 x3 wr => x1 = .int .i64 0 ∧ x2 = .int .i64 (d.length : Int) ∧ wr = w)
  case atStart => exact ⟨rfl, rfl, rfl⟩
  case round =>
    obtain ⟨rfl, rfl, rfl⟩ := hrel
    go_wp2_with (go_at_call 89; refine (Hid.out H).mono ?_; rintro e w1 ⟨rfl, m, h1, h2, h3, h4⟩; have H1 := hidden h1; have H2 := hidden h2; have H3 := hidden h3; have H4 := hidden h4; clear h1 h2 h3 h4)
    first | go_end0 | refine bodyPost_ret (results_none rfl _ _ _) rfl ?_
    exact ⟨rfl, m, Hid.out H1, (Hid.out H2).perm, Hid.out H3, Hid.out H4⟩
/-- Rising, each once. -/
def Rising (l : List Nat) : Prop := ∀ p q, p < q → q < l.length → l.getD p 0 < l.getD q 0
theorem rising_of {l : List Nat} (h : SortedOn l 0 l.length) (hn : l.Nodup) : Rising l := by
  intro p q hpq hq
  have h1 := h p q (Nat.zero_le _) hpq hq
  have h2 : l.getD p 0 ≠ l.getD q 0 := by
    rw [List.getD_eq_getElem?_getD, List.getD_eq_getElem?_getD, List.getElem?_eq_getElem hq, List.getElem?_eq_getElem (by omega)]
    exact List.pairwise_iff_getElem.1 hn p q (by omega) hq hpq
  omega
theorem sort_small (w : World) (v : Value) (d : List Nat) (base : Nat) (hrow : w.ownsRow base 22 1 v d.length (words d)) (hlen : d.length ≤ 12) :
    Calls Try.prog 74 #[v] w fun e w' => e = .returned (.tuple #[]) ∧ ∃ m, m.Perm d ∧ SortedOn m 0 m.length ∧ w'.ownsRow base 22 1 v m.length (words m) ∧ w.grownBy w' v.ownBlock := by
  rcases hrow.2 with ⟨rfl, h0⟩ | ⟨g, cap, cur, rfl, hb, hg, hnc, hcm, hcs, htk⟩
  · have hd : d = [] := List.eq_nil_of_length_eq_zero h0
    subst hd
    have HL := hidden (len_any 0 (by omega) w)
    rw [show ((0 : Nat) : Int) = 0 from rfl] at HL
    have HP := fun k => hidden (pdq_nil w k)
    clear hrow h0 hlen
    go_enter Try.func74, Try.ntmps74
    go_wp2_with (first | (go_at_call 86; refine (Hid.out HL).mono ?_; rintro e w1 ⟨k, rfl, hww⟩; rw [hww]; clear hww w1) | (go_at_call 85; refine (Hid.out (HP _)).mono ?_; rintro e w1 ⟨rfl, hww⟩; rw [hww]; clear hww w1))
    go_end0
    exact ⟨rfl, [], List.Perm.refl _, fun p q h1 h2 h3 => by simp at h3, World.ownsRow_nil _ _ _ _, ⟨rfl, rfl, rfl, Nat.le_refl _, fun _ _ _ => rfl⟩⟩
  · have hS : Srow w g d (cur.toList.drop d.length) := by
      unfold Srow
      rw [hg]
      congr 2
      have e : cur.toList = words d ++ cur.toList.drop d.length := by
        rw [← htk, Nat.mul_one, List.take_append_drop]
      apply Array.ext'
      simp
      exact e
    have hcap : d.length ≤ cap := hnc
    have HL := hidden (len_any d.length (by omega) w)
    have HP := fun k => hidden (pdq_small w g cap d (cur.toList.drop d.length) k hS hlen)
    have hcl : (cur.toList.drop d.length).length = cap - d.length := by
      rw [List.length_drop, Array.length_toList, hcs, Nat.mul_one]
    generalize cur.toList.drop d.length = tl at HP hcl
    clear hrow hS hg htk hcs
    go_enter Try.func74, Try.ntmps74
    go_wp2_with (first | (go_at_call 86; refine (Hid.out HL).mono ?_; rintro e w1 ⟨k, rfl, hww⟩; rw [hww]; clear hww w1) | (go_at_call 85; refine (Hid.out (HP _)).mono ?_; rintro e w1 ⟨rfl, m, h1, h2, h3, h4⟩; have H1 := hidden h1; have H2 := hidden h2; have H3 := hidden h3; have H4 := hidden h4; clear h1 h2 h3 h4))
    go_end0
    have hml := (Hid.out H2).length_eq
    refine ⟨rfl, m, Hid.out H2, by rw [hml]; exact Hid.out H3, ⟨by rw [words_len, Nat.mul_one], .inr ⟨g, cap, _, by rw [hml], hb, Hid.out H1, by rw [hml]; exact hcap, hcm, ?_, ?_⟩⟩, ?_⟩
    · simp [words_len, hcl, hml]
      omega
    · simp [words_len]
    · exact only_grown (Hid.out H4)
theorem pages_small (w : World) (s : MS) (h : MemW w s) (hlen : s.ks.length ≤ 12) : Calls Try.prog 24 #[.pointer (some ⟨s.mb, 0, none⟩)] w fun e w' => ∃ ao cap l, e = .returned (.slice ao l.length cap) ∧ l.Perm s.ks ∧ Rising l ∧ Wds w' (.slice ao l.length cap) l ∧ Below w.heap.size w w' := by
  have hc := h.cell0
  have hnd := h.nodup
  have H56 := hidden (keysOf_any s.bm w)
  have hb0 : Below w.heap.size w (w.alloc (.cells #[.map (some s.bm)] 78)) := (Below.refl _ w).alloc (Nat.le_refl _) _
  have H64 := hidden (collect_any w.heap.size s.bm s.hb s.ks (by omega) (w.alloc (.cells #[.map (some s.bm)] 78)) (by simp) (by rw [cell_of_row _ _ _ _ _ _ (heap_alloc_new w _)]; rfl) ((hb0.block s.bm (h.lt (.inr (.inl rfl)))).trans h.map) hnd)
  have HB0 := hidden hb0
  have H55 : Hid (Calls Try.prog 54 #[.func (.func 75) #[] #[.pointer (some ⟨w.heap.size, 0, none⟩)]] (w.alloc (.cells #[.map (some s.bm)] 78)) fun e w' => ∃ ao cap l, e = .returned (.slice ao l.length cap) ∧ l.Perm s.ks ∧ Rising l ∧ Wds w' (.slice ao l.length cap) l ∧ Below w.heap.size w w') := by
    show Calls Try.prog 54 #[.func (.func 75) #[] #[.pointer (some ⟨w.heap.size, 0, none⟩)]] (w.alloc (.cells #[.map (some s.bm)] 78)) fun e w' => ∃ ao cap l, e = .returned (.slice ao l.length cap) ∧ l.Perm s.ks ∧ Rising l ∧ Wds w' (.slice ao l.length cap) l ∧ Below w.heap.size w w'
    have H65 : Hid (∀ u v ss, ss.Perm s.ks → u.ownsRow (w.alloc (.cells #[.map (some s.bm)] 78)).heap.size 22 1 v ss.length (words ss) → Calls Try.prog 74 #[v] u fun e w' => e = .returned (.tuple #[]) ∧ ∃ m, m.Perm ss ∧ SortedOn m 0 m.length ∧ w'.ownsRow (w.alloc (.cells #[.map (some s.bm)] 78)).heap.size 22 1 v m.length (words m) ∧ u.grownBy w' v.ownBlock) := fun u v ss hp hr => sort_small u v ss _ hr (by rw [hp.length_eq]; exact hlen)
    have HND := hidden hnd
    clear h hc H56 hnd hb0
    go_enter Try.func54, Try.ntmps54
    go_wp2_with (first | (go_at_call 73; refine (Hid.out H64).mono ?_; rintro e w2 ⟨v, ss, rfl, hp, hr, hn, hb⟩; obtain ⟨va, vn, vc, rfl⟩ := row_slice hr; have HP := hidden hp; have HR := hidden hr; have HB := hidden hb; clear hp hr hn hb H64) | (go_at_call 74; refine (Hid.out H65 _ _ _ (Hid.out HP) (Hid.out HR)).mono ?_; rintro e w3 ⟨rfl, m, hm1, hm2, hm3, hm4⟩; have HM1 := hidden hm1; have HM2 := hidden hm2; have HM3 := hidden hm3; have HM4 := hidden hm4; clear hm1 hm2 hm3 hm4))
    go_ret
    have hperm := (Hid.out HM1).trans (Hid.out HP)
    obtain ⟨ao, cap, e, hwd⟩ := wds_of_row (Hid.out HM3)
    simp only [Value.slice.injEq] at e
    obtain ⟨rfl, rfl, rfl⟩ := e
    refine ⟨_, _, m, rfl, hperm, rising_of (Hid.out HM2) (hperm.nodup_iff.2 (Hid.out HND)), ⟨_, _, rfl, hwd⟩, ?_⟩
    have hbb := (Hid.out HB0).trans ((Hid.out HB).mono (Hid.out HB0).size)
    exact hbb.grown (Hid.out HM4) hbb.size fun g hg => Nat.le_trans (Hid.out HB0).size (row_base (Hid.out HM3) g hg)
  clear h hnd H64 hb0 HB0
  go_enter Try.func24, Try.ntmps24
  go_wp2_with (first | (go_at_call 55; refine (Hid.out H56).mono ?_; rintro e w1 ⟨rfl, hww⟩; rw [hww]; clear hww w1) | (go_at_call 54; refine (Hid.out H55).mono ?_; rintro e w2 ⟨ao, cap, l, rfl, h1, h2, h3, h4⟩; have H1 := hidden h1; have H2 := hidden h2; have H3 := hidden h3; have H4 := hidden h4; clear h1 h2 h3 h4))
  go_ret
  exact ⟨ao, cap, l, rfl, Hid.out H1, Hid.out H2, Hid.out H3, Hid.out H4⟩
end Go.Proofs.Ytpknppicamefgaa
namespace Go.Proofs.Ytpknppicamefgaa
open Go.RowKit

def sg (v : Int) : Int := if v < 2147483648 then v else v - 4294967296
def top (a : Int) : Bool := decide (2147483648 ≤ a)
def add32 (a b : Int) : Int := (a + b) % 4294967296
def sub32 (a b : Int) : Int := (a - b) % 4294967296
def addOv (a b : Int) : Bool := (top a != top (add32 a b)) && (top b != top (add32 a b))
def subOv (a b : Int) : Bool := (top a != top b) && (top a != top (sub32 a b))
def shl32 (v n : Int) : Int := v * 2 ^ (n % 32).toNat % 4294967296
def shr32 (v n : Int) : Int := v / 2 ^ (n % 32).toNat
def sar32 (v n : Int) : Int := sg v / 2 ^ (n % 32).toNat % 4294967296
def clip (v lo hi : Int) : Int := if v < lo then lo else if hi < v then hi else v
def sext32 (v n : Int) : Int := sg (v * 2 ^ (32 - clip n 1 32).toNat % 4294967296) / 2 ^ (32 - clip n 1 32).toNat % 4294967296
def field32 (v a n : Int) : Int := v / 2 ^ (clip a 0 31).toNat % 2 ^ (clip n 0 (32 - clip a 0 31)).toNat

def sgs (s : Bool) (v : Int) : Int := match s with
  | true => sg v
  | false => v
theorem sgsT (v : Int) : sgs true v = sg v := rfl
theorem sgsF (v : Int) : sgs false v = v := rfl
theorem sg_range {v : Int} (h0 : 0 ≤ v) (h1 : v < 4294967296) : -2147483648 ≤ sg v ∧ sg v < 2147483648 := by
  unfold sg; split <;> omega
theorem wrap32_sg {v : Int} (h0 : 0 ≤ v) (h1 : v < 4294967296) : wrap32 v = sg v := by
  unfold wrap32 sg; split <;> omega
theorem add32_range (a b : Int) : 0 ≤ add32 a b ∧ add32 a b < 4294967296 := by unfold add32; omega
theorem sub32_range (a b : Int) : 0 ≤ sub32 a b ∧ sub32 a b < 4294967296 := by unfold sub32; omega
theorem shl32_range (a b : Int) : 0 ≤ shl32 a b ∧ shl32 a b < 4294967296 := by unfold shl32; omega
theorem sar32_range (a b : Int) : 0 ≤ sar32 a b ∧ sar32 a b < 4294967296 := by unfold sar32; omega
theorem sext32_range (a b : Int) : 0 ≤ sext32 a b ∧ sext32 a b < 4294967296 := by unfold sext32; omega
theorem div_pow_range {v : Int} (k : Nat) (h0 : 0 ≤ v) (h1 : v < 4294967296) : 0 ≤ v / 2 ^ k ∧ v / 2 ^ k < 4294967296 := by
  have hp : (0 : Int) < 2 ^ k := Int.pow_pos (by omega)
  exact ⟨Int.ediv_nonneg h0 (Int.le_of_lt hp), Int.lt_of_le_of_lt (Int.ediv_le_self _ h0) h1⟩
theorem shr32_range {a : Int} (b : Int) (h0 : 0 ≤ a) (h1 : a < 4294967296) : 0 ≤ shr32 a b ∧ shr32 a b < 4294967296 := div_pow_range _ h0 h1
theorem and31 (n : Int) (h0 : 0 ≤ n) (h1 : n < 4294967296) : bits .and .u32 n 31 = n % 32 := by
  rw [u32_and n 31 h0 h1 (by omega) (by omega)]
  obtain ⟨m, rfl⟩ := Int.eq_ofNat_of_zero_le h0
  have := Nat.and_two_pow_sub_one_eq_mod m 5
  simp at this
  simp [this]
/-- The highest bit, by the mask. -/
theorem mask31 (n : Nat) (h : n < 4294967296) : (n &&& 2147483648 = 0) ↔ n < 2147483648 := by
  have e := and_two_pow_eq_zero (n : Int) 31 (by omega)
  have e2 : ((2 : Int) ^ 31).toNat = 2147483648 := by decide
  have e3 : ((2 : Int) ^ 31) = 2147483648 := by decide
  rw [e2, e3, Int.toNat_natCast] at e
  rw [e]
  omega
theorem top_xor (a b : Nat) (ha : a < 4294967296) (hb : b < 4294967296) : decide (2147483648 ≤ a ^^^ b) = (decide (2147483648 ≤ a) != decide (2147483648 ≤ b)) := by
  have tb : ∀ n : Nat, n < 4294967296 → n.testBit 31 = decide (2147483648 ≤ n) := by
    intro n hn
    rw [Nat.testBit_eq_decide_div_mod_eq]
    congr 1
    apply propext
    constructor <;> intro h <;> omega
  have hx : a ^^^ b < 2 ^ 32 := Nat.xor_lt_two_pow (by omega) (by omega)
  rw [← tb _ (by omega), ← tb a ha, ← tb b hb, Nat.testBit_xor]
theorem top_and (a b : Nat) (ha : a < 4294967296) (hb : b < 4294967296) : decide (2147483648 ≤ a &&& b) = (decide (2147483648 ≤ a) && decide (2147483648 ≤ b)) := by
  have tb : ∀ n : Nat, n < 4294967296 → n.testBit 31 = decide (2147483648 ≤ n) := by
    intro n hn
    rw [Nat.testBit_eq_decide_div_mod_eq]
    congr 1
    apply propext
    constructor <;> intro h <;> omega
  have hx : a &&& b < 2 ^ 32 := Nat.and_lt_two_pow _ (by omega)
  rw [← tb _ (by omega), ← tb a ha, ← tb b hb, Nat.testBit_and]
theorem top_nat (n : Nat) : top (n : Int) = decide (2147483648 ≤ n) := by unfold top; congr 1; apply propext; constructor <;> intro h <;> omega
theorem u32_xor_range (a b : Int) (h1 : 0 ≤ a) (h2 : a < 4294967296) (h3 : 0 ≤ b) (h4 : b < 4294967296) : 0 ≤ bits .xor .u32 a b ∧ bits .xor .u32 a b < 4294967296 := by
  rw [u32_xor a b h1 h2 h3 h4]
  have hx : a.toNat ^^^ b.toNat < 2 ^ 32 := Nat.xor_lt_two_pow (by omega) (by omega)
  omega
theorem u32_and_range (a b : Int) (h1 : 0 ≤ a) (h2 : a < 4294967296) (h3 : 0 ≤ b) (h4 : b < 4294967296) : 0 ≤ bits .and .u32 a b ∧ bits .and .u32 a b < 4294967296 := by
  rw [u32_and a b h1 h2 h3 h4]
  have hx : a.toNat &&& b.toNat < 2 ^ 32 := Nat.and_lt_two_pow _ (by omega)
  omega
theorem top_toNat (a : Int) (h1 : 0 ≤ a) : decide (2147483648 ≤ a.toNat) = top a := by
  obtain ⟨m, rfl⟩ := Int.eq_ofNat_of_zero_le h1
  rw [top_nat]; simp
theorem top_bxor (a b : Int) (h1 : 0 ≤ a) (h2 : a < 4294967296) (h3 : 0 ≤ b) (h4 : b < 4294967296) : top (bits .xor .u32 a b) = (top a != top b) := by
  rw [u32_xor a b h1 h2 h3 h4, top_nat, top_xor _ _ (by omega) (by omega), top_toNat a h1, top_toNat b h3]
theorem top_band (a b : Int) (h1 : 0 ≤ a) (h2 : a < 4294967296) (h3 : 0 ≤ b) (h4 : b < 4294967296) : top (bits .and .u32 a b) = (top a && top b) := by
  rw [u32_and a b h1 h2 h3 h4, top_nat, top_and _ _ (by omega) (by omega), top_toNat a h1, top_toNat b h3]
theorem mask_top (a : Int) (h1 : 0 ≤ a) (h2 : a < 4294967296) : (bits .and .u32 a 2147483648 != 0) = top a := by
  rw [u32_and a _ h1 h2 (by omega) (by omega)]
  obtain ⟨m, rfl⟩ := Int.eq_ofNat_of_zero_le h1
  have h := mask31 m (by omega)
  rw [top_nat]
  by_cases hm : m < 2147483648
  · have : ¬ 2147483648 ≤ m := by omega
    have e := h.2 hm
    simp [this, e]
  · have : 2147483648 ≤ m := by omega
    have e : ¬ (m &&& 2147483648 = 0) := fun x => hm (h.1 x)
    simp [this, e]
theorem addOver_eq (a b : Int) (h1 : 0 ≤ a) (h2 : a < 4294967296) (h3 : 0 ≤ b) (h4 : b < 4294967296) :
    (bits .and .u32 (bits .and .u32 (bits .xor .u32 a ((a + b) % 4294967296)) (bits .xor .u32 b ((a + b) % 4294967296))) 2147483648 != 0) = addOv a b := by
  have hs := add32_range a b
  have hx := u32_xor_range a (add32 a b) h1 h2 hs.1 hs.2
  have hy := u32_xor_range b (add32 a b) h3 h4 hs.1 hs.2
  have hz := u32_and_range _ _ hx.1 hx.2 hy.1 hy.2
  show (bits .and .u32 (bits .and .u32 (bits .xor .u32 a (add32 a b)) (bits .xor .u32 b (add32 a b))) 2147483648 != 0) = _
  rw [mask_top _ hz.1 hz.2, top_band _ _ hx.1 hx.2 hy.1 hy.2, top_bxor _ _ h1 h2 hs.1 hs.2, top_bxor _ _ h3 h4 hs.1 hs.2]
  rfl
theorem subOver_eq (a b : Int) (h1 : 0 ≤ a) (h2 : a < 4294967296) (h3 : 0 ≤ b) (h4 : b < 4294967296) :
    (bits .and .u32 (bits .and .u32 (bits .xor .u32 a b) (bits .xor .u32 a ((a - b) % 4294967296))) 2147483648 != 0) = subOv a b := by
  have hs := sub32_range a b
  have hx := u32_xor_range a b h1 h2 h3 h4
  have hy := u32_xor_range a (sub32 a b) h1 h2 hs.1 hs.2
  have hz := u32_and_range _ _ hx.1 hx.2 hy.1 hy.2
  show (bits .and .u32 (bits .and .u32 (bits .xor .u32 a b) (bits .xor .u32 a (sub32 a b))) 2147483648 != 0) = _
  rw [mask_top _ hz.1 hz.2, top_band _ _ hx.1 hx.2 hy.1 hy.2, top_bxor _ _ h1 h2 h3 h4, top_bxor _ _ h1 h2 hs.1 hs.2]
  rfl

def mulHi (a b : Int) : Int := IntKind.u64.wrap (a * b) / 4294967296 % 4294967296
def mulLo (a b : Int) : Int := IntKind.u64.wrap (a * b) % 4294967296
theorem wrap64_sg {v : Int} (h0 : 0 ≤ v) (h1 : v < 4294967296) : wrap64 (sg v) = sg v := by
  have := sg_range h0 h1
  unfold wrap64; omega
theorem prod_range (x y : Int) (hx : -2147483648 ≤ x ∧ x < 2147483648) (hy : -2147483648 ≤ y ∧ y < 2147483648) : -4611686018427387904 ≤ x * y ∧ x * y ≤ 4611686018427387904 := by
  have a1 : x.natAbs ≤ 2147483648 := by omega
  have a2 : y.natAbs ≤ 2147483648 := by omega
  have h := Nat.mul_le_mul a1 a2
  rw [← Int.natAbs_mul] at h
  generalize x * y = p at h
  omega
theorem wrap64_sgmul {a b : Int} (h1 : 0 ≤ a) (h2 : a < 4294967296) (h3 : 0 ≤ b) (h4 : b < 4294967296) : wrap64 (sg a * sg b) = sg a * sg b := by
  have h := prod_range _ _ (sg_range h1 h2) (sg_range h3 h4)
  generalize sg a * sg b = p at h
  unfold wrap64; omega

def quoT (a b : Int) : Int := wrap32 ((sg a).tdiv (sg b)) % 4294967296
def remT (a b : Int) : Int := (sg a).tmod (sg b) % 4294967296
theorem tmod_range (v n : Int) (h : 0 < n) : -n < v.tmod n ∧ v.tmod n < n := by
  refine ⟨Int.lt_tmod_of_pos v h, Int.tmod_lt_of_pos v h⟩
theorem place_nonneg (v n : Int) (h : 0 < n) (hm : 0 ≤ v.tmod n) : v.tmod n = v % n := by
  have e := Int.mul_tdiv_add_tmod v n
  have r := tmod_range v n h
  have : v % n = (v.tmod n) % n := by
    conv => lhs; rw [← e]
    rw [Int.mul_add_emod_self_left]
  rw [this, Int.emod_eq_of_lt hm r.2]
theorem place_neg (v n : Int) (h : 0 < n) (hm : v.tmod n < 0) : v.tmod n + n = v % n := by
  have e := Int.mul_tdiv_add_tmod v n
  have r := tmod_range v n h
  have : v % n = (v.tmod n + n) % n := by
    conv => lhs; rw [← e]
    rw [Int.mul_add_emod_self_left, Int.add_emod_right]
  rw [this, Int.emod_eq_of_lt (by omega) (by omega)]
theorem clip_range (v lo hi : Int) (h : lo ≤ hi) : lo ≤ clip v lo hi ∧ clip v lo hi ≤ hi := by unfold clip; split <;> (try split) <;> omega
theorem pow_cast (k : Nat) : ((2 ^ k : Nat) : Int) = 2 ^ k := by simp
theorem pow_le32 {k : Nat} (h : k ≤ 32) : (1 : Int) ≤ 2 ^ k ∧ (2 : Int) ^ k ≤ 4294967296 := by
  have a := Nat.pow_le_pow_right (n := 2) (by omega) h
  have b := Nat.two_pow_pos k
  rw [← pow_cast]
  simp only [Nat.reducePow] at a
  omega
theorem field_eq (a at_ n : Int) (h1 : 0 ≤ a) (h2 : a < 4294967296) :
    bits .and .u32 (a / 2 ^ (clip at_ 0 31).toNat) ((2 ^ (clip n 0 (32 - clip at_ 0 31)).toNat - 1) % 4294967296) = field32 a at_ n := by
  have hc := clip_range at_ 0 31 (by omega)
  have hd := clip_range n 0 (32 - clip at_ 0 31) (by omega)
  unfold field32
  generalize clip n 0 (32 - clip at_ 0 31) = m at *
  have hx := div_pow_range (clip at_ 0 31).toNat h1 h2
  generalize a / 2 ^ (clip at_ 0 31).toNat = x at *
  obtain ⟨k, rfl⟩ := Int.eq_ofNat_of_zero_le hd.1
  obtain ⟨y, rfl⟩ := Int.eq_ofNat_of_zero_le hx.1
  rw [Int.toNat_natCast]
  have hk : k ≤ 32 := by omega
  have hp := pow_le32 hk
  have e : ((2 : Int) ^ k - 1) % 4294967296 = ((2 ^ k - 1 : Nat) : Int) := by
    rw [Int.emod_eq_of_lt (by omega) (by omega), ← pow_cast]
    have := Nat.two_pow_pos k
    omega
  have hp' : 2 ^ k - 1 < 4294967296 := by
    have := pow_cast k
    omega
  rw [e, u32_and_nat y (2 ^ k - 1) (by omega) hp', Nat.and_two_pow_sub_one_eq_mod, ← pow_cast]
  simp

theorem wrap64_small (n : Int) (h : 0 ≤ n ∧ n ≤ 4294967296) : wrap64 n = n := by unfold wrap64; omega
theorem len_shift (a : Int) (k : Nat) (h0 : 0 ≤ a) (h : a / 2 ^ k ≠ 0) : bitLen a.toNat = k + bitLen (a / 2 ^ k).toNat := by
  obtain ⟨n, rfl⟩ := Int.eq_ofNat_of_zero_le h0
  rw [← pow_cast, ← Int.natCast_ediv] at h ⊢
  rw [Int.toNat_natCast, Int.toNat_natCast]
  exact bitLen_shift n k (by omega)
def zeros32 (a : Int) : Int := 32 - bitLen a.toNat
theorem bitLen_le32 (a : Int) (h1 : 0 ≤ a) (h2 : a < 4294967296) : bitLen a.toNat ≤ 32 := by
  unfold bitLen
  split
  · omega
  · rename_i h0
    have := (Nat.log2_lt h0).2 (show a.toNat < 2 ^ 32 by omega)
    omega
theorem zeros32_range (a : Int) (h1 : 0 ≤ a) (h2 : a < 4294967296) : 0 ≤ zeros32 a ∧ zeros32 a ≤ 32 := by
  have := bitLen_le32 a h1 h2
  unfold zeros32; omega

theorem max_u32 : IntKind.u32.max = 4294967295 := by decide
theorem not32 (a : Int) (h1 : 0 ≤ a) (h2 : a < 4294967296) : bits .xor .u32 IntKind.u32.max a = 4294967295 - a := by
  rw [max_u32, u32_xor _ a (by omega) (by omega) h1 h2]
  obtain ⟨n, rfl⟩ := Int.eq_ofNat_of_zero_le h1
  have e : BitVec.allOnes 32 ^^^ BitVec.ofNat 32 n = ~~~ BitVec.ofNat 32 n := BitVec.allOnes_xor
  have e2 := congrArg BitVec.toNat e
  rw [BitVec.toNat_xor, BitVec.toNat_not, BitVec.toNat_allOnes, BitVec.toNat_ofNat, Nat.mod_eq_of_lt (by omega)] at e2
  simp only [Int.toNat_natCast]
  have e3 : (4294967295 : Int).toNat = 2 ^ 32 - 1 := by decide
  rw [e3, e2]
  omega
end Go.Proofs.Ytpknppicamefgaa
namespace Go.Proofs.Ytpknppicamefgaa
open Go.ChangeShapes Go.WideShapes Go.ChangeAt Go.RowKit
set_option linter.unusedVariables false
theorem ret_int2 {k l : IntKind} {a b c d : Int} (h : a = b) (h2 : c = d) : Ending.returned (.tuple #[.int k a, .int l c]) = .returned (.tuple #[.int k b, .int l d]) := by rw [h, h2]
theorem ret_intb {k : IntKind} {a b : Int} {c d : Bool} (h : a = b) (h2 : c = d) : Ending.returned (.tuple #[.int k a, .bool c]) = .returned (.tuple #[.int k b, .bool d]) := by rw [h, h2]

end Go.Proofs.Ytpknppicamefgaa

/- What any instruction writes. -/
import Derived.Test.YtkpcajmphhdmiaaUMAU
import Derived.Test.YtkpcajmphhdmiaaUMAL
import Derived.Test.YtkpcajmphhdmiaaUMAM
import Derived.Test.YtkpcajmphhdmiaaUMAT
namespace Go.Proofs.Ytkpcajmphhdmiaa
open Go.ChangeShapes Go.WideShapes Go.ChangeAt Go.RowKit
set_option linter.unusedVariables false
set_option maxRecDepth 20000 in
theorem store_other (w : World) (s : MS) (h : MemW w s) (op S T D A imm : Int) (h1 : (op == 55) = false) (h2 : (op == 56) = false) (h3 : (op == 58) = false) (h4 : (op == 57) = false) (h5 : (op == 59) = false) (a v : Nat) (hv : v < 4294967296) : Calls Try.prog 17 #[.pointer (some ⟨s.mb, 0, none⟩), .agg (insC op S T D A imm), .int .u32 (a : Int), .int .u32 (v : Int)] w fun e w' => e = .returned (.tuple #[]) ∧ Step w s w' s := by
  have H0 := hidden h
  have hI := Blk.new w (insC op S T D A imm) 31
  have HI := hidden hI
  have HB := hidden (below_new w (.cells (insC op S T D A imm) 31))
  have HC := hidden (acut_any v hv (w.alloc (.cells (insC op S T D A imm) 31)))
  obtain ⟨b0, b1, b2, b3, hbl⟩ : ∃ b0 b1 b2 b3, bytesL v = [b0, b1, b2, b3] := ⟨_, _, _, _, rfl⟩
  rw [hbl] at HC
  change Hid (Calls Try.prog 43 _ _ fun e w' => e = .returned (.agg #[.int .u8 (b0.toNat : Int), .int .u8 (b1.toNat : Int), .int .u8 (b2.toNat : Int), .int .u8 (b3.toNat : Int)]) ∧ _) at HC
  clear h hI hbl
  go_enter Try.func17, Try.ntmps17
  go_wp2_with (go_at_call 43; refine HC.out.mono ?_; rintro e w1 ⟨rfl, hb1⟩; have c1 : ∀ o : Obj, (w1.alloc o).cell? ⟨w.heap.size, 0, none⟩ = some (.int .i64 op) := (fun o => ((HI.out.later hb1).later (below_new w1 o)).cell rfl); have HB1 := hidden (HB.out.trans (hb1.mono HB.out.size)); clear hb1)
  first | go_end0 | refine bodyPost_ret (results_none rfl _ _ _) rfl ?_
  have hb2 := below_new w1 (.cells #[.int .u8 (b0.toNat : Int), .int .u8 (b1.toNat : Int), .int .u8 (b2.toNat : Int), .int .u8 (b3.toNat : Int)] 73)
  exact ⟨rfl, Step.later H0.out (HB1.out.trans (hb2.mono HB1.out.size))⟩
theorem accStore_any (w : World) (s : MS) (h : MemW w s) (op S T D A imm : Int) (a v : Nat) (ha : a < 4294967296) (hv : v < 4294967296) (hc : s.c + 4 ≤ 1099511627776) : Calls Try.prog 17 #[.pointer (some ⟨s.mb, 0, none⟩), .agg (insC op S T D A imm), .int .u32 (a : Int), .int .u32 (v : Int)] w fun e w' => e = .returned (.tuple #[]) ∧ ∃ s', PokesTo s (storeL op a v) s' ∧ Step w s w' s' := by
  by_cases h55 : op = 55
  · subst h55; exact store_55 w s h S T D A imm a v ha hv hc
  by_cases h56 : op = 56
  · subst h56; exact store_56 w s h S T D A imm a v ha hv hc
  by_cases h58 : op = 58
  · subst h58; exact store_58 w s h S T D A imm a v ha hv hc
  have hq : a = 4 * (a / 4) + a % 4 := by omega
  have hq4 : a - a % 4 = 4 * (a / 4) := by omega
  by_cases h57 : op = 57
  · subst h57
    rw [show storeL 57 a v = placesL a ((bytesL v).take (4 - a % 4)) from rfl]
    generalize a / 4 = q at hq hq4 ⊢
    rcases (show a % 4 = 0 ∨ a % 4 = 1 ∨ a % 4 = 2 ∨ a % 4 = 3 by omega) with e | e | e | e
    · rw [e] at hq ⊢; subst hq; exact store_swl0 w s h S T D A imm q v ha hv hc
    · rw [e] at hq ⊢; subst hq; exact store_swl1 w s h S T D A imm q v ha hv hc
    · rw [e] at hq ⊢; subst hq; exact store_swl2 w s h S T D A imm q v ha hv hc
    · rw [e] at hq ⊢; subst hq; exact store_swl3 w s h S T D A imm q v ha hv hc
  by_cases h59 : op = 59
  · subst h59
    rw [show storeL 59 a v = placesL (a - a % 4) ((bytesL v).drop (3 - a % 4)) from rfl, hq4]
    generalize a / 4 = q at hq hq4 ⊢
    rcases (show a % 4 = 0 ∨ a % 4 = 1 ∨ a % 4 = 2 ∨ a % 4 = 3 by omega) with e | e | e | e
    · rw [e] at hq ⊢; subst hq; exact store_swr0 w s h S T D A imm q v ha hv hc
    · rw [e] at hq ⊢; subst hq; exact store_swr1 w s h S T D A imm q v ha hv hc
    · rw [e] at hq ⊢; subst hq; exact store_swr2 w s h S T D A imm q v ha hv hc
    · rw [e] at hq ⊢; subst hq; exact store_swr3 w s h S T D A imm q v ha hv hc
  have e : storeL op a v = [] := by unfold storeL; rw [if_neg h55, if_neg h56, if_neg h58, if_neg h57, if_neg h59]
  rw [e]
  exact (store_other w s h op S T D A imm (beq_eq_false_iff_ne.2 h55) (beq_eq_false_iff_ne.2 h56) (beq_eq_false_iff_ne.2 h58) (beq_eq_false_iff_ne.2 h57) (beq_eq_false_iff_ne.2 h59) a v hv).mono fun e w' ⟨h1, h2⟩ => ⟨h1, s, rfl, h2⟩
end Go.Proofs.Ytkpcajmphhdmiaa
namespace Go.Proofs.Ytkpcajmphhdmiaa
open Go.ChangeShapes Go.WideShapes Go.ChangeAt Go.RowKit
set_option linter.unusedVariables false
theorem perm_abs (s : MS) (a : Nat) : s.perm a = match s.abs (pageOf a) with | some x => x.2.1 | none => 0 := by
  unfold MS.perm MS.abs
  split <;> rfl
theorem bits_same (x : Int) (h0 : 0 ≤ x) (h1 : x < 8) : bits .or .i64 x x = x := by
  rcases (show x = 0 ∨ x = 1 ∨ x = 2 ∨ x = 3 ∨ x = 4 ∨ x = 5 ∨ x = 6 ∨ x = 7 by omega) with rfl | rfl | rfl | rfl | rfl | rfl | rfl | rfl <;> decide
theorem orP_same (z : Int) : orP (z % 8) z = z % 8 := by
  rw [← orP_small (z % 8) z (by omega) (by omega)]
  exact bits_same _ (by omega) (by omega)
/-- All pages may be the same. -/
def AllP (f : AM) (z : Int) : Prop := ∀ q x, f q = some x → x.2.1 = z % 8
theorem allP_none (z : Int) : AllP (fun _ => none) z := fun _ _ h => by cases h
theorem allP_amap {f : AM} {z : Int} (h : AllP f z) (a : Nat) : AllP (amap f a z) z := by
  intro q x hx
  unfold amap at hx
  by_cases e : q = pageOf a
  · rw [if_pos e] at hx
    cases hq : f q with
    | none =>
      rw [hq] at hx
      have := Option.some.inj hx
      rw [← this]
    | some y =>
      obtain ⟨l, p, o⟩ := y
      rw [hq] at hx
      have hp : p = z % 8 := h q _ hq
      have := Option.some.inj hx
      rw [← this]
      show orP p z = _
      rw [hp]
      exact orP_same z
  · rw [if_neg e] at hx
    exact h q x hx
theorem allP_apoke {f : AM} {z : Int} (h : AllP f z) (a : Nat) (v : UInt8) : AllP (apoke f a v) z := by
  intro q x hx
  unfold apoke at hx
  by_cases e : q = pageOf a
  · rw [if_pos e] at hx
    cases hq : f q with
    | none => rw [hq] at hx; cases hx
    | some y =>
      rw [hq] at hx
      have := Option.some.inj hx
      rw [← this]
      exact h q y hq
  · rw [if_neg e] at hx
    exact h q x hx
theorem allP_awatch {f : AM} {z : Int} (h : AllP f z) (a : Nat) (b : Bool) : AllP (awatch f a b) z := by
  intro q x hx
  unfold awatch at hx
  by_cases e : q = pageOf a
  · rw [if_pos e] at hx
    cases hq : f q with
    | none => rw [hq] at hx; cases hx
    | some y =>
      rw [hq] at hx
      have := Option.some.inj hx
      rw [← this]
      exact h q y hq
  · rw [if_neg e] at hx
    exact h q x hx
theorem allP_maps {f : AM} (p : Part4) (h : AllP f p.perm) : ∀ k, AllP (partMaps f p k) p.perm
  | 0 => h
  | k + 1 => allP_amap (allP_maps p h k) _
theorem allP_pokes {f : AM} {z : Int} (h : AllP f z) (p : Part4) : ∀ k, AllP (partPokes f p k) z
  | 0 => h
  | k + 1 => allP_apoke (allP_pokes h p k) _ _
theorem one_allP (p : Part4) : AllP (memOf [p]) p.perm := allP_awatch (allP_pokes (allP_maps p (allP_none _) _) p _) _ _
theorem two_allP (p q : Part4) (h : q.perm = p.perm) : AllP (memOf [p, q]) p.perm := by
  refine allP_awatch (allP_awatch ?_ _ _) _ _
  refine allP_pokes ?_ _ _
  rw [← h]
  refine allP_maps q ?_ _
  rw [h]
  exact allP_pokes (allP_maps p (allP_none _) _) p _
theorem perm_all {s : MS} {z : Int} (h : AllP s.abs z) (a : Nat) (hs : (s.abs (pageOf a)).isSome = true) : s.perm a = z % 8 := by
  rw [perm_abs]
  cases hq : s.abs (pageOf a) with
  | none => rw [hq] at hs; cases hs
  | some x => exact h _ _ hq
theorem perm_none {s : MS} (a : Nat) (hs : s.abs (pageOf a) = none) : s.perm a = 0 := by
  rw [perm_abs, hs]
/-- A part without bytes has one page. -/
theorem bare_some (p : Part4) (hl : p.data = []) (hat : p.at_ < 4294967296) (q : Nat) : (memOf [p] q).isSome = true ↔ q = pageOf p.at_ := by
  show (awatch (partDone (fun _ => none) p) p.at_ p.on q).isSome = true ↔ _
  rw [some_awatch]
  unfold partDone
  rw [some_pokes, hl, show max ([] : List UInt8).length 1 = 1 from rfl, some_maps]
  have e : wrapAt p.at_ 0 = p.at_ := by unfold wrapAt; omega
  constructor
  · rintro ⟨j, hj, e2⟩
    obtain rfl : j = 0 := by omega
    rw [e2, e]
  · intro h
    exact ⟨0, by omega, by rw [h, e]⟩
abbrev partC (a : Nat) (ao : Option Addr) (n cap : Nat) (z : Int) (on : Bool) : Array Value := #[.int .u32 (a : Int), .slice ao n cap, .int .i64 z, .bool on]
theorem buildPart (a : Int) (ao : Option Addr) (n cap : Nat) (z : Int) (w : World) : (Instr.build 48 #[(0, .int .u32 a), (1, .slice ao n cap), (2, .int .i64 z)]).run Try.prog w = .ok (.agg #[.int .u32 a, .slice ao n cap, .int .i64 z, .bool false]) w := by kernel_rfl
/-- One part, as it lies there. -/
theorem piece_new (w : World) (a : Nat) (ha : a < 4294967296) (ao : Option Addr) (l : List UInt8) (cap : Nat) (z : Int) (on : Bool) (hr : Row w ao l cap) : Pieces (w.alloc (.cells (partC a ao l.length cap z on) 48)) (some ⟨w.heap.size, 0, none⟩) [⟨a, l, z, on, ao, cap⟩] := by
  have hb := heap_alloc_new w (.cells (partC a ao l.length cap z on) 48)
  refine .inr ⟨w.heap.size, 0, rfl, (Array.getElem?_eq_some_iff.1 hb).1, fun j hj => ?_⟩
  obtain rfl : j = 0 := by simpa using hj
  refine ⟨?_, ?_, ?_, ?_, hr.later ((Below.refl _ w).alloc (Nat.le_refl _) _), ha⟩
  · rw [cell_of_row _ _ _ _ _ _ hb]; rfl
  · rw [cell_of_row _ _ _ _ _ _ hb]; rfl
  · rw [cell_of_row _ _ _ _ _ _ hb]; rfl
  · rw [cell_of_row _ _ _ _ _ _ hb]; rfl
theorem row_new (w : World) (l : List UInt8) (hl : l ≠ []) (hm : l.length ≤ 16384) : Row (w.alloc (.cells (cellsU l).toArray 5)) (some ⟨w.heap.size, 0, none⟩) l l.length :=
  Brow.row (heap_alloc_new w _) hm
end Go.Proofs.Ytkpcajmphhdmiaa
namespace Go.Proofs.Ytkpcajmphhdmiaa
open Go.ChangeShapes Go.WideShapes Go.ChangeAt Go.RowKit
set_option linter.unusedVariables false
theorem pokesA_snoc (x : Nat × UInt8) : ∀ (L : List (Nat × UInt8)) (f : AM), pokesA (L ++ [x]) f = apoke (pokesA L f) x.1 x.2
  | [], _ => rfl
  | y :: L, f => pokesA_snoc x L _
theorem full_pokesA : ∀ (L : List (Nat × UInt8)) {f : AM}, Full f → Full (pokesA L f)
  | [], _, h => h
  | x :: L, f, h => full_pokesA L (full_apoke h x.1 x.2)
theorem some_pokesA : ∀ (L : List (Nat × UInt8)) (f : AM) (q : Nat), (pokesA L f q).isSome = (f q).isSome
  | [], _, _ => rfl
  | x :: L, f, q => (some_pokesA L _ q).trans (some_apoke f x.1 x.2 q)
/-- A memory whose places below 512 are there. -/
structure LowM (s : MS) : Prop where
  full : Full s.abs
  here : ∀ b, b < 512 → (s.abs (pageOf b)).isSome = true
theorem LowM.pokes {s s' : MS} {L : List (Nat × UInt8)} (h : LowM s) (hp : PokesTo s L s') : LowM s' := by
  refine ⟨?_, fun b hb => ?_⟩
  · rw [hp.abs]; exact full_pokesA L h.full
  · rw [hp.abs, some_pokesA]; exact h.here b hb
theorem LowM.read {s s' : MS} {a : Nat} {bl : List UInt8} (h : LowM s) (ha : a + bl.length ≤ 512) (hp : PokesTo s (placesL a bl) s') (b : Nat) : byteN s' b = if a ≤ b ∧ b < a + bl.length then (bl.getD (b - a) 0).toNat else byteN s b := by
  have key : ∀ n, n ≤ bl.length → getA (pokesA ((placesL a bl).take n) s.abs) b = if a ≤ b ∧ b < a + n then bl.getD (b - a) 0 else getA s.abs b := by
    intro n
    induction n with
    | zero =>
      intro _
      rw [if_neg (by omega)]
      rfl
    | succ n ih =>
      intro hn
      have hw : wrapAt a n = a + n := by unfold wrapAt; omega
      rw [placesL_take a bl n (by omega), pokesA_snoc, getA_poke (full_pokesA _ h.full) (by rw [some_pokesA]; exact h.here _ (by show wrapAt a n < 512; omega)), ih (by omega)]
      show (if b = wrapAt a n then bl.getD n 0 else _) = _
      rw [hw]
      by_cases e : b = a + n
      · rw [if_pos e, if_pos (by omega), e, Nat.add_sub_cancel_left]
      · rw [if_neg e]
        by_cases e2 : a ≤ b ∧ b < a + n
        · rw [if_pos e2, if_pos (by omega)]
        · rw [if_neg e2, if_neg (by omega)]
  unfold byteN
  rw [get_getA, get_getA, hp.abs]
  have := key bl.length (Nat.le_refl _)
  rw [placesL_all] at this
  rw [this]
  split <;> rfl
theorem bytesL_len (v : Nat) : (bytesL v).length = 4 := rfl
theorem bytesL_at (v : Nat) : ((bytesL v).getD 0 0).toNat = v / 16777216 % 256 ∧ ((bytesL v).getD 1 0).toNat = v / 65536 % 256 ∧ ((bytesL v).getD 2 0).toNat = v / 256 % 256 ∧ ((bytesL v).getD 3 0).toNat = v % 256 := ⟨UInt8.toNat_ofNat', UInt8.toNat_ofNat', UInt8.toNat_ofNat', UInt8.toNat_ofNat'⟩
/-- The bytes of a word from a place on. -/
def HasW (s : MS) (a v : Nat) : Prop := byteN s a = v / 16777216 % 256 ∧ byteN s (a + 1) = v / 65536 % 256 ∧ byteN s (a + 2) = v / 256 % 256 ∧ byteN s (a + 3) = v % 256
theorem preW_at (s : MS) (a : Nat) (ha : a + 3 < 4294967296) : preW s a 4 = ((byteN s a * 256 + byteN s (a + 1)) * 256 + byteN s (a + 2)) * 256 + byteN s (a + 3) := by
  have e : ∀ j, j < 4 → wrapAt a j = a + j := fun j hj => by unfold wrapAt; omega
  show (((0 * 256 + (s.get (wrapAt a 0)).toNat) * 256 + (s.get (wrapAt a 1)).toNat) * 256 + (s.get (wrapAt a 2)).toNat) * 256 + (s.get (wrapAt a 3)).toNat = _
  rw [e 0 (by omega), e 1 (by omega), e 2 (by omega), e 3 (by omega)]
  unfold byteN
  rw [Nat.add_zero]
  omega
theorem HasW.word {s : MS} {a v : Nat} (h : HasW s a v) (ha : a < 512) (hv : v < 4294967296) : preW s a 4 = v := by
  obtain ⟨h0, h1, h2, h3⟩ := h
  rw [preW_at s a (by omega), h0, h1, h2, h3]
  omega
theorem back_sw {s s1 : MS} {a v : Nat} (h : LowM s) (ha : a + 4 ≤ 512) (hp : PokesTo s (placesL a (bytesL v)) s1) : HasW s1 a v := by
  have r := fun b => h.read (bl := bytesL v) (by rw [bytesL_len]; exact ha) hp b
  rw [bytesL_len] at r
  obtain ⟨b0, b1, b2, b3⟩ := bytesL_at v
  refine ⟨?_, ?_, ?_, ?_⟩
  · rw [r, if_pos (by omega), Nat.sub_self]; exact b0
  · rw [r, if_pos (by omega), Nat.add_sub_cancel_left]; exact b1
  · rw [r, if_pos (by omega), Nat.add_sub_cancel_left]; exact b2
  · rw [r, if_pos (by omega), Nat.add_sub_cancel_left]; exact b3
theorem back_half {s : MS} {a v : Nat} (h : HasW s a v) (ha : a < 512) (hv : v < 4294967296) : halfN s a = v / 65536 := by
  unfold halfN
  rw [show wrapAt a 1 = a + 1 by unfold wrapAt; omega, h.1, h.2.1]
  omega
theorem take_at (l : List UInt8) (n j : Nat) (hj : j < n) : (l.take n).getD j 0 = l.getD j 0 := by
  rw [List.getD_eq_getElem?_getD, List.getD_eq_getElem?_getD, List.getElem?_take_of_lt hj]
theorem drop_at (l : List UInt8) (n j : Nat) : (l.drop n).getD j 0 = l.getD (n + j) 0 := by
  rw [List.getD_eq_getElem?_getD, List.getD_eq_getElem?_getD, List.getElem?_drop]
theorem back_two {s1 s2 s3 : MS} {k v : Nat} (h : LowM s1) (hk : k + 4 ≤ 512) (h2 : PokesTo s1 (storeL 57 k v) s2) (h3 : PokesTo s2 (storeL 59 (k + 3) v) s3) : HasW s3 k v := by
  have l2 := h.pokes h2
  rw [show storeL 57 k v = placesL k ((bytesL v).take (4 - k % 4)) from rfl] at h2
  rw [show storeL 59 (k + 3) v = placesL (k + 3 - (k + 3) % 4) ((bytesL v).drop (3 - (k + 3) % 4)) from rfl] at h3
  have len2 : ((bytesL v).take (4 - k % 4)).length = 4 - k % 4 := by rw [List.length_take, bytesL_len]; omega
  have len3 : ((bytesL v).drop (3 - (k + 3) % 4)).length = (k + 3) % 4 + 1 := by rw [List.length_drop, bytesL_len]; omega
  have r2 := fun b => h.read (bl := (bytesL v).take (4 - k % 4)) (by rw [len2]; omega) h2 b
  have r3 := fun b => l2.read (bl := (bytesL v).drop (3 - (k + 3) % 4)) (by rw [len3]; omega) h3 b
  rw [len2] at r2
  rw [len3] at r3
  obtain ⟨b0, b1, b2, b3⟩ := bytesL_at v
  have all : ∀ j, j < 4 → byteN s3 (k + j) = ((bytesL v).getD j 0).toNat := by
    intro j hj
    rw [r3]
    by_cases e : k + 3 - (k + 3) % 4 ≤ k + j ∧ k + j < k + 3 - (k + 3) % 4 + ((k + 3) % 4 + 1)
    · rw [if_pos e, drop_at, show 3 - (k + 3) % 4 + (k + j - (k + 3 - (k + 3) % 4)) = j by omega]
    · rw [if_neg e, r2, if_pos (by omega), take_at _ _ _ (by omega), Nat.add_sub_cancel_left]
  exact ⟨(all 0 (by omega)).trans b0, (all 1 (by omega)).trans b1, (all 2 (by omega)).trans b2, (all 3 (by omega)).trans b3⟩
theorem back_pair {s : MS} {k v old : Nat} (h : HasW s k v) (hk : k + 4 ≤ 512) (hv : v < 4294967296) : loadN s 54 (k + 3) (loadN s 50 k old) = v := by
  obtain ⟨h0, h1, h2, h3⟩ := h
  rw [show loadN s 50 k old = lwlN (k % 4) (preW s (k - k % 4) 4) old from rfl, show ∀ x, loadN s 54 (k + 3) x = lwrN ((k + 3) % 4) (preW s (k + 3 - (k + 3) % 4) 4) x from fun _ => rfl]
  obtain ⟨q, r, hr, hq⟩ : ∃ q r, r < 4 ∧ k = 4 * q + r := ⟨k / 4, k % 4, by omega, by omega⟩
  subst hq
  have p1 := preW_at s (4 * q + r - (4 * q + r) % 4) (by omega)
  have p2 := preW_at s (4 * q + r + 3 - (4 * q + r + 3) % 4) (by omega)
  rw [p1, p2]
  rcases (show r = 0 ∨ r = 1 ∨ r = 2 ∨ r = 3 by omega) with rfl | rfl | rfl | rfl
  · rw [show (4 * q + 0) % 4 = 0 by omega, show (4 * q + 0 + 3) % 4 = 3 by omega, show 4 * q + 0 - 0 = 4 * q + 0 by omega, show 4 * q + 0 + 3 - 3 = 4 * q + 0 by omega, h0, h1, h2, h3]
    unfold lwlN lwrN
    simp only [Nat.reduceMul, Nat.reduceSub, Nat.reducePow, Nat.reduceAdd]
    omega
  · rw [show (4 * q + 1) % 4 = 1 by omega, show (4 * q + 1 + 3) % 4 = 0 by omega, show 4 * q + 1 + 3 - 0 = 4 * q + 1 + 3 by omega, show 4 * q + 1 - 1 + 1 = 4 * q + 1 by omega, show 4 * q + 1 - 1 + 2 = 4 * q + 1 + 1 by omega, show 4 * q + 1 - 1 + 3 = 4 * q + 1 + 2 by omega, h0, h1, h2, h3]
    have c0 := byteN_lt s (4 * q + 1 - 1)
    have c1 := byteN_lt s (4 * q + 1 + 3 + 1)
    have c2 := byteN_lt s (4 * q + 1 + 3 + 2)
    have c3 := byteN_lt s (4 * q + 1 + 3 + 3)
    unfold lwlN lwrN
    simp only [Nat.reduceMul, Nat.reduceSub, Nat.reducePow, Nat.reduceAdd]
    omega
  · rw [show (4 * q + 2) % 4 = 2 by omega, show (4 * q + 2 + 3) % 4 = 1 by omega, show 4 * q + 2 + 3 - 1 = 4 * q + 2 + 2 by omega, show 4 * q + 2 - 2 + 2 = 4 * q + 2 by omega, show 4 * q + 2 - 2 + 3 = 4 * q + 2 + 1 by omega, show 4 * q + 2 + 2 + 1 = 4 * q + 2 + 3 by omega, h0, h1, h2, h3]
    have c0 := byteN_lt s (4 * q + 2 - 2)
    have c1 := byteN_lt s (4 * q + 2 - 2 + 1)
    have c2 := byteN_lt s (4 * q + 2 + 2 + 2)
    have c3 := byteN_lt s (4 * q + 2 + 2 + 3)
    unfold lwlN lwrN
    simp only [Nat.reduceMul, Nat.reduceSub, Nat.reducePow, Nat.reduceAdd]
    omega
  · rw [show (4 * q + 3) % 4 = 3 by omega, show (4 * q + 3 + 3) % 4 = 2 by omega, show 4 * q + 3 + 3 - 2 = 4 * q + 3 + 1 by omega, show 4 * q + 3 - 3 + 3 = 4 * q + 3 by omega, show 4 * q + 3 + 1 + 1 = 4 * q + 3 + 2 by omega, show 4 * q + 3 + 1 + 2 = 4 * q + 3 + 3 by omega, h0, h1, h2, h3]
    have c0 := byteN_lt s (4 * q + 3 - 3)
    have c1 := byteN_lt s (4 * q + 3 - 3 + 1)
    have c2 := byteN_lt s (4 * q + 3 - 3 + 2)
    have c3 := byteN_lt s (4 * q + 3 + 1 + 3)
    unfold lwlN lwrN
    simp only [Nat.reduceMul, Nat.reduceSub, Nat.reducePow, Nat.reduceAdd]
    omega
theorem back_small {s3 s4 s5 : MS} {a v : Nat} (h : LowM s3) (ha : a + 4 ≤ 512) (h4 : PokesTo s3 (storeL 56 a v) s4) (h5 : PokesTo s4 (storeL 55 (a + 2) v) s5) : halfN s5 a = v % 65536 ∧ byteN s5 (a + 2) = v % 256 := by
  have l4 := h.pokes h4
  rw [show storeL 56 a v = placesL a ((bytesL v).drop 2) from rfl] at h4
  rw [show storeL 55 (a + 2) v = placesL (a + 2) ((bytesL v).drop 3) from rfl] at h5
  have r4 := fun b => h.read (bl := (bytesL v).drop 2) (by show a + 2 ≤ 512; omega) h4 b
  have r5 := fun b => l4.read (bl := (bytesL v).drop 3) (by show a + 2 + 1 ≤ 512; omega) h5 b
  rw [show ((bytesL v).drop 2).length = 2 from rfl] at r4
  rw [show ((bytesL v).drop 3).length = 1 from rfl] at r5
  obtain ⟨b0, b1, b2, b3⟩ := bytesL_at v
  constructor
  · unfold halfN
    rw [show wrapAt a 1 = a + 1 by unfold wrapAt; omega, r5, r5, if_neg (by omega), if_neg (by omega), r4, r4, if_pos (by omega), if_pos (by omega), drop_at, drop_at, Nat.sub_self, Nat.add_sub_cancel_left, b2, b3]
    omega
  · rw [r5, if_pos (by omega), drop_at, Nat.sub_self]
    exact b3
end Go.Proofs.Ytkpcajmphhdmiaa

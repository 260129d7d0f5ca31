/- A jump and its slot, plain. -/
import Derived.Test.YtobnocioefchlaaPAwA
namespace Go.Proofs.Ytobnocioefchlaa
open Go.ChangeShapes Go.WideShapes Go.ChangeAt Go.RowKit
set_option linter.unusedVariables false
theorem word_j (k tg : Nat) (hk : k = 67 ∨ k = 68) (h4 : tg % 4 = 0) (hl : tg < 268435456) : wordK k 0 0 0 0 tg = mkJ (k - 65) (tg / 4) ∧ wordK k 0 0 0 0 tg < 4294967296 := by
  rcases hk with rfl | rfl
  · have e : wordK 67 0 0 0 0 tg = 2 * 67108864 + tg / 4 % 67108864 := rfl
    refine ⟨?_, by rw [e]; omega⟩
    rw [e]
    show _ = 2 * 67108864 + tg / 4
    omega
  · have e : wordK 68 0 0 0 0 tg = 3 * 67108864 + tg / 4 % 67108864 := rfl
    refine ⟨?_, by rw [e]; omega⟩
    rw [e]
    show _ = 3 * 67108864 + tg / 4
    omega
theorem ins_j (k tg : Nat) (hk : k = 67 ∨ k = 68) (h4 : tg % 4 = 0) (hl : tg < 268435456) : insR (wordK k 0 0 0 0 tg) = ⟨k + 1, ⟨0, 0, 0, 0, tg⟩⟩ := by
  rw [(word_j k tg hk h4 hl).1]
  rcases hk with rfl | rfl
  · rw [dec_74 (k := 67) (p := 68) (o := 2) (f := 0) (by omega) rfl (by omega) (by omega), show tg / 4 * 4 = tg by omega]
  · rw [dec_74 (k := 68) (p := 69) (o := 3) (f := 0) (by omega) rfl (by omega) (by omega), show tg / 4 * 4 = tg by omega]
theorem ins_nop : insR 0 = ⟨16, ⟨0, 0, 0, 0, 0⟩⟩ := by
  rw [show (0 : Nat) = mkW 0 0 0 0 0 0 from rfl]
  exact dec_72 (k := 15) (by omega) rfl (by omega) (by omega) (by omega) (by omega) (by omega)
/-- The state behind the jump. -/
def jmpS (link : Bool) (tg : Nat) : SV := { stPN 8196 tg with R := if link then (List.replicate 32 0).set 31 8200 else List.replicate 32 0, sl := true }
theorem zz0 : (0 : Int) ≤ 0 ∧ (0 : Int) < 4294967296 := by decide
theorem zz1 : (0 : Int) ≤ 8196 ∧ (8196 : Int) < 4294967296 := by decide
theorem jmpS_ok (link : Bool) (tg : Nat) (hl : tg < 268435456) : (jmpS link tg).ok := by
  cases link with
  | false => exact ⟨rfl, (show ∀ k, k < 32 → 0 ≤ (List.replicate 32 (0 : Int)).getD k 0 ∧ (List.replicate 32 (0 : Int)).getD k 0 < 4294967296 by decide), zz0, zz0, zz1, ⟨by show (0 : Int) ≤ (tg : Int); omega, by show (tg : Int) < 4294967296; omega⟩⟩
  | true => exact ⟨rfl, (show ∀ k, k < 32 → 0 ≤ ((List.replicate 32 (0 : Int)).set 31 8200).getD k 0 ∧ ((List.replicate 32 (0 : Int)).set 31 8200).getD k 0 < 4294967296 by decide), zz0, zz0, zz1, ⟨by show (0 : Int) ≤ (tg : Int); omega, by show (tg : Int) < 4294967296; omega⟩⟩
theorem pn_ok (pc nx : Int) (h1 : 0 ≤ pc) (h2 : pc < 4294967296) (h3 : 0 ≤ nx) (h4 : nx < 4294967296) : (stPN pc nx).ok := ⟨rfl, (show ∀ k, k < 32 → 0 ≤ (List.replicate 32 (0 : Int)).getD k 0 ∧ (List.replicate 32 (0 : Int)).getD k 0 < 4294967296 by decide), zz0, zz0, ⟨h1, h2⟩, ⟨h3, h4⟩⟩
theorem or_zero (x : Nat) (hx : x < 4294967296) : bits .or .u32 0 (x : Int) = (x : Int) := by
  have h := u32_or 0 (x : Int) (by omega) (by omega) (by omega) (by omega)
  rw [h]
  simp
theorem targ_j (k tg : Nat) (hk : k = 67 ∨ k = 68) (hl : tg < 268435456) (x : Int) : targP ((k + 1 : Nat) : Int) (tg : Int) 8196 x = (tg : Int) := by
  unfold targP
  rw [if_neg (by omega), if_pos (by omega), show bits .and .u32 8196 4026531840 = 0 by decide]
  exact or_zero tg (by omega)
def jmpK (link : Bool) : Nat := if link then 68 else 67
theorem jmpK_or (link : Bool) : jmpK link = 67 ∨ jmpK link = 68 := by cases link <;> simp [jmpK]
def secW (again : Bool) : Nat := if again then wordK 67 0 0 0 0 0 else 0
def jmpWs (link again : Bool) (tg : Nat) : List Nat := [wordK (jmpK link) 0 0 0 0 tg, secW again]
theorem jmp_one {s : MS} {ao : Option Addr} {c : Nat} {link again : Bool} {tg : Nat} (h4 : tg % 4 = 0) (hl : tg < 268435456) (h : s.abs = memOf [codeP 8192 (jmpWs link again tg) 7 false ao c]) : stepP s (stPN 8192 8196) = wentO (jmpS link tg) 0 ∧ stepL s (stPN 8192 8196) = [] := by
  have hf := fetch_code (p := codeP 8192 (jmpWs link again tg) 7 false ao c) h rfl (show bits .and .i64 ((7 : Int) % 8) 1 ≠ 0 by decide) (show (8192 : Nat) % 4 = 0 from rfl) (show 8192 + 4 * 2 ≤ 4294967296 by decide) 0 (show 0 < 2 by decide) (show wordK (jmpK link) 0 0 0 0 tg < 4294967296 from (word_j _ tg (jmpK_or link) h4 hl).2)
  have hs := stepP_at (v := stPN 8192 8196) hf (ins_j _ tg (jmpK_or link) h4 hl)
  have hw := wrongP_jump s (op := jmpK link + 1) (by rcases jmpK_or link with e | e <;> rw [e] <;> simp) (tg : Int) ((stPN 8192 8196).reg 0) ((stPN 8192 8196).reg 0) (adrP (stPN 8192 8196) ⟨jmpK link + 1, ⟨0, 0, 0, 0, tg⟩⟩)
  have hi : insP s (stPN 8192 8196) ⟨jmpK link + 1, ⟨0, 0, 0, 0, tg⟩⟩ = wentO (jmpS link tg) 0 := by
    rw [insP_went (by
      show (wrongP s false ((jmpK link + 1 : Nat) : Int) (tg : Int) _ _ _).1 = 0
      rw [hw]) (show jmpK link + 1 ≠ 35 by rcases jmpK_or link with e | e <;> rw [e] <;> decide)]
    refine congrArg (fun st => wentO st 0) ?_
    cases link with
    | false =>
      refine (doP_j68t s (stPN 8192 8196) 68 (tg : Int) 0 0 0 _ _ rfl rfl).trans ?_
      have ht := targ_j 67 tg (.inl rfl) hl 0
      show SV.mk _ 0 0 8196 (targP 68 (tg : Int) 8196 0) true = _
      rw [show targP 68 (tg : Int) 8196 0 = (tg : Int) from ht]
      rfl
    | true =>
      refine (doP_l69t s (stPN 8192 8196) 69 (tg : Int) 0 0 0 31 _ rfl rfl).trans ?_
      have ht := targ_j 68 tg (.inr rfl) hl 0
      show SV.mk _ 0 0 8196 (targP 69 (tg : Int) 8196 0) true = _
      rw [show targP 69 (tg : Int) 8196 0 = (tg : Int) from ht]
      rfl
  rw [hs.1, hs.2]
  refine ⟨hi, ?_⟩
  unfold insL
  simp only
  rw [hi]
  have := storeL_none (op := ((jmpK link + 1 : Nat) : Int)) (by rcases jmpK_or link with e | e <;> rw [e] <;> decide)
  exact (if_pos (show (0 : Int) = 0 from rfl)).trans (this _ _)
theorem jmp_two {s : MS} {ao : Option Addr} {c : Nat} {link again : Bool} {tg : Nat} (h : s.abs = memOf [codeP 8192 (jmpWs link again tg) 7 false ao c]) : stepP s (jmpS link tg) = if again then stopO (jmpS link tg) 7 0 else wentO { jmpS link tg with pc := tg, nx := ((tg : Int) + 4) % 4294967296, sl := false } 0 := by
  have hsw : secW again < 4294967296 := by cases again <;> decide
  have hf := fetch_code (p := codeP 8192 (jmpWs link again tg) 7 false ao c) h rfl (show bits .and .i64 ((7 : Int) % 8) 1 ≠ 0 by decide) (show (8192 : Nat) % 4 = 0 from rfl) (show 8192 + 4 * 2 ≤ 4294967296 by decide) 1 (show 1 < 2 by decide) (show secW again < 4294967296 from hsw)
  cases again with
  | true =>
    have hs := stepP_at (v := jmpS link tg) hf (show insR (wordK 67 0 0 0 0 0) = _ from ins_j 67 0 (.inl rfl) rfl (by decide))
    rw [hs.1, if_pos rfl]
    have hw := wrongP_slot s (op := 68) (by simp) 0 ((jmpS link tg).reg 0) ((jmpS link tg).reg 0) (adrP (jmpS link tg) ⟨68, ⟨0, 0, 0, 0, 0⟩⟩)
    rw [insP_stop (by
      show (wrongP s true ((68 : Nat) : Int) ((0 : Nat) : Int) _ _ _).1 ≠ 0
      intro e
      have e2 : (wrongP s true ((68 : Nat) : Int) 0 ((jmpS link tg).reg 0) ((jmpS link tg).reg 0) (adrP (jmpS link tg) ⟨68, ⟨0, 0, 0, 0, 0⟩⟩)).1 = 0 := e
      rw [hw] at e2
      exact absurd e2 (by decide))]
    show stopO _ (wrongP s true ((68 : Nat) : Int) 0 ((jmpS link tg).reg 0) ((jmpS link tg).reg 0) (adrP (jmpS link tg) ⟨68, ⟨0, 0, 0, 0, 0⟩⟩)).1 (wrongP s true ((68 : Nat) : Int) 0 ((jmpS link tg).reg 0) ((jmpS link tg).reg 0) (adrP (jmpS link tg) ⟨68, ⟨0, 0, 0, 0, 0⟩⟩)).2 = _
    rw [hw]
  | false =>
    have hs := stepP_at (v := jmpS link tg) hf (show insR 0 = _ from ins_nop)
    rw [hs.1, if_neg (by decide)]
    have hw : wrongP s true ((16 : Nat) : Int) 0 0 0 (adrP (jmpS link tg) ⟨16, ⟨0, 0, 0, 0, 0⟩⟩) = (0, 0) := by
      have hk := kind_in (k := 15) (by omega)
      unfold wrongP
      rw [if_neg (by
        rintro (e | e)
        · exact hk.1 e
        · exact absurd (hk.2.1 e.1) (by decide)), if_neg (by decide), show trapB ((16 : Nat) : Int) 0 0 0 = false from rfl, if_neg (by decide), if_pos (faultK_out (by decide) _)]
    rw [insP_went (by
      show (wrongP s true ((16 : Nat) : Int) 0 0 0 (adrP (jmpS link tg) ⟨16, ⟨0, 0, 0, 0, 0⟩⟩)).1 = 0
      rw [hw]) (by decide)]
    refine congrArg (fun st => wentO st 0) ?_
    refine (doP_pot s (jmpS link tg) 16 0 0 0 0 0 _ rfl rfl rfl rfl rfl rfl rfl rfl rfl rfl rfl rfl rfl rfl rfl rfl rfl rfl rfl rfl rfl rfl rfl rfl rfl rfl rfl rfl 0 (by decide) rfl).trans ?_
    cases link <;> rfl
end Go.Proofs.Ytobnocioefchlaa
namespace Go.Proofs.Ytobnocioefchlaa
open Go.ChangeShapes Go.WideShapes Go.ChangeAt Go.RowKit
set_option linter.unusedVariables false
/-- The world of two steps: a memory of the call's own. -/
structure JA (W : World) (n : Nat) (s : MS) (wr : World) : Prop where
  bel : Below n W wr
  mem : MemW wr s
  low : ∀ b, foot s b → n ≤ b
  sz : n ≤ wr.heap.size
theorem JA.later {W : World} {n : Nat} {s : MS} {wr w' : World} (h : JA W n s wr) (hb : Below wr.heap.size wr w') : JA W n s w' := ⟨h.bel.trans (hb.mono h.sz), h.mem.later hb, h.low, Nat.le_trans h.sz hb.size⟩
theorem JA.free {W : World} {n g : Nat} {s : MS} {wr : World} (h : JA W n s wr) (hg : wr.heap.size = g) : n ≤ g ∧ ¬ foot s g := ⟨by rw [← hg]; exact h.sz, fun hf => by have := h.mem.lt hf; omega⟩
theorem JA.only {W : World} {n g : Nat} {s : MS} {wr w' : World} (h : JA W n s wr) (ho : Only g wr w') (hg : n ≤ g) (hf : ¬ foot s g) : JA W n s w' := ⟨Below.only h.bel ho hg, h.mem.same fun b hb => ho.block b (fun e => hf (e ▸ hb)), h.low, by rw [ho.size]; exact h.sz⟩
theorem JA.step {W : World} {n : Nat} {s s' : MS} {wr w' : World} (h : JA W n s wr) (st : Step wr s w' s') : JA W n s' w' := ⟨h.bel.trans (st.below h.sz h.low).1, st.mem, (st.below h.sz h.low).2, Nat.le_trans h.sz st.keep.size⟩
theorem JA.of {W w5 w6 : World} {n : Nat} {s : MS} (hb : Below n W w5) (hn : n ≤ w5.heap.size) (ho : Own w5 w6 s) : JA W n s w6 := ⟨hb.trans (ho.below.mono hn), ho.mem, fun b h => Nat.le_trans hn (ho.foot b h), Nat.le_trans hn ho.below.size⟩
theorem mask_j (x : Nat) (hx : x < 4294967296) : ∃ tg : Nat, bits .and .u32 (x : Int) 268435452 = (tg : Int) ∧ tg % 4 = 0 ∧ tg < 268435456 := by
  refine ⟨x &&& 268435452, u32_and_nat x 268435452 hx (by omega), ?_, ?_⟩
  · rw [show (4 : Nat) = 2 ^ 2 from rfl, Nat.and_mod_two_pow, show 268435452 % 2 ^ 2 = 0 from rfl, Nat.and_zero]
  · have := Nat.and_le_right (n := x) (m := 268435452)
    omega
/-- The world behind the first step: its answers lie in blocks g and g + 1. -/
structure JS (W : World) (n g : Nat) (st : SV) (s : MS) (wr : World) : Prop where
  ja : JA W n s wr
  k : Blk wr g st.c 26
  far : ¬ foot s g
theorem JS.mk1 {W w' : World} {n g : Nat} {st : SV} {s : MS} {wr : World} (h : JA W n s wr) (hg : wr.heap.size = g) (hb : Below wr.heap.size wr w') (h1 : Blk w' g st.c 26) : JS W n g st s w' := ⟨h.later hb, h1, (h.free hg).2⟩
/-- The world behind the second step: both states and the fault. -/
structure JT (W : World) (n g g2 : Nat) (st st2 : SV) (fc : Array Value) (s : MS) (wr : World) : Prop where
  ja : JA W n s wr
  k : Blk wr g st.c 26
  k2 : Blk wr g2 st2.c 26
  f : Blk wr (g2 + 1) fc 32
theorem JS.two {W w' : World} {n g : Nat} {st : SV} {s s' : MS} {wr : World} (h : JS W n g st s wr) (hs : Step wr s w' s') : JA W n s' w' ∧ Blk w' g st.c 26 := ⟨h.ja.step hs, (hs.keep.block g h.k.lt h.far).trans h.k⟩
theorem JT.mk2 {W w' : World} {n g g2 : Nat} {st st2 : SV} {fc : Array Value} {s : MS} {wr : World} (h : JA W n s wr ∧ Blk wr g st.c 26) (hb : Below wr.heap.size wr w') (h1 : Blk w' g2 st2.c 26) (h2 : Blk w' (g2 + 1) fc 32) : JT W n g g2 st st2 fc s w' := ⟨h.1.later hb, h.2.later hb, h1, h2⟩
structure JC (g g2 : Nat) (r p x : Int) (sl : Bool) (p2 x2 : Int) (sl2 : Bool) (k kp : Int) (ks : Bool) (wr : World) : Prop where
  a31 : wr.cell? ⟨g, 31, none⟩ = some (.int .u32 r)
  a34 : wr.cell? ⟨g, 34, none⟩ = some (.int .u32 p)
  a35 : wr.cell? ⟨g, 35, none⟩ = some (.int .u32 x)
  a36 : wr.cell? ⟨g, 36, none⟩ = some (.bool sl)
  b34 : wr.cell? ⟨g2, 34, none⟩ = some (.int .u32 p2)
  b35 : wr.cell? ⟨g2, 35, none⟩ = some (.int .u32 x2)
  b36 : wr.cell? ⟨g2, 36, none⟩ = some (.bool sl2)
  f0 : wr.cell? ⟨g2 + 1, 0, none⟩ = some (.int .i64 k)
  f1 : wr.cell? ⟨g2 + 1, 1, none⟩ = some (.int .u32 kp)
  f2 : wr.cell? ⟨g2 + 1, 2, none⟩ = some (.bool ks)
theorem JT.cells {W : World} {n g g2 : Nat} {st st2 : SV} {k kp kb : Int} {ks : Bool} {s : MS} {wr : World} (h : JT W n g g2 st st2 (faultC k kp ks kb) s wr) {r p x p2 x2 : Int} {sl sl2 : Bool} (h1 : st.R.length = 32 ∧ st.R.getD 31 0 = r ∧ st.pc = p ∧ st.nx = x ∧ st.sl = sl) (h2 : st2.R.length = 32 ∧ st2.pc = p2 ∧ st2.nx = x2 ∧ st2.sl = sl2) : JC g g2 r p x sl p2 x2 sl2 k kp ks wr := by
  obtain ⟨l1, rfl, rfl, rfl, rfl⟩ := h1
  obtain ⟨l2, rfl, rfl, rfl⟩ := h2
  obtain ⟨q1, q2, q3, q4⟩ := st_cells h.k l1
  obtain ⟨r1, r2, r3, r4⟩ := st_cells h.k2 l2
  exact ⟨q1, q2, q3, q4, r2, r3, r4, h.f.cell rfl, h.f.cell rfl, h.f.cell rfl⟩
/-- The first step, as the walk takes it. -/
theorem jmp_call1 (link again : Bool) (tg : Nat) (h4 : tg % 4 = 0) (hl : tg < 268435456) (s : MS) (u : World) (hm : MemW u s) (hc : s.c + 4 ≤ 1099511627776) (ao : Option Addr) (c : Nat) (ha : s.abs = memOf [codeP 8192 (jmpWs link again tg) 7 false ao c]) : Calls Try.prog 10 #[.pointer (some ⟨s.mb, 0, none⟩), .agg (stPN 8192 8196).c] u fun e w' => e = .returned (.tuple #[.agg (jmpS link tg).c, .int .i64 0, .agg (faultC 0 0 false 0)]) ∧ Step u s w' s := by
  have h := jmp_one h4 hl ha
  refine (step_went hm (pn_ok 8192 8196 (by decide) (by decide) (by decide) (by decide)) hc h.1).mono ?_
  rintro e w' ⟨he, s', hp, st⟩
  rw [h.2] at hp
  obtain rfl : s' = s := hp
  exact ⟨he, st⟩
/-- The second step, into a second jump. -/
theorem jmp_call2a (link : Bool) (tg : Nat) (hl : tg < 268435456) (s : MS) (u : World) (hm : MemW u s) (hc : s.c + 4 ≤ 1099511627776) (ao : Option Addr) (c : Nat) (ha : s.abs = memOf [codeP 8192 (jmpWs link true tg) 7 false ao c]) : Calls Try.prog 10 #[.pointer (some ⟨s.mb, 0, none⟩), .agg (jmpS link tg).c] u fun e w' => e = .returned (.tuple #[.agg (jmpS link tg).c, .int .i64 2, .agg (faultC 7 8196 true 0)]) ∧ ∃ s', Step u s w' s' := by
  refine (step_stop hm (jmpS_ok link tg hl) hc ((jmp_two ha).trans (if_pos rfl))).mono ?_
  rintro e w' ⟨he, s', hp, st⟩
  exact ⟨he, s', st⟩
/-- The second step, a plain one. -/
def jmpS2 (link : Bool) (tg : Nat) : SV := { jmpS link tg with pc := tg, nx := ((tg : Int) + 4) % 4294967296, sl := false }
theorem jmp_call2n (link : Bool) (tg : Nat) (hl : tg < 268435456) (s : MS) (u : World) (hm : MemW u s) (hc : s.c + 4 ≤ 1099511627776) (ao : Option Addr) (c : Nat) (ha : s.abs = memOf [codeP 8192 (jmpWs link false tg) 7 false ao c]) : Calls Try.prog 10 #[.pointer (some ⟨s.mb, 0, none⟩), .agg (jmpS link tg).c] u fun e w' => e = .returned (.tuple #[.agg (jmpS2 link tg).c, .int .i64 0, .agg (faultC 0 0 false 0)]) ∧ ∃ s', Step u s w' s' := by
  refine (step_went hm (jmpS_ok link tg hl) hc ((jmp_two ha).trans (if_neg (by decide)))).mono ?_
  rintro e w' ⟨he, s', hp, st⟩
  exact ⟨he, s', st⟩
theorem wpList_buildJ {ops : Array Oper} {rest : List Oper} {o : Oper} {a : Act} {w : World} {Q : Exit → Act → World → Prop} {C0 : Array Value} {p x : Int} (hb : ∀ u, (Instr.build 26 #[(3, .int .u32 p), (4, .int .u32 x)]).run Try.prog u = .ok (.agg C0) u) (hgd : o.guard = none) (ho : o.op = .build 26 #[(3, .const (.int .u32 p)), (4, .const (.int .u32 x))]) (h : wpList Try.prog ops Q rest (a.put o.dst (.agg C0)) w) : wpList Try.prog ops Q (o :: rest) a w :=
  wpList_buildG hgd 26 _ ho #[(3, .int .u32 p), (4, .int .u32 x)] (by kernel_rfl) C0 (hb w) h
theorem jmpS_facts (link : Bool) (tg : Nat) : (jmpS link tg).R.length = 32 ∧ (jmpS link tg).R.getD 31 0 = (if link then 8200 else 0) ∧ (jmpS link tg).pc = 8196 ∧ (jmpS link tg).nx = (tg : Int) ∧ (jmpS link tg).sl = true := by
  cases link <;> exact ⟨rfl, rfl, rfl, rfl, rfl⟩
theorem jmpS2_facts (link : Bool) (tg : Nat) : (jmpS2 link tg).R.length = 32 ∧ (jmpS2 link tg).pc = (tg : Int) ∧ (jmpS2 link tg).nx = ((tg : Int) + 4) % 4294967296 ∧ (jmpS2 link tg).sl = false := by
  cases link <;> exact ⟨rfl, rfl, rfl, rfl⟩
end Go.Proofs.Ytobnocioefchlaa
namespace Go.Proofs.Ytobnocioefchlaa
open Go.ChangeShapes Go.WideShapes Go.ChangeAt Go.RowKit
set_option linter.unusedVariables false
set_option maxRecDepth 20000 in
set_option maxHeartbeats 2500000 in
theorem jumps_ja (tv : Nat) (hto : tv < 4294967296) (W : World) : Calls Try.prog 5 #[.int .u32 (tv : Int), .bool false, .bool true] W fun e w' => e = .returned (.bool true) ∧ Below W.heap.size W w' := by
  obtain ⟨tg, htg, h4, hl⟩ := mask_j tv hto
  obtain ⟨z, hz⟩ : ∃ z : Int, (tv : Int) = z := ⟨_, rfl⟩
  rw [hz] at htg ⊢
  clear hz hto
  obtain ⟨n, hn⟩ : ∃ n, W.heap.size = n := ⟨_, rfl⟩
  obtain ⟨W1, hW1⟩ : ∃ W1, wordK 67 0 0 0 0 tg = W1 := ⟨_, rfl⟩
  have hw1 := (word_j 67 tg (by simp) h4 hl).2
  have HA := hidden (fun u => word00_any 68 67 0 0 0 0 tg rfl (by omega) (by omega) (by omega) (by omega) (by omega) (by omega) hw1 u)
  rw [hW1] at hw1
  rw [hW1] at HA
  obtain ⟨W2, hW2⟩ : ∃ W2, wordK 67 0 0 0 0 0 = W2 := ⟨_, rfl⟩
  have hw2 : W2 < 4294967296 := by rw [← hW2]; decide
  have HB := hidden (fun u => word00_any 68 67 0 0 0 0 0 rfl (by omega) (by omega) (by omega) (by omega) (by omega) (by omega) (show wordK 67 0 0 0 0 0 < 4294967296 by decide) u)
  rw [hW2] at HB
  have HWS : Hid ([W1, W2] = jmpWs false true tg) := hidden (by rw [← hW1, ← hW2]; rfl)
  clear hW2
  have HCO := hidden (fun (u : World) (g : Nat) (h : Blk u g #[.int .u32 (W1 : Int), .int .u32 (W2 : Int)] 23) => code_any [W1, W2] g 2 (by intro x hx; simp at hx; omega) (by simp) u h)
  have HAW := hidden awake11_any
  have HS1 := hidden (jmp_call1 false true tg h4 hl)
  have HS2 := hidden (jmp_call2a false tg hl)
  have HF1 := hidden (jmpS_facts false tg)
  have HF2 := hidden (⟨(jmpS_facts false tg).1, (jmpS_facts false tg).2.2⟩ : (jmpS false tg).R.length = 32 ∧ (jmpS false tg).pc = 8196 ∧ (jmpS false tg).nx = (tg : Int) ∧ (jmpS false tg).sl = true)
  have HBP := hidden (buildPN 8192 8196)
  generalize (stPN 8192 8196).c = C0 at HS1 HBP
  generalize jmpS false tg = J at HS1 HS2 HF1 HF2
  have HTG := hidden htg
  clear hW1 hw1 hw2 h4 hl htg
  go_enter Try.func5, Try.ntmps5
  go_upto_region 2 with (fail)
  rw [HTG.out]
  clear HTG
  go_wp2_with (first
    | (go_at_call 16; refine (HB.out _).mono ?_; rintro e w3 ⟨rfl, b3⟩; rw [hn] at b3; have B3 := hidden b3; have N3 : Hid (n ≤ w3.heap.size) := hidden (by have := b3.size; omega); clear b3 HB)
    | (go_at_call 16; refine (HA.out _).mono ?_; rintro e w4 ⟨rfl, b4⟩; have B4 := hidden (B3.out.trans (b4.mono N3.out)); have N4 : Hid (n ≤ w4.heap.size) := hidden (Nat.le_trans N3.out b4.size); clear b4 HA)
    | (go_at_call 17; refine (HCO.out _ _ (Blk.new w4 #[.int .u32 (W1 : Int), .int .u32 (W2 : Int)] 23)).mono ?_; rintro e w5 ⟨⟨ao, c, rfl, hr⟩, b5⟩; have b45 := (below_new w4 (.cells #[.int .u32 (W1 : Int), .int .u32 (W2 : Int)] 23)).trans (b5.mono (below_new w4 _).size); have B5 := hidden (B4.out.trans (b45.mono N4.out)); have N5 : Hid (n ≤ w5.heap.size) := hidden (Nat.le_trans N4.out b45.size); have ME := hidden (memory_code w5 8192 (by omega) [W1, W2] (by simp) 7 ao c hr); clear b5 b45 B4 hr)
    | (go_at_call 9; refine ME.out.mono ?_; rintro e w6 ⟨s, rfl, ho, habs, hc⟩; have PM := hidden (JA.of B5.out N5.out ho); have AB : Hid (s.abs = memOf [codeP 8192 (jmpWs false true tg) 7 false ao c]) := hidden (by rw [← HWS.out]; exact habs); have CC : Hid (s.c + 4 ≤ 1099511627776) := hidden (by omega); clear ho habs hc B5 ME)
    | (refine wpList_buildJ HBP.out rfl rfl ?_)
    | (go_at_call 10; refine (HS1.out s _ PM.out.mem CC.out ao c AB.out).mono ?_; rintro e w7 ⟨rfl, st7⟩; have Q := hidden (PM.out.step st7); clear PM st7 HS1)
    | (refine wpList_allocV rfl rfl ?_; rintro w1a k1 s1 b1; obtain ⟨g, hg⟩ : ∃ g, w7.heap.size = g := ⟨_, rfl⟩; have B1a := hidden b1; have HGa := hidden hg; rw [hg] at k1 s1 ⊢; have K1a := hidden k1; have S1a := hidden s1; clear k1 s1 b1 hg)
    | (refine wpList_allocFa rfl rfl ?_; rintro w2a k2 s2 b2; have K2a := hidden (K1a.out.later b2); have B2a := hidden (B1a.out.trans (b2.mono B1a.out.size)); rw [S1a.out] at k2 ⊢; have F2a := hidden k2; clear k2 s2 b2 K1a B1a)
    | (refine wpList_storeV rfl rfl _ _ rfl g SV.zero J rfl rfl K2a.out rfl HF1.out.1 ?_; rintro w3a k3 o3; have K3a := hidden k3; have F3a := hidden (F2a.out.only o3 (by omega)); have B3a := hidden (Below.only B2a.out o3 (by rw [HGa.out]; exact Nat.le_refl _)); clear k3 o3 K2a F2a B2a)
    | (refine wpList_storeFa rfl rfl _ _ rfl (g + 1) zFa (faultC 0 0 false 0) rfl rfl F3a.out rfl rfl (by kernel_rfl) ?_; rintro w4a k4 o4; have P8 := hidden (JS.mk1 Q.out HGa.out (Below.only B3a.out o4 (by rw [HGa.out]; omega)) (K3a.out.only o4 (by omega))); clear Q; clear k4 o4 K3a F3a B3a)
    | (refine wpList_loadV rfl _ rfl g J rfl P8.out.k HF1.out.1 ?_)
    | (go_at_call 10; refine (HS2.out s _ P8.out.ja.mem CC.out ao c AB.out).mono ?_; rintro e w8 ⟨rfl, s2, st8⟩; have Q2 := hidden (P8.out.two st8); clear P8 st8 HS2)
    | (refine wpList_allocV rfl rfl ?_; rintro w1b k1 s1 b1; obtain ⟨g2, hg⟩ : ∃ g, w8.heap.size = g := ⟨_, rfl⟩; have B1b := hidden b1; have HGb := hidden hg; rw [hg] at k1 s1 ⊢; have K1b := hidden k1; have S1b := hidden s1; clear k1 s1 b1 hg)
    | (refine wpList_allocFa rfl rfl ?_; rintro w2b k2 s2 b2; have K2b := hidden (K1b.out.later b2); have B2b := hidden (B1b.out.trans (b2.mono B1b.out.size)); rw [S1b.out] at k2 ⊢; have F2b := hidden k2; clear k2 s2 b2 K1b B1b)
    | (refine wpList_storeV rfl rfl _ _ rfl g2 SV.zero J rfl rfl K2b.out rfl HF2.out.1 ?_; rintro w3b k3 o3; have K3b := hidden k3; have F3b := hidden (F2b.out.only o3 (by omega)); have B3b := hidden (Below.only B2b.out o3 (by rw [HGb.out]; exact Nat.le_refl _)); clear k3 o3 K2b F2b B2b)
    | (refine wpList_storeFa rfl rfl _ _ rfl (g2 + 1) zFa (faultC 7 8196 true 0) rfl rfl F3b.out rfl rfl (by kernel_rfl) ?_; rintro w4b k4 o4; have P9 := hidden (JT.mk2 Q2.out (Below.only B3b.out o4 (by rw [HGb.out]; omega)) (K3b.out.only o4 (by omega)) k4); clear Q2; obtain ⟨a31, a34, a35, a36, b34, b35, b36, f0, f1, f2⟩ := P9.out.cells HF1.out HF2.out; have hix : ∀ u, (Instr.indexAt 24 (.pointer (some ⟨g, 0, none⟩)) (.int .i64 31)).run Try.prog u = .ok (.pointer (some ⟨g, 31, none⟩)) u := (fun u => index_reg g 31 (by omega) u); clear k4 o4 K3b F3b B3b)
    | (go_at_call 8; refine (HAW.out _).mono ?_; rintro e w9 ⟨rfl, b9⟩; have B9 := hidden (P9.out.ja.later b9).bel; clear b9))
  go_ret
  exact ⟨rfl, by rw [hn]; exact B9.out⟩
end Go.Proofs.Ytobnocioefchlaa
namespace Go.Proofs.Ytobnocioefchlaa
open Go.ChangeShapes Go.WideShapes Go.ChangeAt Go.RowKit
set_option linter.unusedVariables false
set_option maxRecDepth 20000 in
set_option maxHeartbeats 2500000 in
theorem jumps_jn (tv : Nat) (hto : tv < 4294967296) (W : World) : Calls Try.prog 5 #[.int .u32 (tv : Int), .bool false, .bool false] W fun e w' => e = .returned (.bool true) ∧ Below W.heap.size W w' := by
  obtain ⟨tg, htg, h4, hl⟩ := mask_j tv hto
  obtain ⟨z, hz⟩ : ∃ z : Int, (tv : Int) = z := ⟨_, rfl⟩
  rw [hz] at htg ⊢
  clear hz hto
  obtain ⟨n, hn⟩ : ∃ n, W.heap.size = n := ⟨_, rfl⟩
  obtain ⟨W1, hW1⟩ : ∃ W1, wordK 67 0 0 0 0 tg = W1 := ⟨_, rfl⟩
  have hw1 := (word_j 67 tg (by simp) h4 hl).2
  have HA := hidden (fun u => word00_any 68 67 0 0 0 0 tg rfl (by omega) (by omega) (by omega) (by omega) (by omega) (by omega) hw1 u)
  rw [hW1] at hw1
  rw [hW1] at HA
  obtain ⟨W2, hW2⟩ : ∃ W2, 0 = W2 := ⟨_, rfl⟩
  have hw2 : W2 < 4294967296 := by rw [← hW2]; decide
  have HWS : Hid ([W1, 0] = jmpWs false false tg) := hidden (by rw [← hW1]; rfl)
  subst hW2
  have HCO := hidden (fun (u : World) (g : Nat) (h : Blk u g #[.int .u32 (W1 : Int), .int .u32 0] 23) => code_any [W1, 0] g 2 (by intro x hx; simp at hx; omega) (by simp) u h)
  have HAW := hidden awake11_any
  have HS1 := hidden (jmp_call1 false false tg h4 hl)
  have HS2 := hidden (jmp_call2n false tg hl)
  have HF1 := hidden (jmpS_facts false tg)
  have HF2 := hidden (jmpS2_facts false tg)
  have HBP := hidden (buildPN 8192 8196)
  generalize (stPN 8192 8196).c = C0 at HS1 HBP
  generalize jmpS2 false tg = J2 at HS2 HF2
  generalize jmpS false tg = J at HS1 HS2 HF1
  have HTG := hidden htg
  clear hW1 hw1 hw2 h4 hl htg
  go_enter Try.func5, Try.ntmps5
  go_upto_region 2 with (fail)
  rw [HTG.out]
  clear HTG
  go_wp2_with (first
    | (go_at_call 16; refine (HA.out _).mono ?_; rintro e w4 ⟨rfl, b4⟩; have B4 := hidden ((Below.refl n W).trans (b4.mono (Nat.le_of_eq hn.symm))); have N4 : Hid (n ≤ w4.heap.size) := hidden (Nat.le_trans (Nat.le_of_eq hn.symm) b4.size); clear b4 HA)
    | (go_at_call 17; refine (HCO.out _ _ (Blk.new w4 #[.int .u32 (W1 : Int), .int .u32 0] 23)).mono ?_; rintro e w5 ⟨⟨ao, c, rfl, hr⟩, b5⟩; have b45 := (below_new w4 (.cells #[.int .u32 (W1 : Int), .int .u32 0] 23)).trans (b5.mono (below_new w4 _).size); have B5 := hidden (B4.out.trans (b45.mono N4.out)); have N5 : Hid (n ≤ w5.heap.size) := hidden (Nat.le_trans N4.out b45.size); have ME := hidden (memory_code w5 8192 (by omega) [W1, 0] (by simp) 7 ao c hr); clear b5 b45 B4 hr)
    | (go_at_call 9; refine ME.out.mono ?_; rintro e w6 ⟨s, rfl, ho, habs, hc⟩; have PM := hidden (JA.of B5.out N5.out ho); have AB : Hid (s.abs = memOf [codeP 8192 (jmpWs false false tg) 7 false ao c]) := hidden (by rw [← HWS.out]; exact habs); have CC : Hid (s.c + 4 ≤ 1099511627776) := hidden (by omega); clear ho habs hc B5 ME)
    | (refine wpList_buildJ HBP.out rfl rfl ?_)
    | (go_at_call 10; refine (HS1.out s _ PM.out.mem CC.out ao c AB.out).mono ?_; rintro e w7 ⟨rfl, st7⟩; have Q := hidden (PM.out.step st7); clear PM st7 HS1)
    | (refine wpList_allocV rfl rfl ?_; rintro w1a k1 s1 b1; obtain ⟨g, hg⟩ : ∃ g, w7.heap.size = g := ⟨_, rfl⟩; have B1a := hidden b1; have HGa := hidden hg; rw [hg] at k1 s1 ⊢; have K1a := hidden k1; have S1a := hidden s1; clear k1 s1 b1 hg)
    | (refine wpList_allocFa rfl rfl ?_; rintro w2a k2 s2 b2; have K2a := hidden (K1a.out.later b2); have B2a := hidden (B1a.out.trans (b2.mono B1a.out.size)); rw [S1a.out] at k2 ⊢; have F2a := hidden k2; clear k2 s2 b2 K1a B1a)
    | (refine wpList_storeV rfl rfl _ _ rfl g SV.zero J rfl rfl K2a.out rfl HF1.out.1 ?_; rintro w3a k3 o3; have K3a := hidden k3; have F3a := hidden (F2a.out.only o3 (by omega)); have B3a := hidden (Below.only B2a.out o3 (by rw [HGa.out]; exact Nat.le_refl _)); clear k3 o3 K2a F2a B2a)
    | (refine wpList_storeFa rfl rfl _ _ rfl (g + 1) zFa (faultC 0 0 false 0) rfl rfl F3a.out rfl rfl (by kernel_rfl) ?_; rintro w4a k4 o4; have P8 := hidden (JS.mk1 Q.out HGa.out (Below.only B3a.out o4 (by rw [HGa.out]; omega)) (K3a.out.only o4 (by omega))); clear Q; clear k4 o4 K3a F3a B3a)
    | (refine wpList_loadV rfl _ rfl g J rfl P8.out.k HF1.out.1 ?_)
    | (go_at_call 10; refine (HS2.out s _ P8.out.ja.mem CC.out ao c AB.out).mono ?_; rintro e w8 ⟨rfl, s2, st8⟩; have Q2 := hidden (P8.out.two st8); clear P8 st8 HS2)
    | (refine wpList_allocV rfl rfl ?_; rintro w1b k1 s1 b1; obtain ⟨g2, hg⟩ : ∃ g, w8.heap.size = g := ⟨_, rfl⟩; have B1b := hidden b1; have HGb := hidden hg; rw [hg] at k1 s1 ⊢; have K1b := hidden k1; have S1b := hidden s1; clear k1 s1 b1 hg)
    | (refine wpList_allocFa rfl rfl ?_; rintro w2b k2 s2 b2; have K2b := hidden (K1b.out.later b2); have B2b := hidden (B1b.out.trans (b2.mono B1b.out.size)); rw [S1b.out] at k2 ⊢; have F2b := hidden k2; clear k2 s2 b2 K1b B1b)
    | (refine wpList_storeV rfl rfl _ _ rfl g2 SV.zero J2 rfl rfl K2b.out rfl HF2.out.1 ?_; rintro w3b k3 o3; have K3b := hidden k3; have F3b := hidden (F2b.out.only o3 (by omega)); have B3b := hidden (Below.only B2b.out o3 (by rw [HGb.out]; exact Nat.le_refl _)); clear k3 o3 K2b F2b B2b)
    | (refine wpList_storeFa rfl rfl _ _ rfl (g2 + 1) zFa (faultC 0 0 false 0) rfl rfl F3b.out rfl rfl (by kernel_rfl) ?_; rintro w4b k4 o4; have P9 := hidden (JT.mk2 Q2.out (Below.only B3b.out o4 (by rw [HGb.out]; omega)) (K3b.out.only o4 (by omega)) k4); clear Q2; obtain ⟨a31, a34, a35, a36, b34, b35, b36, f0, f1, f2⟩ := P9.out.cells HF1.out HF2.out; have hix : ∀ u, (Instr.indexAt 24 (.pointer (some ⟨g, 0, none⟩)) (.int .i64 31)).run Try.prog u = .ok (.pointer (some ⟨g, 31, none⟩)) u := (fun u => index_reg g 31 (by omega) u); clear k4 o4 K3b F3b B3b)
    | (go_at_call 8; refine (HAW.out _).mono ?_; rintro e w9 ⟨rfl, b9⟩; have B9 := hidden (P9.out.ja.later b9).bel; clear b9))
  go_ret
  exact ⟨rfl, by rw [hn]; exact B9.out⟩
end Go.Proofs.Ytobnocioefchlaa
namespace Go.Proofs.Ytobnocioefchlaa
open Go.ChangeShapes Go.WideShapes Go.ChangeAt Go.RowKit
set_option linter.unusedVariables false
set_option maxRecDepth 20000 in
set_option maxHeartbeats 2500000 in
theorem jumps_la (tv : Nat) (hto : tv < 4294967296) (W : World) : Calls Try.prog 5 #[.int .u32 (tv : Int), .bool true, .bool true] W fun e w' => e = .returned (.bool true) ∧ Below W.heap.size W w' := by
  obtain ⟨tg, htg, h4, hl⟩ := mask_j tv hto
  obtain ⟨z, hz⟩ : ∃ z : Int, (tv : Int) = z := ⟨_, rfl⟩
  rw [hz] at htg ⊢
  clear hz hto
  obtain ⟨n, hn⟩ : ∃ n, W.heap.size = n := ⟨_, rfl⟩
  obtain ⟨W1, hW1⟩ : ∃ W1, wordK 68 0 0 0 0 tg = W1 := ⟨_, rfl⟩
  have hw1 := (word_j 68 tg (by simp) h4 hl).2
  have HA := hidden (fun u => word00_any 69 68 0 0 0 0 tg rfl (by omega) (by omega) (by omega) (by omega) (by omega) (by omega) hw1 u)
  rw [hW1] at hw1
  rw [hW1] at HA
  obtain ⟨W2, hW2⟩ : ∃ W2, wordK 67 0 0 0 0 0 = W2 := ⟨_, rfl⟩
  have hw2 : W2 < 4294967296 := by rw [← hW2]; decide
  have HB := hidden (fun u => word00_any 68 67 0 0 0 0 0 rfl (by omega) (by omega) (by omega) (by omega) (by omega) (by omega) (show wordK 67 0 0 0 0 0 < 4294967296 by decide) u)
  rw [hW2] at HB
  have HWS : Hid ([W1, W2] = jmpWs true true tg) := hidden (by rw [← hW1, ← hW2]; rfl)
  clear hW2
  have HCO := hidden (fun (u : World) (g : Nat) (h : Blk u g #[.int .u32 (W1 : Int), .int .u32 (W2 : Int)] 23) => code_any [W1, W2] g 2 (by intro x hx; simp at hx; omega) (by simp) u h)
  have HAW := hidden awake11_any
  have HS1 := hidden (jmp_call1 true true tg h4 hl)
  have HS2 := hidden (jmp_call2a true tg hl)
  have HF1 := hidden (jmpS_facts true tg)
  have HF2 := hidden (⟨(jmpS_facts true tg).1, (jmpS_facts true tg).2.2⟩ : (jmpS true tg).R.length = 32 ∧ (jmpS true tg).pc = 8196 ∧ (jmpS true tg).nx = (tg : Int) ∧ (jmpS true tg).sl = true)
  have HBP := hidden (buildPN 8192 8196)
  generalize (stPN 8192 8196).c = C0 at HS1 HBP
  generalize jmpS true tg = J at HS1 HS2 HF1 HF2
  have HTG := hidden htg
  clear hW1 hw1 hw2 h4 hl htg
  go_enter Try.func5, Try.ntmps5
  go_upto_region 2 with (fail)
  rw [HTG.out]
  clear HTG
  go_wp2_with (first
    | (go_at_call 16; refine (HB.out _).mono ?_; rintro e w3 ⟨rfl, b3⟩; rw [hn] at b3; have B3 := hidden b3; have N3 : Hid (n ≤ w3.heap.size) := hidden (by have := b3.size; omega); clear b3 HB)
    | (go_at_call 16; refine (HA.out _).mono ?_; rintro e w4 ⟨rfl, b4⟩; have B4 := hidden (B3.out.trans (b4.mono N3.out)); have N4 : Hid (n ≤ w4.heap.size) := hidden (Nat.le_trans N3.out b4.size); clear b4 HA)
    | (go_at_call 17; refine (HCO.out _ _ (Blk.new w4 #[.int .u32 (W1 : Int), .int .u32 (W2 : Int)] 23)).mono ?_; rintro e w5 ⟨⟨ao, c, rfl, hr⟩, b5⟩; have b45 := (below_new w4 (.cells #[.int .u32 (W1 : Int), .int .u32 (W2 : Int)] 23)).trans (b5.mono (below_new w4 _).size); have B5 := hidden (B4.out.trans (b45.mono N4.out)); have N5 : Hid (n ≤ w5.heap.size) := hidden (Nat.le_trans N4.out b45.size); have ME := hidden (memory_code w5 8192 (by omega) [W1, W2] (by simp) 7 ao c hr); clear b5 b45 B4 hr)
    | (go_at_call 9; refine ME.out.mono ?_; rintro e w6 ⟨s, rfl, ho, habs, hc⟩; have PM := hidden (JA.of B5.out N5.out ho); have AB : Hid (s.abs = memOf [codeP 8192 (jmpWs true true tg) 7 false ao c]) := hidden (by rw [← HWS.out]; exact habs); have CC : Hid (s.c + 4 ≤ 1099511627776) := hidden (by omega); clear ho habs hc B5 ME)
    | (refine wpList_buildJ HBP.out rfl rfl ?_)
    | (go_at_call 10; refine (HS1.out s _ PM.out.mem CC.out ao c AB.out).mono ?_; rintro e w7 ⟨rfl, st7⟩; have Q := hidden (PM.out.step st7); clear PM st7 HS1)
    | (refine wpList_allocV rfl rfl ?_; rintro w1a k1 s1 b1; obtain ⟨g, hg⟩ : ∃ g, w7.heap.size = g := ⟨_, rfl⟩; have B1a := hidden b1; have HGa := hidden hg; rw [hg] at k1 s1 ⊢; have K1a := hidden k1; have S1a := hidden s1; clear k1 s1 b1 hg)
    | (refine wpList_allocFa rfl rfl ?_; rintro w2a k2 s2 b2; have K2a := hidden (K1a.out.later b2); have B2a := hidden (B1a.out.trans (b2.mono B1a.out.size)); rw [S1a.out] at k2 ⊢; have F2a := hidden k2; clear k2 s2 b2 K1a B1a)
    | (refine wpList_storeV rfl rfl _ _ rfl g SV.zero J rfl rfl K2a.out rfl HF1.out.1 ?_; rintro w3a k3 o3; have K3a := hidden k3; have F3a := hidden (F2a.out.only o3 (by omega)); have B3a := hidden (Below.only B2a.out o3 (by rw [HGa.out]; exact Nat.le_refl _)); clear k3 o3 K2a F2a B2a)
    | (refine wpList_storeFa rfl rfl _ _ rfl (g + 1) zFa (faultC 0 0 false 0) rfl rfl F3a.out rfl rfl (by kernel_rfl) ?_; rintro w4a k4 o4; have P8 := hidden (JS.mk1 Q.out HGa.out (Below.only B3a.out o4 (by rw [HGa.out]; omega)) (K3a.out.only o4 (by omega))); clear Q; clear k4 o4 K3a F3a B3a)
    | (refine wpList_loadV rfl _ rfl g J rfl P8.out.k HF1.out.1 ?_)
    | (go_at_call 10; refine (HS2.out s _ P8.out.ja.mem CC.out ao c AB.out).mono ?_; rintro e w8 ⟨rfl, s2, st8⟩; have Q2 := hidden (P8.out.two st8); clear P8 st8 HS2)
    | (refine wpList_allocV rfl rfl ?_; rintro w1b k1 s1 b1; obtain ⟨g2, hg⟩ : ∃ g, w8.heap.size = g := ⟨_, rfl⟩; have B1b := hidden b1; have HGb := hidden hg; rw [hg] at k1 s1 ⊢; have K1b := hidden k1; have S1b := hidden s1; clear k1 s1 b1 hg)
    | (refine wpList_allocFa rfl rfl ?_; rintro w2b k2 s2 b2; have K2b := hidden (K1b.out.later b2); have B2b := hidden (B1b.out.trans (b2.mono B1b.out.size)); rw [S1b.out] at k2 ⊢; have F2b := hidden k2; clear k2 s2 b2 K1b B1b)
    | (refine wpList_storeV rfl rfl _ _ rfl g2 SV.zero J rfl rfl K2b.out rfl HF2.out.1 ?_; rintro w3b k3 o3; have K3b := hidden k3; have F3b := hidden (F2b.out.only o3 (by omega)); have B3b := hidden (Below.only B2b.out o3 (by rw [HGb.out]; exact Nat.le_refl _)); clear k3 o3 K2b F2b B2b)
    | (refine wpList_storeFa rfl rfl _ _ rfl (g2 + 1) zFa (faultC 7 8196 true 0) rfl rfl F3b.out rfl rfl (by kernel_rfl) ?_; rintro w4b k4 o4; have P9 := hidden (JT.mk2 Q2.out (Below.only B3b.out o4 (by rw [HGb.out]; omega)) (K3b.out.only o4 (by omega)) k4); clear Q2; obtain ⟨a31, a34, a35, a36, b34, b35, b36, f0, f1, f2⟩ := P9.out.cells HF1.out HF2.out; have hix : ∀ u, (Instr.indexAt 24 (.pointer (some ⟨g, 0, none⟩)) (.int .i64 31)).run Try.prog u = .ok (.pointer (some ⟨g, 31, none⟩)) u := (fun u => index_reg g 31 (by omega) u); clear k4 o4 K3b F3b B3b)
    | (go_at_call 8; refine (HAW.out _).mono ?_; rintro e w9 ⟨rfl, b9⟩; have B9 := hidden (P9.out.ja.later b9).bel; clear b9))
  go_ret
  exact ⟨rfl, by rw [hn]; exact B9.out⟩
end Go.Proofs.Ytobnocioefchlaa
namespace Go.Proofs.Ytobnocioefchlaa
open Go.ChangeShapes Go.WideShapes Go.ChangeAt Go.RowKit
set_option linter.unusedVariables false
set_option maxRecDepth 20000 in
set_option maxHeartbeats 2500000 in
theorem jumps_ln (tv : Nat) (hto : tv < 4294967296) (W : World) : Calls Try.prog 5 #[.int .u32 (tv : Int), .bool true, .bool false] W fun e w' => e = .returned (.bool true) ∧ Below W.heap.size W w' := by
  obtain ⟨tg, htg, h4, hl⟩ := mask_j tv hto
  obtain ⟨z, hz⟩ : ∃ z : Int, (tv : Int) = z := ⟨_, rfl⟩
  rw [hz] at htg ⊢
  clear hz hto
  obtain ⟨n, hn⟩ : ∃ n, W.heap.size = n := ⟨_, rfl⟩
  obtain ⟨W1, hW1⟩ : ∃ W1, wordK 68 0 0 0 0 tg = W1 := ⟨_, rfl⟩
  have hw1 := (word_j 68 tg (by simp) h4 hl).2
  have HA := hidden (fun u => word00_any 69 68 0 0 0 0 tg rfl (by omega) (by omega) (by omega) (by omega) (by omega) (by omega) hw1 u)
  rw [hW1] at hw1
  rw [hW1] at HA
  obtain ⟨W2, hW2⟩ : ∃ W2, 0 = W2 := ⟨_, rfl⟩
  have hw2 : W2 < 4294967296 := by rw [← hW2]; decide
  have HWS : Hid ([W1, 0] = jmpWs true false tg) := hidden (by rw [← hW1]; rfl)
  subst hW2
  have HCO := hidden (fun (u : World) (g : Nat) (h : Blk u g #[.int .u32 (W1 : Int), .int .u32 0] 23) => code_any [W1, 0] g 2 (by intro x hx; simp at hx; omega) (by simp) u h)
  have HAW := hidden awake11_any
  have HS1 := hidden (jmp_call1 true false tg h4 hl)
  have HS2 := hidden (jmp_call2n true tg hl)
  have HF1 := hidden (jmpS_facts true tg)
  have HF2 := hidden (jmpS2_facts true tg)
  have HBP := hidden (buildPN 8192 8196)
  generalize (stPN 8192 8196).c = C0 at HS1 HBP
  generalize jmpS2 true tg = J2 at HS2 HF2
  generalize jmpS true tg = J at HS1 HS2 HF1
  have HTG := hidden htg
  clear hW1 hw1 hw2 h4 hl htg
  go_enter Try.func5, Try.ntmps5
  go_upto_region 2 with (fail)
  rw [HTG.out]
  clear HTG
  go_wp2_with (first
    | (go_at_call 16; refine (HA.out _).mono ?_; rintro e w4 ⟨rfl, b4⟩; have B4 := hidden ((Below.refl n W).trans (b4.mono (Nat.le_of_eq hn.symm))); have N4 : Hid (n ≤ w4.heap.size) := hidden (Nat.le_trans (Nat.le_of_eq hn.symm) b4.size); clear b4 HA)
    | (go_at_call 17; refine (HCO.out _ _ (Blk.new w4 #[.int .u32 (W1 : Int), .int .u32 0] 23)).mono ?_; rintro e w5 ⟨⟨ao, c, rfl, hr⟩, b5⟩; have b45 := (below_new w4 (.cells #[.int .u32 (W1 : Int), .int .u32 0] 23)).trans (b5.mono (below_new w4 _).size); have B5 := hidden (B4.out.trans (b45.mono N4.out)); have N5 : Hid (n ≤ w5.heap.size) := hidden (Nat.le_trans N4.out b45.size); have ME := hidden (memory_code w5 8192 (by omega) [W1, 0] (by simp) 7 ao c hr); clear b5 b45 B4 hr)
    | (go_at_call 9; refine ME.out.mono ?_; rintro e w6 ⟨s, rfl, ho, habs, hc⟩; have PM := hidden (JA.of B5.out N5.out ho); have AB : Hid (s.abs = memOf [codeP 8192 (jmpWs true false tg) 7 false ao c]) := hidden (by rw [← HWS.out]; exact habs); have CC : Hid (s.c + 4 ≤ 1099511627776) := hidden (by omega); clear ho habs hc B5 ME)
    | (refine wpList_buildJ HBP.out rfl rfl ?_)
    | (go_at_call 10; refine (HS1.out s _ PM.out.mem CC.out ao c AB.out).mono ?_; rintro e w7 ⟨rfl, st7⟩; have Q := hidden (PM.out.step st7); clear PM st7 HS1)
    | (refine wpList_allocV rfl rfl ?_; rintro w1a k1 s1 b1; obtain ⟨g, hg⟩ : ∃ g, w7.heap.size = g := ⟨_, rfl⟩; have B1a := hidden b1; have HGa := hidden hg; rw [hg] at k1 s1 ⊢; have K1a := hidden k1; have S1a := hidden s1; clear k1 s1 b1 hg)
    | (refine wpList_allocFa rfl rfl ?_; rintro w2a k2 s2 b2; have K2a := hidden (K1a.out.later b2); have B2a := hidden (B1a.out.trans (b2.mono B1a.out.size)); rw [S1a.out] at k2 ⊢; have F2a := hidden k2; clear k2 s2 b2 K1a B1a)
    | (refine wpList_storeV rfl rfl _ _ rfl g SV.zero J rfl rfl K2a.out rfl HF1.out.1 ?_; rintro w3a k3 o3; have K3a := hidden k3; have F3a := hidden (F2a.out.only o3 (by omega)); have B3a := hidden (Below.only B2a.out o3 (by rw [HGa.out]; exact Nat.le_refl _)); clear k3 o3 K2a F2a B2a)
    | (refine wpList_storeFa rfl rfl _ _ rfl (g + 1) zFa (faultC 0 0 false 0) rfl rfl F3a.out rfl rfl (by kernel_rfl) ?_; rintro w4a k4 o4; have P8 := hidden (JS.mk1 Q.out HGa.out (Below.only B3a.out o4 (by rw [HGa.out]; omega)) (K3a.out.only o4 (by omega))); clear Q; clear k4 o4 K3a F3a B3a)
    | (refine wpList_loadV rfl _ rfl g J rfl P8.out.k HF1.out.1 ?_)
    | (go_at_call 10; refine (HS2.out s _ P8.out.ja.mem CC.out ao c AB.out).mono ?_; rintro e w8 ⟨rfl, s2, st8⟩; have Q2 := hidden (P8.out.two st8); clear P8 st8 HS2)
    | (refine wpList_allocV rfl rfl ?_; rintro w1b k1 s1 b1; obtain ⟨g2, hg⟩ : ∃ g, w8.heap.size = g := ⟨_, rfl⟩; have B1b := hidden b1; have HGb := hidden hg; rw [hg] at k1 s1 ⊢; have K1b := hidden k1; have S1b := hidden s1; clear k1 s1 b1 hg)
    | (refine wpList_allocFa rfl rfl ?_; rintro w2b k2 s2 b2; have K2b := hidden (K1b.out.later b2); have B2b := hidden (B1b.out.trans (b2.mono B1b.out.size)); rw [S1b.out] at k2 ⊢; have F2b := hidden k2; clear k2 s2 b2 K1b B1b)
    | (refine wpList_storeV rfl rfl _ _ rfl g2 SV.zero J2 rfl rfl K2b.out rfl HF2.out.1 ?_; rintro w3b k3 o3; have K3b := hidden k3; have F3b := hidden (F2b.out.only o3 (by omega)); have B3b := hidden (Below.only B2b.out o3 (by rw [HGb.out]; exact Nat.le_refl _)); clear k3 o3 K2b F2b B2b)
    | (refine wpList_storeFa rfl rfl _ _ rfl (g2 + 1) zFa (faultC 0 0 false 0) rfl rfl F3b.out rfl rfl (by kernel_rfl) ?_; rintro w4b k4 o4; have P9 := hidden (JT.mk2 Q2.out (Below.only B3b.out o4 (by rw [HGb.out]; omega)) (K3b.out.only o4 (by omega)) k4); clear Q2; obtain ⟨a31, a34, a35, a36, b34, b35, b36, f0, f1, f2⟩ := P9.out.cells HF1.out HF2.out; have hix : ∀ u, (Instr.indexAt 24 (.pointer (some ⟨g, 0, none⟩)) (.int .i64 31)).run Try.prog u = .ok (.pointer (some ⟨g, 31, none⟩)) u := (fun u => index_reg g 31 (by omega) u); clear k4 o4 K3b F3b B3b)
    | (go_at_call 8; refine (HAW.out _).mono ?_; rintro e w9 ⟨rfl, b9⟩; have B9 := hidden (P9.out.ja.later b9).bel; clear b9))
  go_ret
  exact ⟨rfl, by rw [hn]; exact B9.out⟩
end Go.Proofs.Ytobnocioefchlaa
namespace Go.Proofs.Ytobnocioefchlaa
open Go.ChangeShapes Go.WideShapes Go.ChangeAt Go.RowKit
theorem jumps_walk (W : World) (tv : Int) (h0 : 0 ≤ tv) (h1 : tv < 4294967296) (link again : Bool) : Calls Try.prog 5 #[.int .u32 tv, .bool link, .bool again] W fun e w' => e = .returned (.bool true) ∧ Below W.heap.size W w' := by
  obtain ⟨k, rfl⟩ := Int.eq_ofNat_of_zero_le h0
  cases link <;> cases again
  · exact jumps_jn k (by omega) W
  · exact jumps_ja k (by omega) W
  · exact jumps_ln k (by omega) W
  · exact jumps_la k (by omega) W
end Go.Proofs.Ytobnocioefchlaa

/- A jump and its slot, plain. -/
import Derived.Test.YtobnocioefchlaaPAwA
namespace Go.Proofs.Ytobnocioefchlaa
open Go.ChangeShapes Go.WideShapes Go.ChangeAt Go.RowKit
set_option linter.unusedVariables false
theorem word_j (k tg : Nat) (hk : k = 67 ∨ k = 68) (h4 : tg % 4 = 0) (hl : tg < 268435456) : wordK k 0 0 0 0 tg = mkJ (k - 65) (tg / 4) ∧ wordK k 0 0 0 0 tg < 4294967296 := by
  rcases hk with rfl | rfl
  · have e : wordK 67 0 0 0 0 tg = 2 * 67108864 + tg / 4 % 67108864 := rfl
    refine ⟨?_, by rw [e]; omega⟩
    rw [e]
    show _ = 2 * 67108864 + tg / 4
    omega
  · have e : wordK 68 0 0 0 0 tg = 3 * 67108864 + tg / 4 % 67108864 := rfl
    refine ⟨?_, by rw [e]; omega⟩
    rw [e]
    show _ = 3 * 67108864 + tg / 4
    omega
theorem ins_j (k tg : Nat) (hk : k = 67 ∨ k = 68) (h4 : tg % 4 = 0) (hl : tg < 268435456) : insR (wordK k 0 0 0 0 tg) = ⟨k + 1, ⟨0, 0, 0, 0, tg⟩⟩ := by
  rw [(word_j k tg hk h4 hl).1]
  rcases hk with rfl | rfl
  · rw [dec_74 (k := 67) (p := 68) (o := 2) (f := 0) (by omega) rfl (by omega) (by omega), show tg / 4 * 4 = tg by omega]
  · rw [dec_74 (k := 68) (p := 69) (o := 3) (f := 0) (by omega) rfl (by omega) (by omega), show tg / 4 * 4 = tg by omega]
theorem ins_nop : insR 0 = ⟨16, ⟨0, 0, 0, 0, 0⟩⟩ := by
  rw [show (0 : Nat) = mkW 0 0 0 0 0 0 from rfl]
  exact dec_72 (k := 15) (by omega) rfl (by omega) (by omega) (by omega) (by omega) (by omega)
/-- The state behind the jump. -/
def jmpS (link : Bool) (tg : Nat) : SV := { stPN 8196 tg with R := if link then (List.replicate 32 0).set 31 8200 else List.replicate 32 0, sl := true }
theorem zz0 : (0 : Int) ≤ 0 ∧ (0 : Int) < 4294967296 := by decide
theorem zz1 : (0 : Int) ≤ 8196 ∧ (8196 : Int) < 4294967296 := by decide
theorem jmpS_ok (link : Bool) (tg : Nat) (hl : tg < 268435456) : (jmpS link tg).ok := by
  cases link with
  | false => exact ⟨rfl, (show ∀ k, k < 32 → 0 ≤ (List.replicate 32 (0 : Int)).getD k 0 ∧ (List.replicate 32 (0 : Int)).getD k 0 < 4294967296 by decide), zz0, zz0, zz1, ⟨by show (0 : Int) ≤ (tg : Int); omega, by show (tg : Int) < 4294967296; omega⟩⟩
  | true => exact ⟨rfl, (show ∀ k, k < 32 → 0 ≤ ((List.replicate 32 (0 : Int)).set 31 8200).getD k 0 ∧ ((List.replicate 32 (0 : Int)).set 31 8200).getD k 0 < 4294967296 by decide), zz0, zz0, zz1, ⟨by show (0 : Int) ≤ (tg : Int); omega, by show (tg : Int) < 4294967296; omega⟩⟩
theorem pn_ok (pc nx : Int) (h1 : 0 ≤ pc) (h2 : pc < 4294967296) (h3 : 0 ≤ nx) (h4 : nx < 4294967296) : (stPN pc nx).ok := ⟨rfl, (show ∀ k, k < 32 → 0 ≤ (List.replicate 32 (0 : Int)).getD k 0 ∧ (List.replicate 32 (0 : Int)).getD k 0 < 4294967296 by decide), zz0, zz0, ⟨h1, h2⟩, ⟨h3, h4⟩⟩
theorem or_zero (x : Nat) (hx : x < 4294967296) : bits .or .u32 0 (x : Int) = (x : Int) := by
  have h := u32_or 0 (x : Int) (by omega) (by omega) (by omega) (by omega)
  rw [h]
  simp
theorem targ_j (k tg : Nat) (hk : k = 67 ∨ k = 68) (hl : tg < 268435456) (x : Int) : targP ((k + 1 : Nat) : Int) (tg : Int) 8196 x = (tg : Int) := by
  unfold targP
  rw [if_neg (by omega), if_pos (by omega), show bits .and .u32 8196 4026531840 = 0 by decide]
  exact or_zero tg (by omega)
def jmpK (link : Bool) : Nat := if link then 68 else 67
theorem jmpK_or (link : Bool) : jmpK link = 67 ∨ jmpK link = 68 := by cases link <;> simp [jmpK]
def secW (again : Bool) : Nat := if again then wordK 67 0 0 0 0 0 else 0
def jmpWs (link again : Bool) (tg : Nat) : List Nat := [wordK (jmpK link) 0 0 0 0 tg, secW again]
theorem jmp_one {s : MS} {ao : Option Addr} {c : Nat} {link again : Bool} {tg : Nat} (h4 : tg % 4 = 0) (hl : tg < 268435456) (h : s.abs = memOf [codeP 8192 (jmpWs link again tg) 7 false ao c]) : stepP s (stPN 8192 8196) = wentO (jmpS link tg) 0 ∧ stepL s (stPN 8192 8196) = [] := by
  have hf := fetch_code (p := codeP 8192 (jmpWs link again tg) 7 false ao c) h rfl (show bits .and .i64 ((7 : Int) % 8) 1 ≠ 0 by decide) (show (8192 : Nat) % 4 = 0 from rfl) (show 8192 + 4 * 2 ≤ 4294967296 by decide) 0 (show 0 < 2 by decide) (show wordK (jmpK link) 0 0 0 0 tg < 4294967296 from (word_j _ tg (jmpK_or link) h4 hl).2)
  have hs := stepP_at (v := stPN 8192 8196) hf (ins_j _ tg (jmpK_or link) h4 hl)
  have hw := wrongP_jump s (op := jmpK link + 1) (by rcases jmpK_or link with e | e <;> rw [e] <;> simp) (tg : Int) ((stPN 8192 8196).reg 0) ((stPN 8192 8196).reg 0) (adrP (stPN 8192 8196) ⟨jmpK link + 1, ⟨0, 0, 0, 0, tg⟩⟩)
  have hi : insP s (stPN 8192 8196) ⟨jmpK link + 1, ⟨0, 0, 0, 0, tg⟩⟩ = wentO (jmpS link tg) 0 := by
    rw [insP_went (by
      show (wrongP s false ((jmpK link + 1 : Nat) : Int) (tg : Int) _ _ _).1 = 0
      rw [hw]) (show jmpK link + 1 ≠ 35 by rcases jmpK_or link with e | e <;> rw [e] <;> decide)]
    refine congrArg (fun st => wentO st 0) ?_
    cases link with
    | false =>
      refine (doP_j68t s (stPN 8192 8196) 68 (tg : Int) 0 0 0 _ _ rfl rfl).trans ?_
      have ht := targ_j 67 tg (.inl rfl) hl 0
      show SV.mk _ 0 0 8196 (targP 68 (tg : Int) 8196 0) true = _
      rw [show targP 68 (tg : Int) 8196 0 = (tg : Int) from ht]
      rfl
    | true =>
      refine (doP_l69t s (stPN 8192 8196) 69 (tg : Int) 0 0 0 31 _ rfl rfl).trans ?_
      have ht := targ_j 68 tg (.inr rfl) hl 0
      show SV.mk _ 0 0 8196 (targP 69 (tg : Int) 8196 0) true = _
      rw [show targP 69 (tg : Int) 8196 0 = (tg : Int) from ht]
      rfl
  rw [hs.1, hs.2]
  refine ⟨hi, ?_⟩
  unfold insL
  simp only
  rw [hi]
  have := storeL_none (op := ((jmpK link + 1 : Nat) : Int)) (by rcases jmpK_or link with e | e <;> rw [e] <;> decide)
  exact (if_pos (show (0 : Int) = 0 from rfl)).trans (this _ _)
theorem jmp_two {s : MS} {ao : Option Addr} {c : Nat} {link again : Bool} {tg : Nat} (h : s.abs = memOf [codeP 8192 (jmpWs link again tg) 7 false ao c]) : stepP s (jmpS link tg) = if again then stopO (jmpS link tg) 7 0 else wentO { jmpS link tg with pc := tg, nx := ((tg : Int) + 4) % 4294967296, sl := false } 0 := by
  have hsw : secW again < 4294967296 := by cases again <;> decide
  have hf := fetch_code (p := codeP 8192 (jmpWs link again tg) 7 false ao c) h rfl (show bits .and .i64 ((7 : Int) % 8) 1 ≠ 0 by decide) (show (8192 : Nat) % 4 = 0 from rfl) (show 8192 + 4 * 2 ≤ 4294967296 by decide) 1 (show 1 < 2 by decide) (show secW again < 4294967296 from hsw)
  cases again with
  | true =>
    have hs := stepP_at (v := jmpS link tg) hf (show insR (wordK 67 0 0 0 0 0) = _ from ins_j 67 0 (.inl rfl) rfl (by decide))
    rw [hs.1, if_pos rfl]
    have hw := wrongP_slot s (op := 68) (by simp) 0 ((jmpS link tg).reg 0) ((jmpS link tg).reg 0) (adrP (jmpS link tg) ⟨68, ⟨0, 0, 0, 0, 0⟩⟩)
    rw [insP_stop (by
      show (wrongP s true ((68 : Nat) : Int) ((0 : Nat) : Int) _ _ _).1 ≠ 0
      intro e
      have e2 : (wrongP s true ((68 : Nat) : Int) 0 ((jmpS link tg).reg 0) ((jmpS link tg).reg 0) (adrP (jmpS link tg) ⟨68, ⟨0, 0, 0, 0, 0⟩⟩)).1 = 0 := e
      rw [hw] at e2
      exact absurd e2 (by decide))]
    show stopO _ (wrongP s true ((68 : Nat) : Int) 0 ((jmpS link tg).reg 0) ((jmpS link tg).reg 0) (adrP (jmpS link tg) ⟨68, ⟨0, 0, 0, 0, 0⟩⟩)).1 (wrongP s true ((68 : Nat) : Int) 0 ((jmpS link tg).reg 0) ((jmpS link tg).reg 0) (adrP (jmpS link tg) ⟨68, ⟨0, 0, 0, 0, 0⟩⟩)).2 = _
    rw [hw]
  | false =>
    have hs := stepP_at (v := jmpS link tg) hf (show insR 0 = _ from ins_nop)
    rw [hs.1, if_neg (by decide)]
    have hw : wrongP s true ((16 : Nat) : Int) 0 0 0 (adrP (jmpS link tg) ⟨16, ⟨0, 0, 0, 0, 0⟩⟩) = (0, 0) := by
      have hk := kind_in (k := 15) (by omega)
      unfold wrongP
      rw [if_neg (by
        rintro (e | e)
        · exact hk.1 e
        · exact absurd (hk.2.1 e.1) (by decide)), if_neg (by decide), show trapB ((16 : Nat) : Int) 0 0 0 = false from rfl, if_neg (by decide), if_pos (faultK_out (by decide) _)]
    rw [insP_went (by
      show (wrongP s true ((16 : Nat) : Int) 0 0 0 (adrP (jmpS link tg) ⟨16, ⟨0, 0, 0, 0, 0⟩⟩)).1 = 0
      rw [hw]) (by decide)]
    refine congrArg (fun st => wentO st 0) ?_
    refine (doP_pot s (jmpS link tg) 16 0 0 0 0 0 _ rfl rfl rfl rfl rfl rfl rfl rfl rfl rfl rfl rfl rfl rfl rfl rfl rfl rfl rfl rfl rfl rfl rfl rfl rfl rfl rfl rfl 0 (by decide) rfl).trans ?_
    cases link <;> rfl
end Go.Proofs.Ytobnocioefchlaa
namespace Go.Proofs.Ytobnocioefchlaa
open Go.ChangeShapes Go.WideShapes Go.ChangeAt Go.RowKit
set_option linter.unusedVariables false
/-- The world of two steps: a memory of the call's own. -/
structure JA (W : World) (n : Nat) (s : MS) (wr : World) : Prop where
  bel : Below n W wr
  mem : MemW wr s
  low : ∀ b, foot s b → n ≤ b
  sz : n ≤ wr.heap.size
theorem JA.later {W : World} {n : Nat} {s : MS} {wr w' : World} (h : JA W n s wr) (hb : Below wr.heap.size wr w') : JA W n s w' := ⟨h.bel.trans (hb.mono h.sz), h.mem.later hb, h.low, Nat.le_trans h.sz hb.size⟩
theorem JA.free {W : World} {n g : Nat} {s : MS} {wr : World} (h : JA W n s wr) (hg : wr.heap.size = g) : n ≤ g ∧ ¬ foot s g := ⟨by rw [← hg]; exact h.sz, fun hf => by have := h.mem.lt hf; omega⟩
theorem JA.only {W : World} {n g : Nat} {s : MS} {wr w' : World} (h : JA W n s wr) (ho : Only g wr w') (hg : n ≤ g) (hf : ¬ foot s g) : JA W n s w' := ⟨Below.only h.bel ho hg, h.mem.same fun b hb => ho.block b (fun e => hf (e ▸ hb)), h.low, by rw [ho.size]; exact h.sz⟩
theorem JA.step {W : World} {n : Nat} {s s' : MS} {wr w' : World} (h : JA W n s wr) (st : Step wr s w' s') : JA W n s' w' := ⟨h.bel.trans (st.below h.sz h.low).1, st.mem, (st.below h.sz h.low).2, Nat.le_trans h.sz st.keep.size⟩
theorem JA.of {W w5 w6 : World} {n : Nat} {s : MS} (hb : Below n W w5) (hn : n ≤ w5.heap.size) (ho : Own w5 w6 s) : JA W n s w6 := ⟨hb.trans (ho.below.mono hn), ho.mem, fun b h => Nat.le_trans hn (ho.foot b h), Nat.le_trans hn ho.below.size⟩
theorem mask_j (x : Nat) (hx : x < 4294967296) : ∃ tg : Nat, bits .and .u32 (x : Int) 268435452 = (tg : Int) ∧ tg % 4 = 0 ∧ tg < 268435456 := by
  refine ⟨x &&& 268435452, u32_and_nat x 268435452 hx (by omega), ?_, ?_⟩
  · rw [show (4 : Nat) = 2 ^ 2 from rfl, Nat.and_mod_two_pow, show 268435452 % 2 ^ 2 = 0 from rfl, Nat.and_zero]
  · have := Nat.and_le_right (n := x) (m := 268435452)
    omega
/-- The world behind the first step: its answers lie in blocks g and g + 1. -/
structure JS (W : World) (n g : Nat) (st : SV) (s : MS) (wr : World) : Prop where
  ja : JA W n s wr
  k : Blk wr g st.c 26
  far : ¬ foot s g
theorem JS.mk1 {W w' : World} {n g : Nat} {st : SV} {s : MS} {wr : World} (h : JA W n s wr) (hg : wr.heap.size = g) (hb : Below wr.heap.size wr w') (h1 : Blk w' g st.c 26) : JS W n g st s w' := ⟨h.later hb, h1, (h.free hg).2⟩
/-- The world behind the second step: both states and the fault. -/
structure JT (W : World) (n g g2 : Nat) (st st2 : SV) (fc : Array Value) (s : MS) (wr : World) : Prop where
  ja : JA W n s wr
  k : Blk wr g st.c 26
  k2 : Blk wr g2 st2.c 26
  f : Blk wr (g2 + 1) fc 32
theorem JS.two {W w' : World} {n g : Nat} {st : SV} {s s' : MS} {wr : World} (h : JS W n g st s wr) (hs : Step wr s w' s') : JA W n s' w' ∧ Blk w' g st.c 26 := ⟨h.ja.step hs, (hs.keep.block g h.k.lt h.far).trans h.k⟩
theorem JT.mk2 {W w' : World} {n g g2 : Nat} {st st2 : SV} {fc : Array Value} {s : MS} {wr : World} (h : JA W n s wr ∧ Blk wr g st.c 26) (hb : Below wr.heap.size wr w') (h1 : Blk w' g2 st2.c 26) (h2 : Blk w' (g2 + 1) fc 32) : JT W n g g2 st st2 fc s w' := ⟨h.1.later hb, h.2.later hb, h1, h2⟩
structure JC (g g2 : Nat) (r p x : Int) (sl : Bool) (p2 x2 : Int) (sl2 : Bool) (k kp : Int) (ks : Bool) (wr : World) : Prop where
  a31 : wr.cell? ⟨g, 31, none⟩ = some (.int .u32 r)
  a34 : wr.cell? ⟨g, 34, none⟩ = some (.int .u32 p)
  a35 : wr.cell? ⟨g, 35, none⟩ = some (.int .u32 x)
  a36 : wr.cell? ⟨g, 36, none⟩ = some (.bool sl)
  b34 : wr.cell? ⟨g2, 34, none⟩ = some (.int .u32 p2)
  b35 : wr.cell? ⟨g2, 35, none⟩ = some (.int .u32 x2)
  b36 : wr.cell? ⟨g2, 36, none⟩ = some (.bool sl2)
  f0 : wr.cell? ⟨g2 + 1, 0, none⟩ = some (.int .i64 k)
  f1 : wr.cell? ⟨g2 + 1, 1, none⟩ = some (.int .u32 kp)
  f2 : wr.cell? ⟨g2 + 1, 2, none⟩ = some (.bool ks)
theorem JT.cells {W : World} {n g g2 : Nat} {st st2 : SV} {k kp kb : Int} {ks : Bool} {s : MS} {wr : World} (h : JT W n g g2 st st2 (faultC k kp ks kb) s wr) {r p x p2 x2 : Int} {sl sl2 : Bool} (h1 : st.R.length = 32 ∧ st.R.getD 31 0 = r ∧ st.pc = p ∧ st.nx = x ∧ st.sl = sl) (h2 : st2.R.length = 32 ∧ st2.pc = p2 ∧ st2.nx = x2 ∧ st2.sl = sl2) : JC g g2 r p x sl p2 x2 sl2 k kp ks wr := by
  obtain ⟨l1, rfl, rfl, rfl, rfl⟩ := h1
  obtain ⟨l2, rfl, rfl, rfl⟩ := h2
  obtain ⟨q1, q2, q3, q4⟩ := st_cells h.k l1
  obtain ⟨r1, r2, r3, r4⟩ := st_cells h.k2 l2
  exact ⟨q1, q2, q3, q4, r2, r3, r4, h.f.cell rfl, h.f.cell rfl, h.f.cell rfl⟩
/-- The first step, as the walk takes it. -/
theorem jmp_call1 (link again : Bool) (tg : Nat) (h4 : tg % 4 = 0) (hl : tg < 268435456) (s : MS) (u : World) (hm : MemW u s) (hc : s.c + 4 ≤ 1099511627776) (ao : Option Addr) (c : Nat) (ha : s.abs = memOf [codeP 8192 (jmpWs link again tg) 7 false ao c]) : Calls Try.prog 10 #[.pointer (some ⟨s.mb, 0, none⟩), .agg (stPN 8192 8196).c] u fun e w' => e = .returned (.tuple #[.agg (jmpS link tg).c, .int .i64 0, .agg (faultC 0 0 false 0)]) ∧ Step u s w' s := by
  have h := jmp_one h4 hl ha
  refine (step_went hm (pn_ok 8192 8196 (by decide) (by decide) (by decide) (by decide)) hc h.1).mono ?_
  rintro e w' ⟨he, s', hp, st⟩
  rw [h.2] at hp
  obtain rfl : s' = s := hp
  exact ⟨he, st⟩
/-- The second step, into a second jump. -/
theorem jmp_call2a (link : Bool) (tg : Nat) (hl : tg < 268435456) (s : MS) (u : World) (hm : MemW u s) (hc : s.c + 4 ≤ 1099511627776) (ao : Option Addr) (c : Nat) (ha : s.abs = memOf [codeP 8192 (jmpWs link true tg) 7 false ao c]) : Calls Try.prog 10 #[.pointer (some ⟨s.mb, 0, none⟩), .agg (jmpS link tg).c] u fun e w' => e = .returned (.tuple #[.agg (jmpS link tg).c, .int .i64 2, .agg (faultC 7 8196 true 0)]) ∧ ∃ s', Step u s w' s' := by
  refine (step_stop hm (jmpS_ok link tg hl) hc ((jmp_two ha).trans (if_pos rfl))).mono ?_
  rintro e w' ⟨he, s', hp, st⟩
  exact ⟨he, s', st⟩
/-- The second step, a plain one. -/
def jmpS2 (link : Bool) (tg : Nat) : SV := { jmpS link tg with pc := tg, nx := ((tg : Int) + 4) % 4294967296, sl := false }
theorem jmp_call2n (link : Bool) (tg : Nat) (hl : tg < 268435456) (s : MS) (u : World) (hm : MemW u s) (hc : s.c + 4 ≤ 1099511627776) (ao : Option Addr) (c : Nat) (ha : s.abs = memOf [codeP 8192 (jmpWs link false tg) 7 false ao c]) : Calls Try.prog 10 #[.pointer (some ⟨s.mb, 0, none⟩), .agg (jmpS link tg).c] u fun e w' => e = .returned (.tuple #[.agg (jmpS2 link tg).c, .int .i64 0, .agg (faultC 0 0 false 0)]) ∧ ∃ s', Step u s w' s' := by
  refine (step_went hm (jmpS_ok link tg hl) hc ((jmp_two ha).trans (if_neg (by decide)))).mono ?_
  rintro e w' ⟨he, s', hp, st⟩
  exact ⟨he, s', st⟩
theorem wpList_buildJ {ops : Array Oper} {rest : List Oper} {o : Oper} {a : Act} {w : World} {Q : Exit → Act → World → Prop} {C0 : Array Value} {p x : Int} (hb : ∀ u, (Instr.build 26 #[(3, .int .u32 p), (4, .int .u32 x)]).run Try.prog u = .ok (.agg C0) u) (hgd : o.guard = none) (ho : o.op = .build 26 #[(3, .const (.int .u32 p)), (4, .const (.int .u32 x))]) (h : wpList Try.prog ops Q rest (a.put o.dst (.agg C0)) w) : wpList Try.prog ops Q (o :: rest) a w :=
  wpList_buildG hgd 26 _ ho #[(3, .int .u32 p), (4, .int .u32 x)] (by kernel_rfl) C0 (hb w) h
theorem jmpS_facts (link : Bool) (tg : Nat) : (jmpS link tg).R.length = 32 ∧ (jmpS link tg).R.getD 31 0 = (if link then 8200 else 0) ∧ (jmpS link tg).pc = 8196 ∧ (jmpS link tg).nx = (tg : Int) ∧ (jmpS link tg).sl = true := by
  cases link <;> exact ⟨rfl, rfl, rfl, rfl, rfl⟩
theorem jmpS2_facts (link : Bool) (tg : Nat) : (jmpS2 link tg).R.length = 32 ∧ (jmpS2 link tg).pc = (tg : Int) ∧ (jmpS2 link tg).nx = ((tg : Int) + 4) % 4294967296 ∧ (jmpS2 link tg).sl = false := by
  cases link <;> exact ⟨rfl, rfl, rfl, rfl⟩
end Go.Proofs.Ytobnocioefchlaa
namespace Go.Proofs.Ytobnocioefchlaa
open Go.ChangeShapes Go.WideShapes Go.ChangeAt Go.RowKit
set_option linter.unusedVariables false
theorem ins_l66 : insR (wordK 65 5 0 0 0 64) = ⟨66, ⟨5, 0, 0, 0, 64⟩⟩ := by kernel_rfl
theorem ins_l67 : insR (wordK 66 5 0 0 0 64) = ⟨67, ⟨5, 0, 0, 0, 64⟩⟩ := by kernel_rfl
theorem word_l28 (r : Nat) (hr : r < 32) : wordK 27 5 0 r 0 0 = mkW 0 5 0 r 0 9 := by
  show wordN 71 0 9 5 0 r 0 0 = _
  simp [wordN, mkW]
theorem ins_l28 (r : Nat) (hr : r < 32) : insR (wordK 27 5 0 r 0 0) = ⟨28, ⟨5, 0, r, 0, 0⟩⟩ := by
  rw [word_l28 r hr]
  exact dec_71 (k := 27) (by omega) rfl (by omega) (by omega) (by omega) hr
/-- The state that comes in. -/
def lkV (x : Int) : SV := { stPN 1024 1028 with R := (stPN 1024 1028).R.set 5 x }
theorem lkV_ok (x : Int) (h0 : 0 ≤ x) (h1 : x < 4294967296) : (lkV x).ok := SV.ok_set (v := stPN 1024 1028) (pn_ok 1024 1028 (by decide) (by decide) (by decide) (by decide)) 5 x h0 h1
/-- The state behind the word. -/
def lkS (x nx : Int) (r : Nat) : SV := { (lkV x).on with R := ((lkV x).on.R.set r 1032).set 0 0, nx := nx, sl := true }
theorem lkS_facts (x nx : Int) (r : Nat) (h1 : 1 ≤ r) (h2 : r < 32) : (lkS x nx r).R.length = 32 ∧ (lkS x nx r).R.getD r 0 = 1032 ∧ (lkS x nx r).pc = 1028 ∧ (lkS x nx r).nx = nx ∧ (lkS x nx r).sl = true := by
  refine ⟨by simp [lkS, lkV, stPN, SV.on], ?_, rfl, rfl, rfl⟩
  show ((((List.replicate 32 (0 : Int)).set 5 x).set r 1032).set 0 0).getD r 0 = 1032
  rw [List.getD_eq_getElem?_getD, List.getElem?_set_ne (by omega), List.getElem?_set_self (by simp; omega)]
  rfl
theorem lk_call {x nx : Int} {r W : Nat} {fl : Fl} {s : MS} {ao : Option Addr} {c : Nat} (h0 : 0 ≤ x) (h1 : x < 4294967296) (hW : W < 4294967296) (hi : insR W = fl) (hn : ∀ s, insP s (lkV x) fl = wentO (lkS x nx r) 0) (u : World) (hm : MemW u s) (hc : s.c + 4 ≤ 1099511627776) (ha : s.abs = memOf [codeP 1024 [W] 5 false ao c]) : Calls Try.prog 10 #[.pointer (some ⟨s.mb, 0, none⟩), .agg (lkV x).c] u fun e w' => e = .returned (.tuple #[.agg (lkS x nx r).c, .int .i64 0, .agg (faultC 0 0 false 0)]) ∧ ∃ s', Step u s w' s' := by
  have hf := fetch_code (p := codeP 1024 [W] 5 false ao c) ha rfl (show bits .and .i64 ((5 : Int) % 8) 1 ≠ 0 by decide) (show (1024 : Nat) % 4 = 0 from rfl) (show 1024 + 4 * 1 ≤ 4294967296 by decide) 0 (show 0 < 1 by decide) (show W < 4294967296 from hW)
  have hs := stepP_at (v := lkV x) hf hi
  refine (step_went hm (lkV_ok x h0 h1) hc (hs.1.trans (hn s))).mono ?_
  rintro e w' ⟨he, s', hp, st⟩
  exact ⟨he, s', st⟩
theorem lk_28 (x : Int) (r : Nat) (h1 : 1 ≤ r) (h2 : r < 32) (s : MS) : insP s (lkV x) ⟨28, ⟨5, 0, r, 0, 0⟩⟩ = wentO (lkS x x r) 0 := by
  have hw := wrongP_jump s (op := 28) (by simp) 0 ((lkV x).reg 5) ((lkV x).reg 0) (adrP (lkV x) ⟨28, ⟨5, 0, r, 0, 0⟩⟩)
  rw [insP_went (by
    show (wrongP s false ((28 : Nat) : Int) ((0 : Nat) : Int) _ _ _).1 = 0
    exact congrArg Prod.fst hw) (show (28 : Nat) ≠ 35 by decide)]
  exact congrArg (fun st => wentO st 0) (doP_l28t s (lkV x) 28 0 0 x 0 r _ rfl rfl)
theorem lk_66 (x : Int) (s : MS) (b : Bool) (hb : takeB 66 x 0 64 = b) : insP s (lkV x) ⟨66, ⟨5, 0, 0, 0, 64⟩⟩ = wentO (lkS x (if b then 1092 else 1032) 31) 0 := by
  have hw := wrongP_jump s (op := 66) (by simp) 64 ((lkV x).reg 5) ((lkV x).reg 0) (adrP (lkV x) ⟨66, ⟨5, 0, 0, 0, 64⟩⟩)
  rw [insP_went (by
    show (wrongP s false ((66 : Nat) : Int) ((64 : Nat) : Int) _ _ _).1 = 0
    exact congrArg Prod.fst hw) (by decide)]
  cases b with
  | true => exact congrArg (fun st => wentO st 0) (doP_l66t s (lkV x) 66 64 0 x 0 31 _ rfl hb)
  | false => exact congrArg (fun st => wentO st 0) (doP_l66f s (lkV x) 66 64 0 x 0 31 _ rfl hb)
theorem lk_67 (x : Int) (s : MS) (b : Bool) (hb : takeB 67 x 0 64 = b) : insP s (lkV x) ⟨67, ⟨5, 0, 0, 0, 64⟩⟩ = wentO (lkS x (if b then 1092 else 1032) 31) 0 := by
  have hw := wrongP_jump s (op := 67) (by simp) 64 ((lkV x).reg 5) ((lkV x).reg 0) (adrP (lkV x) ⟨67, ⟨5, 0, 0, 0, 64⟩⟩)
  rw [insP_went (by
    show (wrongP s false ((67 : Nat) : Int) ((64 : Nat) : Int) _ _ _).1 = 0
    exact congrArg Prod.fst hw) (by decide)]
  cases b with
  | true => exact congrArg (fun st => wentO st 0) (doP_l67t s (lkV x) 67 64 0 x 0 31 _ rfl hb)
  | false => exact congrArg (fun st => wentO st 0) (doP_l67f s (lkV x) 67 64 0 x 0 31 _ rfl hb)
theorem take_66 (x : Int) : takeB 66 x 0 64 = lt32 x 0 := rfl
theorem take_67 (x : Int) : takeB 67 x 0 64 = !lt32 x 0 := rfl
theorem index3_0 (a b c : Int) (u : World) : (Instr.index 50 (.agg #[.int .u32 a, .int .u32 b, .int .u32 c]) (.int .i64 0)).run Try.prog u = .ok (.int .u32 a) u := by kernel_rfl
theorem index3_1 (a b c : Int) (u : World) : (Instr.index 50 (.agg #[.int .u32 a, .int .u32 b, .int .u32 c]) (.int .i64 1)).run Try.prog u = .ok (.int .u32 b) u := by kernel_rfl
theorem index3_2 (a b c : Int) (u : World) : (Instr.index 50 (.agg #[.int .u32 a, .int .u32 b, .int .u32 c]) (.int .i64 2)).run Try.prog u = .ok (.int .u32 c) u := by kernel_rfl
/-- The world behind the step: its state lies in block g. -/
structure LC (g r : Nat) (x : Int) (wr : World) : Prop where
  aR : wr.cell? ⟨g, r, none⟩ = some (.int .u32 1032)
  a34 : wr.cell? ⟨g, 34, none⟩ = some (.int .u32 1028)
  a35 : wr.cell? ⟨g, 35, none⟩ = some (.int .u32 x)
  a36 : wr.cell? ⟨g, 36, none⟩ = some (.bool true)
theorem LC.of {u : World} {g r : Nat} {st : SV} {x : Int} (k : Blk u g st.c 26) (h : st.R.length = 32 ∧ st.R.getD r 0 = 1032 ∧ st.pc = 1028 ∧ st.nx = x ∧ st.sl = true) (hr : r < 32) : LC g r x u := by
  obtain ⟨l1, e1, e2, e3, e4⟩ := h
  have q := st_cells k l1
  rw [e2, e3, e4] at q
  exact ⟨by rw [← e1]; exact k.cell (SV.getR l1 hr), q.2.1, q.2.2.1, q.2.2.2⟩
end Go.Proofs.Ytobnocioefchlaa

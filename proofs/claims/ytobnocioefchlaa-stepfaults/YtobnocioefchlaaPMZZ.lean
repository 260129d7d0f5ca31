/- Two memories beside each other. -/
import Derived.Test.YtobnocioefchlaaPMAK
import Derived.Test.YtobnocioefchlaaPAwA
import Derived.BigFrame
namespace Go.Proofs.Ytobnocioefchlaa
open Go.ChangeShapes Go.WideShapes Go.ChangeAt Go.RowKit
set_option linter.unusedVariables false
theorem Own.later {w u v : World} {s : MS} (h : Own w u s) (hb : Below u.heap.size u v) : Own w v s := h.step (Step.later h.mem hb)
/-- A memory that was made behind another one. -/
theorem apart_new {w u v : World} {s t : MS} (hs : Own w u s) (ht : Own u v t) : Apart s t := fun b hb hbt => by
  have := hs.mem.lt hb
  have := ht.foot b hbt
  omega
theorem Own.wide {w u v : World} {t : MS} (h : Own u v t) (hb : Below w.heap.size w u) : Own w v t := ⟨h.mem, hb.trans (h.below.mono hb.size), fun b hf => Nat.le_trans hb.size (h.foot b hf)⟩
structure Two (w wr : World) (s t : MS) (ms mt : Nat) (f g : AM) (C : Nat) : Prop where
  a : Own w wr s
  b : Own w wr t
  ab : Apart s t
  ms : s.mb = ms
  mt : t.mb = mt
  f : s.abs = f
  g : t.abs = g
  c : s.c ≤ C
theorem Two.later {w u v : World} {s t : MS} {ms mt C : Nat} {f g : AM} (h : Two w u s t ms mt f g C) (hb : Below u.heap.size u v) : Two w v s t ms mt f g C := ⟨h.a.later hb, h.b.later hb, h.ab, h.ms, h.mt, h.f, h.g, h.c⟩
theorem Two.drew {w u v : World} {s t : MS} {ms mt C : Nat} {f g : AM} (h : Two w u s t ms mt f g C) (hd : ∃ n, v = u.drewN n) : Two w v s t ms mt f g C := by
  obtain ⟨n, rfl⟩ := hd
  exact h.later (below_drewN (Below.refl _ _) n)
theorem Two.poke {w u : World} {s t : MS} {ms mt C a : Nat} {f g : AM} (h : Two w u s t ms mt f g C) (v : UInt8) (ha : a < 4294967296) (hC : C < 1099511627776) : Calls Try.prog 21 #[.pointer (some ⟨ms, 0, none⟩), .int .u32 (a : Int), .int .u8 (v.toNat : Int)] u fun e w' =>
    e = .returned (.bool (f (pageOf a)).isSome) ∧ ∃ s', Two w w' s' t ms mt (apoke f a v) g (C + 1) := by
  have hc := h.c
  have h21 := poke_any u s a v h.a.mem ha (by omega)
  have e : decide (pageOf a ∈ s.ks) = (f (pageOf a)).isSome := by
    rw [← h.f]
    by_cases hk : pageOf a ∈ s.ks
    · rw [decide_eq_true hk, mem_abs.1 hk]
    · rw [decide_eq_false hk, abs_out hk]
      rfl
  rw [h.ms, e] at h21
  refine h21.mono ?_
  rintro e w' ⟨he, tv, st⟩
  have hap := st.apart h.b.mem h.ab
  have hkp : Own w w' t := ⟨hap.1, (h.a.step st).below, h.b.foot⟩
  have hc2 := pokeAt_c s a v tv
  exact ⟨he, _, h.a.step st, hkp, hap.2, by rw [pokeAt_mb]; exact h.ms, h.mt, by rw [abs_pokeAt, h.f], h.g, by omega⟩
theorem Two.peek {w u : World} {s t : MS} {ms mt C a : Nat} {f g : AM} (h : Two w u s t ms mt f g C) (ha : a < 4294967296) : Calls Try.prog 64 #[.pointer (some ⟨ms, 0, none⟩), .int .u32 (a : Int)] u fun e w' => e = .returned (.int .u8 ((getA f a).toNat : Int)) ∧ Two w w' s t ms mt f g C := by
  have := peek_any u s a h.a.mem ha
  rw [h.ms, get_getA, h.f] at this
  exact this.mono fun e w' ⟨he, hd⟩ => ⟨he, h.drew hd⟩
theorem Two.same {w u : World} {s t : MS} {ms mt C : Nat} {f g : AM} (h : Two w u s t ms mt f g C) (b : Bool) (hb : b = true ↔ seen f = seen g) : Calls Try.prog 13 #[.pointer (some ⟨ms, 0, none⟩), .pointer (some ⟨mt, 0, none⟩)] u fun e w' => e = .returned (.bool b) ∧ Two w w' s t ms mt f g C := by
  have := same_any u s t h.a.mem h.b.mem
  have e : sameM s t = b := by
    rw [Bool.eq_iff_iff, sameM_iff h.a.mem h.b.mem, h.f, h.g, hb]
  rw [h.ms, h.mt, e] at this
  exact this.mono fun e w' ⟨he, hd⟩ => ⟨he, h.later hd⟩
theorem Two.swap {w u : World} {s t : MS} {ms mt C : Nat} {f g : AM} (h : Two w u s t ms mt f g C) : Calls Try.prog 13 #[.pointer (some ⟨mt, 0, none⟩), .pointer (some ⟨ms, 0, none⟩)] u fun e w' => seen f = seen g → e = .returned (.bool true) ∧ Two w w' s t ms mt f g C := by
  have := same_any u t s h.b.mem h.a.mem
  rw [h.ms, h.mt] at this
  refine this.mono fun e w' ⟨he, hd⟩ hfg => ⟨?_, h.later hd⟩
  rw [he, sameM_eq h.b.mem h.a.mem (by rw [h.f, h.g, hfg])]
theorem same_copy {u : World} {s c : MS} {ms mc : Nat} (hs : MemW u s) (hc : MemW u c) (h : CopyOf s c) (e1 : s.mb = ms) (e2 : c.mb = mc) : Calls Try.prog 13 #[.pointer (some ⟨ms, 0, none⟩), .pointer (some ⟨mc, 0, none⟩)] u fun e w' => e = .returned (.bool true) ∧ Below u.heap.size u w' := by
  have := same_any u s c hs hc
  rw [e1, e2, sameM_eq hs hc (seen_copy h).symm] at this
  exact this
end Go.Proofs.Ytobnocioefchlaa
namespace Go.Proofs.Ytobnocioefchlaa
open Go.ChangeShapes Go.WideShapes Go.ChangeAt Go.RowKit
set_option linter.unusedVariables false
theorem wpList_loadVg {ops : Array Oper} {rest : List Oper} {o : Oper} {a : Act} {w : World} {Q : Exit → Act → World → Prop} (hw : Region.wanted o (yielded ops a.tmps) = true) (x : Operand) (ho : o.op = .load 26 x)
    (g : Nat) (s : SV) (hx : a.eval x = .pointer (some ⟨g, 0, none⟩)) (hg : Blk w g s.c 26) (hs : s.R.length = 32)
    (h : wpList Try.prog ops Q rest (a.put o.dst (.agg s.c)) w) : wpList Try.prog ops Q (o :: rest) a w :=
  BigFrame.wpList_want hw fun K hK => wp_load_row 26 x ho g hx 26 s.c (0, 0) _ hg Try.underlying26 rfl (by rw [SV.size hs]; exact sizeSV) (hK _ _ h)
set_option maxRecDepth 20000 in
theorem sameFault_eq (k p b : Int) (sl : Bool) (w : World) : Calls Try.prog 11 #[.agg (faultC k p sl b), .agg (faultC k p sl b)] w fun e w' => e = .returned (.bool true) ∧ Below w.heap.size w w' := by
  have hB := hidden (((Below.refl w.heap.size w).alloc (Nat.le_refl _) (.cells (faultC k p sl b) 32)).alloc (by simp) (.cells (faultC k p sl b) 32))
  cases sl with
  | true =>
    go_enter Try.func11, Try.ntmps11
    go_wp2
    go_ret
    exact ⟨rfl, hB.out⟩
  | false =>
    go_enter Try.func11, Try.ntmps11
    go_wp2
    go_ret
    exact ⟨rfl, hB.out⟩
/-- A step's answers: a fault, with nothing turned; a call; or it went. -/
theorem fetch_kind (s : MS) (a : Nat) : (fetchV s a).2 = 0 ∨ 1 ≤ (fetchV s a).2 ∧ (fetchV s a).2 ≤ 10 := by
  unfold fetchV
  split
  · exact .inr (by decide)
  · split
    · exact .inr (by decide)
    · exact .inl rfl
theorem fault_kind (s : MS) (op : Int) (a : Nat) : faultK s op a = 0 ∨ faultK s op a = 2 ∨ faultK s op a = 3 ∨ faultK s op a = 5 ∨ faultK s op a = 6 := by
  unfold faultK
  split
  · unfold faultV
    split
    · exact .inr (.inl rfl)
    · split
      · exact .inr (.inr (.inr (.inl rfl)))
      · exact .inl rfl
  · split
    · unfold faultV
      split
      · exact .inr (.inr (.inl rfl))
      · split
        · exact .inr (.inr (.inr (.inr rfl)))
        · exact .inl rfl
    · exact .inl rfl
theorem wrong_kind (s : MS) (sl : Bool) (op m x t : Int) (a : Nat) : (wrongP s sl op m x t a).1 = 0 ∨ 1 ≤ (wrongP s sl op m x t a).1 ∧ (wrongP s sl op m x t a).1 ≤ 10 := by
  unfold wrongP
  split
  · exact .inr (by decide)
  · split
    · exact .inr (by decide)
    · split
      · right
        show 1 ≤ (if op = 9 ∨ op = 41 ∨ op = 10 then (8 : Int) else 9) ∧ (if op = 9 ∨ op = 41 ∨ op = 10 then (8 : Int) else 9) ≤ 10
        split <;> decide
      · split
        · exact .inl rfl
        · right
          show 1 ≤ faultK s op a ∧ faultK s op a ≤ 10
          rcases fault_kind s op a with h | h | h | h | h <;> omega
theorem insP_cases (s : MS) (v : SV) (hv : v.R.length = 32) (i : Fl) : (∃ k b, insP s v i = stopO v k b ∧ 1 ≤ k ∧ k ≤ 10 ∧ insL s v i = []) ∨ (insP s v i = wentO v 1 ∧ insL s v i = []) ∨ (∃ st, insP s v i = wentO st 0 ∧ st.R.length = 32) := by
  by_cases hw : (wrongP s v.sl i.op i.tk.imm (v.reg i.tk.s) (v.reg i.tk.t) (adrP v i)).1 = 0
  · by_cases h35 : i.op = 35
    · right; left
      have e : insP s v i = wentO v 1 := by
        unfold adrP at hw
        unfold insP
        simp only
        rw [if_neg (fun h => h hw), if_pos h35]
      refine ⟨e, ?_⟩
      unfold insL
      simp only
      rw [e]
      exact if_neg (show ¬ (1 : Int) = 0 by decide)
    · right; right
      exact ⟨_, insP_went hw h35, setO_len hv _ _⟩
  · left
    have e := insP_stop hw
    refine ⟨_, _, e, ?_⟩
    have hk := (wrong_kind s v.sl i.op i.tk.imm (v.reg i.tk.s) (v.reg i.tk.t) (adrP v i)).resolve_left hw
    refine ⟨hk.1, hk.2, ?_⟩
    unfold insL
    simp only
    rw [e]
    exact if_neg (show ¬ (2 : Int) = 0 by decide)
theorem step_cases (s : MS) (v : SV) (hv : v.R.length = 32) : (∃ k b, stepP s v = stopO v k b ∧ 1 ≤ k ∧ k ≤ 10 ∧ stepL s v = []) ∨ (stepP s v = wentO v 1 ∧ stepL s v = []) ∨ (∃ st, stepP s v = wentO st 0 ∧ st.R.length = 32) := by
  unfold stepP stepL
  rcases fetch_kind s v.pc.toNat with h | ⟨h1, h2⟩
  · rw [if_neg (fun e => e h), if_neg (fun e => e h)]
    exact insP_cases s v hv _
  · rw [if_pos (by omega), if_pos (by omega)]
    exact .inl ⟨_, _, rfl, h1, h2, rfl⟩
/-- The world behind the step: the state that came in, the answer, both memories. -/
structure FA (W : World) (n g : Nat) (v st : SV) (fc : Array Value) (s t : MS) (wr : World) : Prop where
  bel : Below n W wr
  s0 : Blk wr n v.c 26
  s1 : Blk wr g st.c 26
  f : Blk wr (g + 1) fc 32
  m1 : MemW wr s
  m2 : MemW wr t
theorem FA.later {W : World} {n g : Nat} {v st : SV} {fc : Array Value} {s t : MS} {wr w' : World} (h : FA W n g v st fc s t wr) (hb : Below wr.heap.size wr w') : FA W n g v st fc s t w' := ⟨h.bel.trans (hb.mono (Nat.le_of_lt h.s0.lt)), h.s0.later hb, h.s1.later hb, h.f.later hb, h.m1.later hb, h.m2.later hb⟩
structure FC (n g : Nat) (v : SV) (k p b : Int) (sl : Bool) (wr : World) : Prop where
  c0 : wr.cell? ⟨g + 1, 0, none⟩ = some (.int .i64 k)
  c1 : wr.cell? ⟨g + 1, 1, none⟩ = some (.int .u32 p)
  c2 : wr.cell? ⟨g + 1, 2, none⟩ = some (.bool sl)
  c3 : wr.cell? ⟨n, 34, none⟩ = some (.int .u32 v.pc)
  c4 : wr.cell? ⟨n, 36, none⟩ = some (.bool v.sl)
theorem FA.cells {W : World} {n g : Nat} {v st : SV} {k p b : Int} {sl : Bool} {s t : MS} {wr : World} (h : FA W n g v st (faultC k p sl b) s t wr) (hv : v.R.length = 32) : FC n g v k p b sl wr := ⟨h.f.cell rfl, h.f.cell rfl, h.f.cell rfl, h.s0.cell (SV.get_pc hv), h.s0.cell (SV.get_sl hv)⟩
/-- Both memories are made, the step is done. -/
structure FB (W : World) (n : Nat) (v : SV) (s t : MS) (wr : World) : Prop where
  bel : Below n W wr
  s0 : Blk wr n v.c 26
  m1 : MemW wr s
  m2 : MemW wr t
theorem FB.later {W : World} {n : Nat} {v : SV} {s t : MS} {wr w' : World} (h : FB W n v s t wr) (hb : Below wr.heap.size wr w') : FB W n v s t w' := ⟨h.bel.trans (hb.mono (Nat.le_of_lt h.s0.lt)), h.s0.later hb, h.m1.later hb, h.m2.later hb⟩
theorem FB.mk2 {W w1 w2 w3 w4 : World} {n : Nat} {v : SV} {s t s' : MS} (hn : W.heap.size = n) (b1 : Below n W w1) (k1 : Blk w1 n v.c 26) (o1 : Own w1 w2 s) (o2 : Own w2 w3 t) (st : Step w3 s w4 s') : FB W n v s' t w4 := by
  have hl1 : n < w1.heap.size := k1.lt
  have ha : Apart s t := fun b h1 h2 => by
    have := o1.mem.lt h1
    have := o2.foot b h2
    omega
  have hb := (Step.below st (B := w1.heap.size) (by have := o1.below.size; have := o2.below.size; omega) o1.foot).1
  exact ⟨b1.trans ((o1.below.mono (Nat.le_of_lt hl1)).trans ((o2.below.mono (by have := o1.below.size; omega)).trans (hb.mono (Nat.le_of_lt hl1)))), ((k1.later o1.below).later o2.below |> fun h => (hb.block n hl1).trans h), st.mem, (st.apart o2.mem ha).1⟩
theorem FB.mk3 {W : World} {n g : Nat} {v st : SV} {z : SV} {fc zc : Array Value} {s t : MS} {wr w' : World} (h : FB W n v s t wr) (hg : wr.heap.size = g) (hb : Below wr.heap.size wr w') (h1 : Blk w' g st.c 26) (h2 : Blk w' (g + 1) fc 32) : FA W n g v st fc s t w' := ⟨h.bel.trans (hb.mono (Nat.le_of_lt h.s0.lt)), h.s0.later hb, h1, h2, h.m1.later hb, h.m2.later hb⟩
set_option maxRecDepth 20000 in
set_option maxHeartbeats 8000000 in
theorem faults_walk (W : World) (ao : Option Addr) (cap : Nat) (ps : List Part4) (hpc : Pieces W ao ps) (hln : ps.length ≤ 9223372036854775807) (v : SV) (hv : v.ok) : Calls Try.prog 3 #[.slice ao ps.length cap, .agg v.c] W fun e w' => e = .returned (.bool true) ∧ Below W.heap.size W w' := by
  obtain ⟨n, hn⟩ : ∃ n, W.heap.size = n := ⟨_, rfl⟩
  obtain ⟨C, hC⟩ : ∃ C, v.c = C := ⟨_, rfl⟩
  rw [hC]
  have HC := hidden hC
  have HV := hidden hv
  have HPC := hidden hpc
  have HLN := hidden hln
  have HAW := hidden awake11_any
  clear hC hv hpc hln
  cases hf : few ps with
  | false =>
    have HF := hidden (fun u h => (few_any u ao cap ps (Pieces.later HPC.out (w' := u) h) HLN.out))
    rw [hf] at HF
    clear hf
    go_enter Try.func3, Try.ntmps3
    go_wp2_with (first
      | (refine wpList_boxG rfl 26 _ rfl C rfl ?_; rintro w1 k1 s1 b1; have B0 := hidden b1; rw [hn] at k1 s1 b1 ⊢; have S1 := hidden s1; clear k1 s1 b1)
      | (go_at_call 7; refine (HF.out _ B0.out).mono ?_; rintro e w2 ⟨rfl, hww⟩; rw [hww]; clear hww w2)
      | (go_at_call 8; refine (HAW.out _).mono ?_; rintro e w3 ⟨rfl, b3⟩; have B3 := hidden (B0.out.trans (b3.mono B0.out.size)); clear b3))
    go_ret
    exact ⟨rfl, B3.out⟩
  | true =>
    have HF := hidden (fun u h => (few_any u ao cap ps (Pieces.later HPC.out (w' := u) h) HLN.out))
    rw [hf] at HF
    have hfw : ps.length ≤ 8 ∧ ∀ p ∈ ps, p.data.length ≤ 600 := by
      unfold few at hf
      simp only [Bool.and_eq_true, decide_eq_true_eq, List.all_eq_true] at hf
      exact ⟨hf.2, fun p hp => hf.1 p (by rw [List.take_of_length_le hf.2]; exact hp)⟩
    have HME := hidden (fun u h => memory_any u ao cap ps (Pieces.later HPC.out (w' := u) h) hfw.1 hfw.2)
    clear hf hfw
    go_enter Try.func3, Try.ntmps3
    go_upto_region 6 with (first
      | (refine wpList_boxG rfl 26 _ rfl C rfl ?_; rintro w1 k1 s1 b1; have B0 := hidden b1; rw [hn] at k1 s1 b1 ⊢; have K1 : Hid (Blk w1 n v.c 26) := hidden (by rw [HC.out]; exact k1); have B1 := hidden b1; clear k1 s1 b1)
      | (go_at_call 7; refine (HF.out _ B0.out).mono ?_; rintro e w2 ⟨rfl, hww⟩; rw [hww]; clear hww w2)
      | (go_at_call 9; refine (HME.out _ B0.out).mono ?_; rintro e w2 ⟨s, rfl, o2, a2, m2, l2, t2, c2⟩; have O2 := hidden o2; have A2 := hidden a2; have CC := hidden c2; have B2 := hidden (B0.out.trans (o2.below.mono B0.out.size)); clear o2 a2 m2 l2 t2 c2 B0)
      | (go_at_call 9; refine (HME.out _ B2.out).mono ?_; rintro e w3 ⟨t, rfl, o3, a3, m3, l3, t3, c3⟩; have O3 := hidden o3; have A3 := hidden a3; clear o3 a3 m3 l3 t3 c3 B2))
    have HSO := hidden (O2.out.mem.later O3.out.below)
    have HSM : Hid (∀ s' u, PokesTo s [] s' → MemW u s' → MemW u t → Calls Try.prog 13 #[.pointer (some ⟨s.mb, 0, none⟩), .pointer (some ⟨t.mb, 0, none⟩)] u fun e w' => e = .returned (.bool true) ∧ Below u.heap.size u w') := hidden (fun s' u hp h1 h2 => by
      obtain rfl : s' = s := hp
      have h := same_any u s' t h1 h2
      rw [sameM_eq h1 h2 (by rw [A2.out, A3.out])] at h
      exact h)
    rcases step_cases s v HV.out.1 with ⟨kd, bd, hX, hk1, hk2, hL⟩ | ⟨hX, hL⟩ | ⟨st, hX, hl⟩
    · have HST := hidden (step_stop HSO.out HV.out (by have := CC.out; omega) hX)
      have HL := hidden hL
      have hkd : decide (1 ≤ kd) = true := decide_eq_true hk1
      have hkd2 : decide (kd ≤ 10) = true := decide_eq_true hk2
      have HSF := hidden (fun u => sameState_eq u v HV.out.1)
      have hbb : (v.sl == v.sl) = true := beq_self_eq_true _
      clear hX hL HSO
      cases hsl : v.sl with
      | true =>
        rw [hsl] at HST
        go_wp2_with (first
          | (refine wpList_loadV rfl _ rfl n v rfl ((K1.out.later O2.out.below).later O3.out.below) HV.out.1 ?_)
          | (go_at_call 10; refine HST.out.mono ?_; rintro e w4 ⟨rfl, s', hp, st4⟩; have P4 := hidden (FB.mk2 hn B1.out K1.out O2.out O3.out st4); have HPK := hidden (by rw [HL.out] at hp; exact hp); clear hp st4 K1 B1 O2 O3)
          | (refine wpList_allocV rfl rfl ?_; rintro w5 k5 s5 b5; obtain ⟨g, hg⟩ : ∃ g, w4.heap.size = g := ⟨_, rfl⟩; have B5 := hidden b5; have HG := hidden hg; rw [hg] at k5 s5 ⊢; have K5 := hidden k5; have S5 := hidden s5; clear k5 s5 b5 hg)
          | (refine wpList_allocFa rfl rfl ?_; rintro w6 k6 s6 b6; have K6 := hidden (K5.out.later b6); have B6 := hidden (B5.out.trans (b6.mono B5.out.size)); rw [S5.out] at k6 ⊢; have F6 := hidden k6; clear k6 s6 b6 K5 B5)
          | (refine wpList_storeV rfl rfl _ _ rfl g SV.zero v rfl rfl K6.out rfl HV.out.1 ?_; rintro w7 k7 o7; have K7 := hidden k7; have F7 := hidden (F6.out.only o7 (by omega)); have B7 := hidden (Below.only B6.out o7 (by rw [HG.out]; exact Nat.le_refl _)); clear k7 o7 K6 F6 B6)
          | (refine wpList_storeFa rfl rfl _ _ rfl (g + 1) zFa (faultC kd v.pc true bd) rfl rfl F7.out rfl rfl (by kernel_rfl) ?_; rintro w8 k8 o8; have P8 := hidden (FB.mk3 (z := v) (zc := zFa) P4.out HG.out (Below.only B7.out o8 (by rw [HG.out]; omega)) (K7.out.only o8 (by omega)) k8); clear k8 o8 K7 F7 B7 P4; obtain ⟨c0, c1, c2, c3, c4⟩ := P8.out.cells HV.out.1)
          | (refine wpList_loadFa rfl _ rfl (g + 1) (faultC kd v.pc true bd) rfl P8.out.f rfl ?_)
          | (refine wpList_loadV rfl _ rfl g v rfl P8.out.s1 HV.out.1 ?_)
          | (refine wpList_loadV rfl _ rfl n v rfl P8.out.s0 HV.out.1 ?_)
          | (refine wpList_loadVg (by kernel_rfl) _ rfl g v rfl P8.out.s1 HV.out.1 ?_)
          | (refine wpList_loadVg (by kernel_rfl) _ rfl n v rfl P8.out.s0 HV.out.1 ?_)
          | (go_at_call 12; refine (HSF.out _).mono ?_; rintro e w9 ⟨rfl, b9⟩; have Q := hidden (P8.out.later b9); clear P8 b9 c0 c1 c2 c3 c4; have P8 := Q; clear Q; obtain ⟨c0, c1, c2, c3, c4⟩ := P8.out.cells HV.out.1)
          | (go_at_call 11; refine (HS0.out _).mono ?_; rintro e w9 ⟨rfl, b9⟩; have Q := hidden (P8.out.later b9); clear P8 b9 c0 c1 c2 c3 c4; have P8 := Q; clear Q; obtain ⟨c0, c1, c2, c3, c4⟩ := P8.out.cells HV.out.1)
          | (go_at_call 13; refine (HSM.out s' _ HPK.out P8.out.m1 P8.out.m2).mono ?_; rintro e w9 ⟨rfl, b9⟩; have Q := hidden (P8.out.later b9); clear P8 b9 c0 c1 c2 c3 c4; have P8 := Q; clear Q; obtain ⟨c0, c1, c2, c3, c4⟩ := P8.out.cells HV.out.1)
          | (go_at_call 8; refine (HAW.out _).mono ?_; rintro e w9 ⟨rfl, b9⟩; have Q := hidden (P8.out.later b9); clear P8 b9 c0 c1 c2 c3 c4; have P8 := Q; clear Q))
        go_ret
        exact ⟨rfl, by rw [hn]; exact P8.out.bel⟩
      | false =>
        rw [hsl] at HST
        go_wp2_with (first
          | (refine wpList_loadV rfl _ rfl n v rfl ((K1.out.later O2.out.below).later O3.out.below) HV.out.1 ?_)
          | (go_at_call 10; refine HST.out.mono ?_; rintro e w4 ⟨rfl, s', hp, st4⟩; have P4 := hidden (FB.mk2 hn B1.out K1.out O2.out O3.out st4); have HPK := hidden (by rw [HL.out] at hp; exact hp); clear hp st4 K1 B1 O2 O3)
          | (refine wpList_allocV rfl rfl ?_; rintro w5 k5 s5 b5; obtain ⟨g, hg⟩ : ∃ g, w4.heap.size = g := ⟨_, rfl⟩; have B5 := hidden b5; have HG := hidden hg; rw [hg] at k5 s5 ⊢; have K5 := hidden k5; have S5 := hidden s5; clear k5 s5 b5 hg)
          | (refine wpList_allocFa rfl rfl ?_; rintro w6 k6 s6 b6; have K6 := hidden (K5.out.later b6); have B6 := hidden (B5.out.trans (b6.mono B5.out.size)); rw [S5.out] at k6 ⊢; have F6 := hidden k6; clear k6 s6 b6 K5 B5)
          | (refine wpList_storeV rfl rfl _ _ rfl g SV.zero v rfl rfl K6.out rfl HV.out.1 ?_; rintro w7 k7 o7; have K7 := hidden k7; have F7 := hidden (F6.out.only o7 (by omega)); have B7 := hidden (Below.only B6.out o7 (by rw [HG.out]; exact Nat.le_refl _)); clear k7 o7 K6 F6 B6)
          | (refine wpList_storeFa rfl rfl _ _ rfl (g + 1) zFa (faultC kd v.pc false bd) rfl rfl F7.out rfl rfl (by kernel_rfl) ?_; rintro w8 k8 o8; have P8 := hidden (FB.mk3 (z := v) (zc := zFa) P4.out HG.out (Below.only B7.out o8 (by rw [HG.out]; omega)) (K7.out.only o8 (by omega)) k8); clear k8 o8 K7 F7 B7 P4; obtain ⟨c0, c1, c2, c3, c4⟩ := P8.out.cells HV.out.1)
          | (refine wpList_loadFa rfl _ rfl (g + 1) (faultC kd v.pc false bd) rfl P8.out.f rfl ?_)
          | (refine wpList_loadV rfl _ rfl g v rfl P8.out.s1 HV.out.1 ?_)
          | (refine wpList_loadV rfl _ rfl n v rfl P8.out.s0 HV.out.1 ?_)
          | (refine wpList_loadVg (by kernel_rfl) _ rfl g v rfl P8.out.s1 HV.out.1 ?_)
          | (refine wpList_loadVg (by kernel_rfl) _ rfl n v rfl P8.out.s0 HV.out.1 ?_)
          | (go_at_call 12; refine (HSF.out _).mono ?_; rintro e w9 ⟨rfl, b9⟩; have Q := hidden (P8.out.later b9); clear P8 b9 c0 c1 c2 c3 c4; have P8 := Q; clear Q; obtain ⟨c0, c1, c2, c3, c4⟩ := P8.out.cells HV.out.1)
          | (go_at_call 11; refine (HS0.out _).mono ?_; rintro e w9 ⟨rfl, b9⟩; have Q := hidden (P8.out.later b9); clear P8 b9 c0 c1 c2 c3 c4; have P8 := Q; clear Q; obtain ⟨c0, c1, c2, c3, c4⟩ := P8.out.cells HV.out.1)
          | (go_at_call 13; refine (HSM.out s' _ HPK.out P8.out.m1 P8.out.m2).mono ?_; rintro e w9 ⟨rfl, b9⟩; have Q := hidden (P8.out.later b9); clear P8 b9 c0 c1 c2 c3 c4; have P8 := Q; clear Q; obtain ⟨c0, c1, c2, c3, c4⟩ := P8.out.cells HV.out.1)
          | (go_at_call 8; refine (HAW.out _).mono ?_; rintro e w9 ⟨rfl, b9⟩; have Q := hidden (P8.out.later b9); clear P8 b9 c0 c1 c2 c3 c4; have P8 := Q; clear Q))
        go_ret
        exact ⟨rfl, by rw [hn]; exact P8.out.bel⟩
    · have HST := hidden (step_went HSO.out HV.out (by have := CC.out; omega) hX)
      have HL := hidden hL
      have HSF := hidden (fun u => sameState_eq u v HV.out.1)
      have HS0 := hidden (fun u => sameFault_eq 0 0 0 false u)
      clear hX hL HSO
      go_wp2_with (first
        | (refine wpList_loadV rfl _ rfl n v rfl ((K1.out.later O2.out.below).later O3.out.below) HV.out.1 ?_)
        | (go_at_call 10; refine HST.out.mono ?_; rintro e w4 ⟨rfl, s', hp, st4⟩; have P4 := hidden (FB.mk2 hn B1.out K1.out O2.out O3.out st4); have HPK := hidden (by rw [HL.out] at hp; exact hp); clear hp st4 K1 B1 O2 O3)
        | (refine wpList_allocV rfl rfl ?_; rintro w5 k5 s5 b5; obtain ⟨g, hg⟩ : ∃ g, w4.heap.size = g := ⟨_, rfl⟩; have B5 := hidden b5; have HG := hidden hg; rw [hg] at k5 s5 ⊢; have K5 := hidden k5; have S5 := hidden s5; clear k5 s5 b5 hg)
        | (refine wpList_allocFa rfl rfl ?_; rintro w6 k6 s6 b6; have K6 := hidden (K5.out.later b6); have B6 := hidden (B5.out.trans (b6.mono B5.out.size)); rw [S5.out] at k6 ⊢; have F6 := hidden k6; clear k6 s6 b6 K5 B5)
        | (refine wpList_storeV rfl rfl _ _ rfl g SV.zero v rfl rfl K6.out rfl HV.out.1 ?_; rintro w7 k7 o7; have K7 := hidden k7; have F7 := hidden (F6.out.only o7 (by omega)); have B7 := hidden (Below.only B6.out o7 (by rw [HG.out]; exact Nat.le_refl _)); clear k7 o7 K6 F6 B6)
        | (refine wpList_storeFa rfl rfl _ _ rfl (g + 1) zFa (faultC 0 0 false 0) rfl rfl F7.out rfl rfl (by kernel_rfl) ?_; rintro w8 k8 o8; have P8 := hidden (FB.mk3 (z := v) (zc := zFa) P4.out HG.out (Below.only B7.out o8 (by rw [HG.out]; omega)) (K7.out.only o8 (by omega)) k8); clear k8 o8 K7 F7 B7 P4)
        | (refine wpList_loadFa rfl _ rfl (g + 1) (faultC 0 0 false 0) rfl P8.out.f rfl ?_)
        | (refine wpList_loadV rfl _ rfl g v rfl P8.out.s1 HV.out.1 ?_)
        | (refine wpList_loadV rfl _ rfl n v rfl P8.out.s0 HV.out.1 ?_)
        | (refine wpList_loadVg (by kernel_rfl) _ rfl g v rfl P8.out.s1 HV.out.1 ?_)
        | (refine wpList_loadVg (by kernel_rfl) _ rfl n v rfl P8.out.s0 HV.out.1 ?_)
        | (go_at_call 12; refine (HSF.out _).mono ?_; rintro e w9 ⟨rfl, b9⟩; have Q := hidden (P8.out.later b9); clear P8 b9; have P8 := Q; clear Q)
        | (go_at_call 11; refine (HS0.out _).mono ?_; rintro e w9 ⟨rfl, b9⟩; have Q := hidden (P8.out.later b9); clear P8 b9; have P8 := Q; clear Q)
        | (go_at_call 13; refine (HSM.out s' _ HPK.out P8.out.m1 P8.out.m2).mono ?_; rintro e w9 ⟨rfl, b9⟩; have Q := hidden (P8.out.later b9); clear P8 b9; have P8 := Q; clear Q)
        | (go_at_call 8; refine (HAW.out _).mono ?_; rintro e w9 ⟨rfl, b9⟩; have Q := hidden (P8.out.later b9); clear P8 b9; have P8 := Q; clear Q))
      go_ret
      exact ⟨rfl, by rw [hn]; exact P8.out.bel⟩
    · have HST := hidden (step_went HSO.out HV.out (by have := CC.out; omega) hX)
      have HSL := hidden hl
      have HS0 := hidden (fun u => sameFault_eq 0 0 0 false u)
      clear hX hl HSO
      go_wp2_with (first
        | (refine wpList_loadV rfl _ rfl n v rfl ((K1.out.later O2.out.below).later O3.out.below) HV.out.1 ?_)
        | (go_at_call 10; refine HST.out.mono ?_; rintro e w4 ⟨rfl, s', hp, st4⟩; have P4 := hidden (FB.mk2 hn B1.out K1.out O2.out O3.out st4); have HPK := hidden hp; clear hp st4 K1 B1 O2 O3)
        | (refine wpList_allocV rfl rfl ?_; rintro w5 k5 s5 b5; obtain ⟨g, hg⟩ : ∃ g, w4.heap.size = g := ⟨_, rfl⟩; have B5 := hidden b5; have HG := hidden hg; rw [hg] at k5 s5 ⊢; have K5 := hidden k5; have S5 := hidden s5; clear k5 s5 b5 hg)
        | (refine wpList_allocFa rfl rfl ?_; rintro w6 k6 s6 b6; have K6 := hidden (K5.out.later b6); have B6 := hidden (B5.out.trans (b6.mono B5.out.size)); rw [S5.out] at k6 ⊢; have F6 := hidden k6; clear k6 s6 b6 K5 B5)
        | (refine wpList_storeV rfl rfl _ _ rfl g SV.zero st rfl rfl K6.out rfl HSL.out ?_; rintro w7 k7 o7; have K7 := hidden k7; have F7 := hidden (F6.out.only o7 (by omega)); have B7 := hidden (Below.only B6.out o7 (by rw [HG.out]; exact Nat.le_refl _)); clear k7 o7 K6 F6 B6)
        | (refine wpList_storeFa rfl rfl _ _ rfl (g + 1) zFa (faultC 0 0 false 0) rfl rfl F7.out rfl rfl (by kernel_rfl) ?_; rintro w8 k8 o8; have P8 := hidden (FB.mk3 (z := v) (zc := zFa) P4.out HG.out (Below.only B7.out o8 (by rw [HG.out]; omega)) (K7.out.only o8 (by omega)) k8); clear k8 o8 K7 F7 B7 P4)
        | (refine wpList_loadFa rfl _ rfl (g + 1) (faultC 0 0 false 0) rfl P8.out.f rfl ?_)
        | (refine wpList_loadV rfl _ rfl g st rfl P8.out.s1 HSL.out ?_)
        | (refine wpList_loadV rfl _ rfl n v rfl P8.out.s0 HV.out.1 ?_)
        | (refine wpList_loadVg (by kernel_rfl) _ rfl g st rfl P8.out.s1 HSL.out ?_)
        | (refine wpList_loadVg (by kernel_rfl) _ rfl n v rfl P8.out.s0 HV.out.1 ?_)
        | (go_at_call 11; refine (HS0.out _).mono ?_; rintro e w9 ⟨rfl, b9⟩; have Q := hidden (P8.out.later b9); clear P8 b9; have P8 := Q; clear Q)
        | (go_at_call 8; refine (HAW.out _).mono ?_; rintro e w9 ⟨rfl, b9⟩; have Q := hidden (P8.out.later b9); clear P8 b9; have P8 := Q; clear Q))
      go_ret
      exact ⟨rfl, by rw [hn]; exact P8.out.bel⟩
end Go.Proofs.Ytobnocioefchlaa

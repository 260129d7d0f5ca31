/- Whole numbers and events, held against each other. -/
import Derived.Test.YtodoenimlhldjaaBMAM
import Derived.BigQuiet
import Derived.Test.YtodoenimlhldjaaBMAO
import Derived.Test.YtodoenimlhldjaaBMAN
import Derived.Test.YtodoenimlhldjaaBMAT
import Derived.Test.YtodoenimlhldjaaBMAU
import Derived.Deep.Slices
namespace Go.Proofs.Ytodoenimlhldjaa
open Go.ChangeShapes Go.WideShapes Go.ChangeAt Go.RowKit
set_option linter.unusedVariables false
theorem cI_at {l : List Int} {k : Nat} (h : k < l.length) : (cI l)[k]? = some (.int .i64 (l.getD k 0)) := by
  unfold cI
  rw [List.getElem?_map, List.getElem?_eq_getElem h, List.getD_eq_getElem?_getD, List.getElem?_eq_getElem h]
  rfl
theorem cE_at {e : List (Int × ByteArray)} {k : Nat} (h : k < e.length) : (cE e)[k * 2]? = some (.int .u32 (e.getD k (0, ByteArray.empty)).1) ∧ (cE e)[k * 2 + 1]? = some (.string (e.getD k (0, ByteArray.empty)).2) := by
  induction e generalizing k with
  | nil => simp at h
  | cons x t ih =>
    cases k with
    | zero => exact ⟨rfl, rfl⟩
    | succ k =>
      have h2 := ih (k := k) (by simpa using h)
      have e1 : (k + 1) * 2 = k * 2 + 2 := by omega
      rw [e1]
      exact h2
theorem sameInts_any (w : World) (v u : Value) (l : List Int) (hl : Rw w 1 v l.length (cI l)) (hm : Rw w 1 u l.length (cI l)) (hlen : l.length ≤ 4611686018427387904) : Calls Try.prog 44 #[v, u] w fun e w' => e = .returned (.bool true) ∧ ∃ n, w' = w.drewN n := by
  obtain ⟨_, ao, cap, rfl, h1⟩ := hl
  obtain ⟨_, bo, cap2, rfl, h2⟩ := hm
  have H1 := hidden h1
  have H2 := hidden h2
  clear h1 h2
  go_enter Try.func44, Try.ntmps44
  go_wp2
  go_loopw [5] (fun i wr => ∃ (k n : Nat), k ≤ l.length ∧ i = .int .i64 (k : Int) ∧ wr = w.drewN n) (fun i _ => l.length - (intOf i).toNat)
  case atStart => exact ⟨0, 0, by omega, rfl, rfl⟩
  case round =>
    obtain ⟨k, n, hk, rfl, rfl⟩ := hrel
    by_cases hkn : k < l.length
    · obtain ⟨b, off, rfl, hc⟩ : ∃ b off, ao = some ⟨b, off, none⟩ ∧ w.cell? ⟨b, off + k, none⟩ = some (.int .i64 (l.getD k 0)) := by
        rcases Hid.out H1 with h | ⟨b, off, e, _, h⟩
        · omega
        · exact ⟨b, off, e, h k _ (cI_at hkn)⟩
      obtain ⟨b2, off2, rfl, hc2⟩ : ∃ b off, bo = some ⟨b, off, none⟩ ∧ w.cell? ⟨b, off + k, none⟩ = some (.int .i64 (l.getD k 0)) := by
        rcases Hid.out H2 with h | ⟨b, off, e, _, h⟩
        · omega
        · exact ⟨b, off, e, h k _ (cI_at hkn)⟩
      generalize l.getD k 0 = x at hc hc2
      clear H1 H2
      go_wp2
      go_quiet (fail)
      go_wp2
      go_roundw
      case rel => exact ⟨k + 1, _, by omega, by simp, rfl⟩
      case measure => simp [intOf]; omega
    · have hkk : ¬ (k : Int) < (l.length : Int) := by omega
      go_wp2
      go_ret
      exact ⟨rfl, _, rfl⟩
theorem sameEvents_any (w : World) (v u : Value) (l : List (Int × ByteArray)) (hl : Rw w 2 v l.length (cE l)) (hm : Rw w 2 u l.length (cE l)) (hlen : l.length ≤ 4611686018427387904) : Calls Try.prog 45 #[v, u] w fun e w' => e = .returned (.bool true) ∧ ∃ n, w' = w.drewN n := by
  obtain ⟨_, ao, cap, rfl, h1⟩ := hl
  obtain ⟨_, bo, cap2, rfl, h2⟩ := hm
  have H1 := hidden h1
  have H2 := hidden h2
  clear h1 h2
  go_enter Try.func45, Try.ntmps45
  go_wp2
  go_loopw [5] (fun i wr => ∃ (k n : Nat), k ≤ l.length ∧ i = .int .i64 (k : Int) ∧ wr = w.drewN n) (fun i _ => l.length - (intOf i).toNat)
  case atStart => exact ⟨0, 0, by omega, rfl, rfl⟩
  case round =>
    obtain ⟨k, n, hk, rfl, rfl⟩ := hrel
    by_cases hkn : k < l.length
    · obtain ⟨b, off, rfl, hc, hd⟩ : ∃ b off, ao = some ⟨b, off, none⟩ ∧ w.cell? ⟨b, off + k * 2, none⟩ = some (.int .u32 (l.getD k (0, ByteArray.empty)).1) ∧ w.cell? ⟨b, off + k * 2 + 1, none⟩ = some (.string (l.getD k (0, ByteArray.empty)).2) := by
        rcases Hid.out H1 with h | ⟨b, off, e, _, h⟩
        · omega
        · exact ⟨b, off, e, h _ _ (cE_at hkn).1, h _ _ (cE_at hkn).2⟩
      obtain ⟨b2, off2, rfl, hc2, hd2⟩ : ∃ b off, bo = some ⟨b, off, none⟩ ∧ w.cell? ⟨b, off + k * 2, none⟩ = some (.int .u32 (l.getD k (0, ByteArray.empty)).1) ∧ w.cell? ⟨b, off + k * 2 + 1, none⟩ = some (.string (l.getD k (0, ByteArray.empty)).2) := by
        rcases Hid.out H2 with h | ⟨b, off, e, _, h⟩
        · omega
        · exact ⟨b, off, e, h _ _ (cE_at hkn).1, h _ _ (cE_at hkn).2⟩
      generalize (l.getD k (0, ByteArray.empty)).1 = x at hc hc2
      generalize (l.getD k (0, ByteArray.empty)).2 = y at hd hd2
      clear H1 H2
      go_wp2
      go_quiet (fail)
      go_wp2
      go_roundw
      case rel => exact ⟨k + 1, _, by omega, by simp, rfl⟩
      case measure => simp [intOf]; omega
    · have hkk : ¬ (k : Int) < (l.length : Int) := by omega
      go_wp2
      go_ret
      exact ⟨rfl, _, rfl⟩
end Go.Proofs.Ytodoenimlhldjaa
namespace Go.Proofs.Ytodoenimlhldjaa
open Go.ChangeShapes Go.WideShapes Go.ChangeAt Go.RowKit
set_option linter.unusedVariables false
theorem sizeCr : (Try.prog.info? 30).map (·.size) = some 5 := by kernel_rfl
theorem wpList_allocCr {ops : Array Oper} {rest : List Oper} {o : Oper} {a : Act} {w : World} {Q : Exit → Act → World → Prop} (hgd : o.guard = none) (ho : o.op = .alloc 30)
    (h : ∀ w1, Blk w1 w.heap.size zCw 30 → w1.heap.size = w.heap.size + 1 → Below w.heap.size w w1 → wpList Try.prog ops Q rest (a.put o.dst (.pointer (some ⟨w.heap.size, 0, none⟩))) w1) : wpList Try.prog ops Q (o :: rest) a w := by
  refine Great.wpList_runTo hgd o.dst rfl (.pointer (some ⟨w.heap.size, 0, none⟩)) (w.alloc (.cells zCw 30)) ?_ (h _ (Blk.new w _ _) (by simp) (below_new w _))
  obtain ⟨dst, op, ty, pos, aft, gd⟩ := o
  simp only at ho
  subst ho
  kernel_rfl
theorem wpList_loadCr {ops : Array Oper} {rest : List Oper} {o : Oper} {a : Act} {w : World} {Q : Exit → Act → World → Prop} (hgd : o.guard = none) (x : Operand) (ho : o.op = .load 30 x)
    (g : Nat) (cs : Array Value) (hx : a.eval x = .pointer (some ⟨g, 0, none⟩)) (hg : Blk w g cs 30) (hs : cs.size = 5)
    (h : wpList Try.prog ops Q rest (a.put o.dst (.agg cs)) w) : wpList Try.prog ops Q (o :: rest) a w :=
  wpList_load_row hgd 30 x ho g hx 30 cs (0, 0) _ hg Try.underlying30 rfl (by rw [hs]; exact sizeCr) h
theorem wpList_storeCr {ops : Array Oper} {rest : List Oper} {o : Oper} {a : Act} {w : World} {Q : Exit → Act → World → Prop} (hgd : o.guard = none) (hd : o.dst = none) (x y : Operand) (ho : o.op = .store 30 x y)
    (g : Nat) (old cs : Array Value) (hx : a.eval x = .pointer (some ⟨g, 0, none⟩)) (hy : a.eval y = .agg cs) (hg : Blk w g old 30) (ho2 : old.size = 5) (hs : cs.size = 5) (h1 : cs.all (·.oneCell') = true)
    (h : ∀ w1, Blk w1 g cs 30 → Only g w w1 → wpList Try.prog ops Q rest a w1) : wpList Try.prog ops Q (o :: rest) a w :=
  wpList_storeG hgd hd 30 x y ho g old cs hx hy hg (by rw [hs]; exact sizeCr) (by rw [ho2, hs]) h1 h
theorem loadCrR {w : World} {g : Nat} {cs : Array Value} (h : Blk w g cs 30) (hs : cs.size = 5) : (loadVar 30 ⟨g, 0, none⟩).run Try.prog w = .ok (.agg cs) w :=
  run_loadVar_row w g 30 30 _ _ _ h Try.underlying30 rfl (by rw [hs]; exact sizeCr)
/-- The world while a call is done: the state and the world that came in, both answers' blocks. -/
structure WB (F : Nat → Prop) (w : World) (n q : Nat) (v : SV) (cw : Array Value) (wr : World) : Prop where
  keep : Keep F w wr
  s : Blk wr n v.c 26
  c : Blk wr (n + 1) cw 30
  rs : Blk wr q SV.zero.c 26
  rw : Blk wr (q + 1) zCw 30
  nn : w.heap.size = n
  hq : n + 1 + 1 = q
theorem WB.later {F : Nat → Prop} {w : World} {n q : Nat} {v : SV} {cw : Array Value} {wr w' : World} (h : WB F w n q v cw wr) (hb : Below wr.heap.size wr w') : WB F w n q v cw w' := ⟨⟨hb.os.trans h.keep.os, hb.tape.trans h.keep.tape, hb.output.trans h.keep.output, Nat.le_trans h.keep.size hb.size, fun b hl hn => (hb.block b (Nat.lt_of_lt_of_le hl h.keep.size)).trans (h.keep.block b hl hn)⟩, h.s.later hb, h.c.later hb, h.rs.later hb, h.rw.later hb, h.nn, h.hq⟩
theorem WB.wide {F G : Nat → Prop} {w : World} {n q : Nat} {v : SV} {cw : Array Value} {wr : World} (h : WB F w n q v cw wr) (hg : ∀ b, F b → G b) : WB G w n q v cw wr := ⟨h.keep.mono (fun b _ hb => hg b hb), h.s, h.c, h.rs, h.rw, h.nn, h.hq⟩
theorem WB.mk4 {F : Nat → Prop} {w w1 w2 w3 w4 : World} {n q : Nat} {v : SV} {cw : Array Value} (hn : w.heap.size = n) (hq : n + 1 + 1 = q) (k1 : Blk w1 n v.c 26) (s1 : w1.heap.size = n + 1) (b1 : Below n w w1) (k2 : Blk w2 (n + 1) cw 30) (s2 : w2.heap.size = q) (b2 : Below (n + 1) w1 w2) (k3 : Blk w3 q SV.zero.c 26) (s3 : w3.heap.size = q + 1) (b3 : Below q w2 w3) (k4 : Blk w4 (q + 1) zCw 30) (b4 : Below (q + 1) w3 w4) : WB F w n q v cw w4 :=
  ⟨Keep.of_below (by rw [hn]; exact ((b1.trans (b2.mono (by omega))).trans (b3.mono (by omega))).trans (b4.mono (by omega))), ((k1.later (by rw [s1]; exact b2)).later (by rw [s2]; exact b3)).later (by rw [s3]; exact b4), (k2.later (by rw [s2]; exact b3)).later (by rw [s3]; exact b4), k3.later (by rw [s3]; exact b4), k4, hn, hq⟩
theorem WB.turn {F : Nat → Prop} {w : World} {n q : Nat} {v : SV} {cw : Array Value} {wr w' : World} (h : WB F w n q v cw wr) (k : Keep F wr w') (hF : ∀ b, F b → b < n) : WB F w n q v cw w' :=
  ⟨h.keep.trans k fun _ _ e => e, (k.block n h.s.lt (fun e => by have := hF _ e; omega)).trans h.s, (k.block (n + 1) h.c.lt (fun e => by have := hF _ e; omega)).trans h.c, (k.block q h.rs.lt (fun e => by have := hF _ e; have := h.hq; omega)).trans h.rs, (k.block (q + 1) h.rw.lt (fun e => by have := hF _ e; have := h.hq; omega)).trans h.rw, h.nn, h.hq⟩
theorem WB.putW {F : Nat → Prop} {w : World} {n q : Nat} {v : SV} {cw cw' : Array Value} {wr w' : World} (h : WB F w n q v cw wr) (ho : Only (n + 1) wr w') (hk : Blk w' (n + 1) cw' 30) : WB F w n q v cw' w' :=
  ⟨⟨ho.os.trans h.keep.os, ho.tape.trans h.keep.tape, ho.output.trans h.keep.output, by rw [ho.size]; exact h.keep.size, fun b hl hn => (ho.block b (by have := h.nn; omega)).trans (h.keep.block b hl hn)⟩, h.s.only ho (by omega), hk, h.rs.only ho (by have := h.hq; omega), h.rw.only ho (by have := h.hq; omega), h.nn, h.hq⟩
theorem WB.regs {F : Nat → Prop} {w : World} {n q : Nat} {v : SV} {cw : Array Value} {wr : World} {r2 r4 r5 r6 : Int} (h : WB F w n q v cw wr) (hv : v.R.length = 32) (h2 : v.R.getD 2 0 = r2) (h4 : v.R.getD 4 0 = r4) (h5 : v.R.getD 5 0 = r5) (h6 : v.R.getD 6 0 = r6) : WR wr n r2 r4 r5 r6 :=
  ⟨by rw [← h2]; exact h.s.cell (SV.getR hv (by omega)), by rw [← h4]; exact h.s.cell (SV.getR hv (by omega)), by rw [← h5]; exact h.s.cell (SV.getR hv (by omega)), by rw [← h6]; exact h.s.cell (SV.getR hv (by omega))⟩
theorem WB.both {F : Nat → Prop} {w : World} {n q : Nat} {v : SV} {cw : Array Value} {wr w' : World} {A B : Obj} (h : WB F w n q v cw wr) (hR : RF [(q, A), (q + 1, B)] wr w') : Keep F w w' :=
  ⟨hR.os.trans h.keep.os, hR.tape.trans h.keep.tape, hR.output.trans h.keep.output, Nat.le_trans h.keep.size hR.size, fun b hl hn => by
    have hb := hR.below (N := n) (by have := h.nn; have := h.keep.size; omega) (rf2_lo (by have := h.hq; omega))
    exact (hb.block b (by have := h.nn; omega)).trans (h.keep.block b hl hn)⟩
theorem WB.turn2 {G : Nat → Prop} {w : World} {n q : Nat} {v : SV} {cw : Array Value} {wr w' : World} (h : WB nought w n q v cw wr) (k : Keep G wr w') (hG : ∀ b, G b → q + 1 < b) : WB nought w n q v cw w' :=
  ⟨⟨k.os.trans h.keep.os, k.tape.trans h.keep.tape, k.output.trans h.keep.output, Nat.le_trans h.keep.size k.size, fun b hl hn => (k.block b (Nat.lt_of_lt_of_le hl h.keep.size) (fun e => by have := hG _ e; have := h.nn; have := h.hq; omega)).trans (h.keep.block b hl hn)⟩, (k.block n h.s.lt (fun e => by have := hG _ e; have := h.hq; omega)).trans h.s, (k.block (n + 1) h.c.lt (fun e => by have := hG _ e; have := h.hq; omega)).trans h.c, (k.block q h.rs.lt (fun e => by have := hG _ e; omega)).trans h.rs, (k.block (q + 1) h.rw.lt (fun e => by have := hG _ e; omega)).trans h.rw, h.nn, h.hq⟩
theorem WB.putS {F : Nat → Prop} {w : World} {n q : Nat} {v v' : SV} {cw : Array Value} {wr w' : World} (h : WB F w n q v cw wr) (ho : Only n wr w') (hk : Blk w' n v'.c 26) : WB F w n q v' cw w' :=
  ⟨⟨ho.os.trans h.keep.os, ho.tape.trans h.keep.tape, ho.output.trans h.keep.output, by rw [ho.size]; exact h.keep.size, fun b hl hn => (ho.block b (by have := h.nn; omega)).trans (h.keep.block b hl hn)⟩, hk, h.c.only ho (by omega), h.rs.only ho (by have := h.hq; omega), h.rw.only ho (by have := h.hq; omega), h.nn, h.hq⟩
theorem WB.bel {w : World} {n q : Nat} {v : SV} {cw : Array Value} {wr : World} (h : WB nought w n q v cw wr) : Below w.heap.size w wr := h.keep.below (Nat.le_refl _) fun _ hb => hb.elim
theorem WB.sz {F : Nat → Prop} {w : World} {n q : Nat} {v : SV} {cw : Array Value} {wr : World} (h : WB F w n q v cw wr) : q + 2 ≤ wr.heap.size := h.rw.lt
set_option maxRecDepth 20000 in
set_option maxHeartbeats 1000000 in
theorem ron_any (v : SV) (hv : v.R.length = 32) (w : World) : Calls Try.prog 40 #[.agg v.c] w fun e w' => e = .returned (.agg v.on.c) ∧ Below w.heap.size w w' := by
  obtain ⟨n, hn⟩ : ∃ n, w.heap.size = n := ⟨_, rfl⟩
  have HV := hidden hv
  have hix : ∀ u, (Instr.indexAt 24 (.pointer (some ⟨n, 0, none⟩)) (.int .i64 0)).run Try.prog u = .ok (.pointer (some ⟨n, 0, none⟩)) u := fun u => index_reg n 0 (by omega) u
  have L3 : Hid ((v.R.set 0 0).length = 32) := hidden (by rw [List.length_set]; exact hv)
  obtain ⟨C, hC⟩ : ∃ C, v.c = C := ⟨_, rfl⟩
  rw [hC]
  have HC := hidden hC
  clear hC hv
  go_enter Try.func40, Try.ntmps40
  go_wp2_with (first
    | (refine wpList_boxG rfl 26 _ rfl C rfl ?_; rintro w1 k1 s1 b1; rw [hn] at k1 s1 b1 ⊢; have K1 : Hid (Blk w1 n v.c 26) := hidden (by rw [HC.out]; exact k1); have S1 := hidden s1; have B1 := hidden b1; clear k1 s1 b1)
    | (refine wpList_allocV rfl rfl ?_; rintro w2 k2 s2 b2; rw [S1.out] at k2 s2 b2 ⊢; have k3 := K1.out.later (by rw [S1.out]; exact b2); have K2 := hidden k3; have c3 : w2.cell? ⟨n, 35, none⟩ = some (.int .u32 v.nx) := k3.cell (SV.get_nx HV.out); have R2 := hidden k2; have B2 := hidden (B1.out.trans (b2.mono (by omega))); clear k2 s2 b2 k3)
    | (refine wpList_set_pc rfl rfl _ _ rfl n v v.nx rfl rfl K2.out HV.out ?_; rintro w4 k4 o4; clear c3; have c3 : w4.cell? ⟨n, 35, none⟩ = some (.int .u32 v.nx) := k4.cell (SV.get_nx (s := { v with pc := v.nx }) HV.out); have K4 := hidden k4; have R4 := hidden (R2.out.only o4 (by omega)); have B4 := hidden (Below.only B2.out o4 (Nat.le_refl n)); clear k4 o4)
    | (refine wpList_set_nx rfl rfl _ _ rfl n { v with pc := v.nx } ((v.nx + 4) % 4294967296) rfl rfl K4.out HV.out ?_; rintro w5 k5 o5; have K5 := hidden k5; have R5 := hidden (R4.out.only o5 (by omega)); have B5 := hidden (Below.only B4.out o5 (Nat.le_refl n)); clear k5 o5 c3)
    | (refine wpList_set_sl rfl rfl _ _ rfl n { v with pc := v.nx, nx := (v.nx + 4) % 4294967296 } false rfl rfl K5.out HV.out ?_; rintro w6 k6 o6; have K6 := hidden k6; have R6 := hidden (R5.out.only o6 (by omega)); have B6 := hidden (Below.only B5.out o6 (Nat.le_refl n)); clear k6 o6)
    | (refine wpList_setR rfl rfl _ _ rfl n 0 { v with pc := v.nx, nx := (v.nx + 4) % 4294967296, sl := false } 0 rfl rfl K6.out HV.out (by omega) ?_; rintro w7 k7 o7; have K7 := hidden k7; have R7 := hidden (R6.out.only o7 (by omega)); have B7 := hidden (Below.only B6.out o7 (Nat.le_refl n)); clear k7 o7)
    | (refine wpList_loadV rfl _ rfl n v.on rfl K7.out L3.out ?_)
    | (refine wpList_storeV rfl rfl _ _ rfl (n + 1) SV.zero v.on rfl rfl R7.out rfl L3.out ?_; rintro w8 k8 o8; have K8 := hidden k8; have B8 := hidden (Below.only B7.out o8 (by omega)); clear k8 o8))
  exact bodyPost_ret (results_cell_row rfl _ _ (n + 1) 26 v.on.c (0, 0) _ rfl K8.out Try.underlying26 rfl (by rw [SV.size L3.out]; exact sizeSV)) rfl ⟨rfl, (by first | exact B8.out | (rw [hn]; exact B8.out))⟩
set_option maxRecDepth 20000 in
set_option maxHeartbeats 1000000 in
theorem back_any (v : SV) (hv : v.R.length = 32) (a b : Int) (w : World) : Calls Try.prog 43 #[.agg v.c, .int .u32 a, .int .u32 b] w fun e w' => e = .returned (.agg (ansV v a b).c) ∧ Below w.heap.size w w' := by
  obtain ⟨n, hn⟩ : ∃ n, w.heap.size = n := ⟨_, rfl⟩
  have HV := hidden hv
  have hi2 : ∀ g u, (Instr.indexAt 24 (.pointer (some ⟨g, 0, none⟩)) (.int .i64 2)).run Try.prog u = .ok (.pointer (some ⟨g, 2, none⟩)) u := fun g u => index_reg g 2 (by omega) u
  have hi7 : ∀ g u, (Instr.indexAt 24 (.pointer (some ⟨g, 0, none⟩)) (.int .i64 7)).run Try.prog u = .ok (.pointer (some ⟨g, 7, none⟩)) u := fun g u => index_reg g 7 (by omega) u
  have HON := hidden (fun u => ron_any v hv u)
  have L1 := hidden (SV.on_len hv)
  have L2 : Hid ((v.on.R.set 2 a).length = 32) := hidden (by rw [List.length_set]; exact SV.on_len hv)
  have L3 := hidden (ansV_len hv a b)
  obtain ⟨C, hC⟩ : ∃ C, v.c = C := ⟨_, rfl⟩
  rw [hC]
  have HC := hidden hC
  clear hC hv
  go_enter Try.func43, Try.ntmps43
  go_wp2_with (first
    | (refine wpList_boxG rfl 26 _ rfl C rfl ?_; rintro w1 k1 s1 b1; rw [hn] at k1 s1 b1 ⊢; have K1 : Hid (Blk w1 n v.c 26) := hidden (by rw [HC.out]; exact k1); have S1 := hidden s1; have B1 := hidden b1; clear k1 s1 b1)
    | (refine wpList_allocV rfl rfl ?_; rintro w2 k2 s2 b2; rw [S1.out] at k2 s2 b2 ⊢; have K2 := hidden (K1.out.later (by rw [S1.out]; exact b2)); have R2 := hidden k2; have B2 := hidden (B1.out.trans (b2.mono (by omega))); have S2 := hidden s2; clear k2 s2 b2 K1 B1 S1)
    | (refine wpList_loadV rfl _ rfl n v rfl K2.out HV.out ?_)
    | (go_at_call 40; refine (HON.out _).mono ?_; rintro e w3 ⟨rfl, b3⟩; have R3 := hidden (R2.out.later b3); have B3 := hidden (B2.out.trans (b3.mono (by have := S2.out; omega))); obtain ⟨g, hg⟩ : ∃ g, w3.heap.size = g := ⟨_, rfl⟩; have HG := hidden hg; have HGN : Hid (n + 2 ≤ g) := hidden (by rw [← hg]; have := b3.size; have := S2.out; omega); clear b3 K2 R2 B2 HON hg)
    | (refine wpList_allocV rfl rfl ?_; rintro w4 k4 s4 b4; rw [HG.out] at k4 s4 b4 ⊢; have R4 := hidden (R3.out.later (by rw [HG.out]; exact b4)); have B4 := hidden (B3.out.trans (b4.mono (by have := HGN.out; omega))); have K4 := hidden k4; clear k4 s4 b4 R3 B3)
    | (refine wpList_storeV rfl rfl _ _ rfl g SV.zero v.on rfl rfl K4.out rfl L1.out ?_; rintro w5 k5 o5; have K5 := hidden k5; have R5 := hidden (R4.out.only o5 (by have := HGN.out; omega)); have B5 := hidden (Below.only B4.out o5 (by have := HGN.out; omega)); clear k5 o5 K4 R4 B4)
    | (refine wpList_setR rfl rfl _ _ rfl g 2 v.on a rfl rfl K5.out L1.out lt32_2 ?_; rintro w6 k6 o6; have K6 := hidden k6; have R6 := hidden (R5.out.only o6 (by have := HGN.out; omega)); have B6 := hidden (Below.only B5.out o6 (by have := HGN.out; omega)); clear k6 o6)
    | (refine wpList_setR rfl rfl _ _ rfl g 7 { v.on with R := v.on.R.set 2 a } b rfl rfl K6.out L2.out lt32_7 ?_; rintro w7 k7 o7; have K7 : Hid (Blk w7 g (ansV v a b).c 26) := hidden k7; have R7 := hidden (R6.out.only o7 (by have := HGN.out; omega)); have B7 := hidden (Below.only B6.out o7 (by have := HGN.out; omega)); clear k7 o7)
    | (refine wpList_loadV rfl _ rfl g (ansV v a b) rfl K7.out L3.out ?_)
    | (refine wpList_storeV rfl rfl _ _ rfl (n + 1) SV.zero (ansV v a b) rfl rfl R7.out rfl L3.out ?_; rintro w8 k8 o8; have K8 := hidden k8; have B8 := hidden (Below.only B7.out o8 (by omega)); clear k8 o8))
  exact bodyPost_ret (results_cell_row rfl _ _ (n + 1) 26 (ansV v a b).c (0, 0) _ rfl K8.out Try.underlying26 rfl (by rw [SV.size L3.out]; exact sizeSV)) rfl ⟨rfl, (by first | exact B8.out | (rw [hn]; exact B8.out))⟩
set_option maxRecDepth 20000 in
set_option maxHeartbeats 1000000 in
theorem there_any (w : World) (s : MS) (t : S5) (a n : Nat) (p : Int) (h : M5 w t) (hs : Sim s t.l) (ha : a < 4294967296) (hn : n ≤ 16384) : Calls Try.prog 68 #[.pointer (some ⟨t.m, 0, none⟩), .int .u32 (a : Int), .int .i64 (n : Int), .int .i64 p] w fun e w' => e = .returned (.bool (mayB s a n p)) ∧ ∃ k, w' = w.drewN k := by
  obtain ⟨mb, hmb⟩ : ∃ mb, t.m = mb := ⟨_, rfl⟩
  have HP : Hid (∀ (k : Nat) (b : Nat), b < 4294967296 → Calls Try.prog 47 #[.pointer (some ⟨mb, 0, none⟩), .int .u32 (b : Int)] (w.drewN k) fun e w' => e = .returned (.int .i64 (s.perm b)) ∧ w' = w.drewN k) := hidden (fun k b hb => by
    have h2 := (h.later (below_drewN (Below.refl _ _) k)).permC b hb
    rw [hmb, hs.perm] at h2
    exact h2)
  rw [hmb]
  clear h hmb hs
  go_enter Try.func68, Try.ntmps68
  go_wp2
  go_loopw [9] (fun x9 wr => ∃ (k : Nat) (m : Nat), k ≤ n ∧ x9 = .int .i64 (k : Int) ∧ wr = w.drewN m ∧ ∀ j, j < k → bits .and .i64 (s.perm (wrapAt a j)) p ≠ 0) (fun x9 _ => n - (intOf x9).toNat)
  case atStart => exact ⟨0, 0, by omega, rfl, (World.drewN_zero w).symm, fun j hj => by omega⟩
  case round =>
    obtain ⟨k, m, hk, rfl, rfl, hall⟩ := hrel
    have HALL := hidden hall
    clear hall
    by_cases hlt : k < n
    · have hl : (k : Int) < (n : Int) := by omega
      obtain ⟨b, hb⟩ : ∃ b : Nat, ((a : Int) + (k : Int)) % 4294967296 = (b : Int) := ⟨(a + k) % 4294967296, by omega⟩
      have HB : Hid (wrapAt a k = b) := hidden (by unfold wrapAt; omega)
      have HPC := hidden (HP.out m b (by omega))
      obtain ⟨z, hz⟩ : ∃ z, bits .and .i64 (s.perm b) p = z := ⟨_, rfl⟩
      have HZ := hidden hz
      have hk0 : (k : Int) < 4294967296 := by omega
      have hkn : (0 : Int) ≤ (k : Int) := by omega
      clear hz
      by_cases hz0 : z = 0
      · have e0 : (z == 0) = true := beq_iff_eq.2 hz0
        have HN : Hid (mayB s a n p = false) := hidden (mayB_no hlt (by rw [HB.out, HZ.out, hz0]))
        clear hz0
        go_wp2_with (first
          | (go_at_call 47; refine HPC.out.mono ?_; rintro e w2 ⟨rfl, hww⟩; have HM := hidden hww; clear hww)
          | (refine wpList_andI rfl _ _ rfl (s.perm b) p z rfl rfl HZ.out ?_))
        go_ret
        exact ⟨by rw [HN.out]; rfl, m, HM.out⟩
      · have e0 : (z == 0) = false := beq_eq_false_iff_ne.2 hz0
        have HN : Hid (∀ j, j < k + 1 → bits .and .i64 (s.perm (wrapAt a j)) p ≠ 0) := hidden (fun j hj => by
          by_cases hjk : j < k
          · exact HALL.out j hjk
          · obtain rfl : j = k := by omega
            rw [HB.out, HZ.out]
            exact hz0)
        have HK : Hid (k + 1 ≤ n) := hidden (by omega)
        clear hz0
        go_wp2_with (first
          | (go_at_call 47; refine HPC.out.mono ?_; rintro e w2 ⟨rfl, hww⟩; have HM := hidden hww; clear hww)
          | (refine wpList_andI rfl _ _ rfl (s.perm b) p z rfl rfl HZ.out ?_))
        go_roundw
        case rel => exact ⟨k + 1, m, HK.out, by first | rfl | simp, HM.out, HN.out⟩
        case measure => have := HK.out; simp [intOf]; omega
    · have hl : ¬ (k : Int) < (n : Int) := by omega
      have HN : Hid (mayB s a n p = true) := hidden (mayB_yes fun j hj => HALL.out j (by omega))
      go_wp2
      go_ret
      exact ⟨by rw [HN.out]; rfl, m, rfl⟩
end Go.Proofs.Ytodoenimlhldjaa
namespace Go.Proofs.Ytodoenimlhldjaa
open Go.ChangeShapes Go.WideShapes Go.ChangeAt Go.RowKit
set_option linter.unusedVariables false
/-- A world that is not too much. -/
def FewW (zn ln en : Nat) (a us : Int) : Prop := (zn : Int) ≤ 5000 ∧ (ln : Int) ≤ 300 ∧ (en : Int) ≤ 20 ∧ 0 ≤ a ∧ a ≤ (zn : Int) ∧ 0 ≤ us ∧ us ≤ (ln : Int)
def FewAll (e : List (Int × ByteArray)) (zn ln en : Nat) (a us : Int) : Prop := (∀ j, j < en → j < 20 → ((e.getD j (0, ByteArray.empty)).2.size : Int) ≤ 2000) ∧ FewW zn ln en a us
def FewK (e : List (Int × ByteArray)) (k : Nat) : Prop := ∀ j, j < k → ((e.getD j (0, ByteArray.empty)).2.size : Int) ≤ 2000
def FewR (e : List (Int × ByteArray)) (zn ln en : Nat) (a us : Int) (x : Ending) : Prop := ∃ b, x = .returned (.bool b) ∧ (b = true → FewAll e zn ln en a us) ∧ (FewAll e zn ln en a us → b = true)
theorem FewR.mk {e : List (Int × ByteArray)} {zn ln en : Nat} {a us : Int} {x : Ending} (h : ∃ b, x = .returned (.bool b) ∧ (b = true → FewAll e zn ln en a us) ∧ (FewAll e zn ln en a us → b = true)) : FewR e zn ln en a us x := h
set_option maxRecDepth 20000 in
set_option maxHeartbeats 2000000 in
theorem few12_any (w : World) (inp : ByteArray) (a us : Int) (ao : Option Addr) (cap : Nat) (ev : Value) (l : List Int) (e : List (Int × ByteArray)) (he : Rw w 2 ev e.length (cE e)) (hel : e.length ≤ 9223372036854775807) : Calls Try.prog 9 #[.agg (cwC inp a (.slice ao l.length cap) us ev)] w fun x w' => FewR e inp.size l.length e.length a us x ∧ Below w.heap.size w w' := by
  obtain ⟨n, hn⟩ : ∃ n, w.heap.size = n := ⟨_, rfl⟩
  obtain ⟨_, eo, ecap, rfl, hev⟩ := he
  have HEV := hidden hev
  have HEC : Hid (∀ k, k < e.length → (cE e)[k * 2 + 1]? = some (.string (e.getD k (0, ByteArray.empty)).2)) := hidden (fun k hk => (cE_at hk).2)
  obtain ⟨zn, hzn⟩ : ∃ zn, inp.size = zn := ⟨_, rfl⟩
  obtain ⟨ln, hln⟩ : ∃ ln, l.length = ln := ⟨_, rfl⟩
  obtain ⟨en, hen⟩ : ∃ en, e.length = en := ⟨_, rfl⟩
  rw [hen] at HEV HEC hel
  rw [hzn, hln, hen]
  have HEL := hidden hel
  obtain ⟨CW, hCW⟩ : ∃ CW, cwC inp a (.slice ao ln cap) us (.slice eo en ecap) = CW := ⟨_, rfl⟩
  have HCW := hidden hCW
  rw [hCW]
  have HZ := hidden hzn
  clear hCW hev hel hln hen hzn
  go_enter Try.func9, Try.ntmps9
  go_wp2_with (first
    | (refine wpList_boxG rfl 30 _ rfl CW rfl ?_; rintro w1 k1 s1 b1; have B1 := hidden b1; rw [hn] at k1 s1 b1 ⊢; rw [← HCW.out] at k1; have c0 := k1.cell (j := 0) rfl; have c1 := k1.cell (j := 1) rfl; have c2 := k1.cell (j := 2) rfl; have c3 := k1.cell (j := 3) rfl; have c4 := k1.cell (j := 4) rfl; clear k1 s1 b1))
  go_loopw [3] (fun i wr => ∃ (k : Nat), k ≤ en ∧ i = .int .i64 (k : Int) ∧ wr = w1 ∧ FewK e k) (fun i _ => en - (intOf i).toNat)
  case atStart => exact ⟨0, by omega, rfl, rfl, fun j hj => absurd hj (by omega)⟩
  case round =>
    obtain ⟨k, hk, rfl, rfl, hinv⟩ := hrel
    have HINV := hidden hinv
    clear hinv
    have HZS := HZ.out
    cases hlt : decide ((k : Int) < (en : Int)) with
    | false =>
      have hltn : ¬ (k : Int) < (en : Int) := of_decide_eq_false hlt
      cases q0 : decide ((zn : Int) ≤ 5000) with
      | false =>
        go_wp2
        go_ret
        exact ⟨FewR.mk ⟨_, rfl, fun h => by first | cases h | simp at h, fun h => absurd (h.2.1) (of_decide_eq_false q0)⟩, by first | exact B1.out | (rw [← hn]; exact B1.out) | (rw [hn]; exact B1.out)⟩
      | true =>
        cases q1 : decide ((ln : Int) ≤ 300) with
        | false =>
          go_wp2
          go_ret
          exact ⟨FewR.mk ⟨_, rfl, fun h => by first | cases h | simp at h, fun h => absurd (h.2.2.1) (of_decide_eq_false q1)⟩, by first | exact B1.out | (rw [← hn]; exact B1.out) | (rw [hn]; exact B1.out)⟩
        | true =>
          cases q2 : decide ((en : Int) ≤ 20) with
          | false =>
            go_wp2
            go_ret
            exact ⟨FewR.mk ⟨_, rfl, fun h => by first | cases h | simp at h, fun h => absurd (h.2.2.2.1) (of_decide_eq_false q2)⟩, by first | exact B1.out | (rw [← hn]; exact B1.out) | (rw [hn]; exact B1.out)⟩
          | true =>
            cases q3 : decide (0 ≤ a) with
            | false =>
              go_wp2
              go_ret
              exact ⟨FewR.mk ⟨_, rfl, fun h => by first | cases h | simp at h, fun h => absurd (h.2.2.2.2.1) (of_decide_eq_false q3)⟩, by first | exact B1.out | (rw [← hn]; exact B1.out) | (rw [hn]; exact B1.out)⟩
            | true =>
              cases q4 : decide (a ≤ (zn : Int)) with
              | false =>
                go_wp2
                go_ret
                exact ⟨FewR.mk ⟨_, rfl, fun h => by first | cases h | simp at h, fun h => absurd (h.2.2.2.2.2.1) (of_decide_eq_false q4)⟩, by first | exact B1.out | (rw [← hn]; exact B1.out) | (rw [hn]; exact B1.out)⟩
              | true =>
                cases q5 : decide (0 ≤ us) with
                | false =>
                  go_wp2
                  go_ret
                  exact ⟨FewR.mk ⟨_, rfl, fun h => by first | cases h | simp at h, fun h => absurd (h.2.2.2.2.2.2.1) (of_decide_eq_false q5)⟩, by first | exact B1.out | (rw [← hn]; exact B1.out) | (rw [hn]; exact B1.out)⟩
                | true =>
                  cases q6 : decide (us ≤ (ln : Int)) with
                  | false =>
                    go_wp2
                    go_ret
                    exact ⟨FewR.mk ⟨_, rfl, fun h => by first | cases h | simp at h, fun h => absurd (h.2.2.2.2.2.2.2) (of_decide_eq_false q6)⟩, by first | exact B1.out | (rw [← hn]; exact B1.out) | (rw [hn]; exact B1.out)⟩
                  | true =>
                    go_wp2
                    go_ret
                    exact ⟨FewR.mk ⟨_, rfl, fun _ => ⟨fun j h1 h2 => HINV.out j (by omega), of_decide_eq_true q0, of_decide_eq_true q1, of_decide_eq_true q2, of_decide_eq_true q3, of_decide_eq_true q4, of_decide_eq_true q5, of_decide_eq_true q6⟩, fun _ => rfl⟩, by first | exact B1.out | (rw [← hn]; exact B1.out) | (rw [hn]; exact B1.out)⟩
    | true =>
      cases h20 : decide ((k : Int) < 20) with
      | false =>
        have hltn : (k : Int) < (en : Int) := of_decide_eq_true hlt
        have h20n : ¬ (k : Int) < 20 := of_decide_eq_false h20
        cases q0 : decide ((zn : Int) ≤ 5000) with
        | false =>
          go_wp2
          go_ret
          exact ⟨FewR.mk ⟨_, rfl, fun h => by first | cases h | simp at h, fun h => absurd (h.2.1) (of_decide_eq_false q0)⟩, by first | exact B1.out | (rw [← hn]; exact B1.out) | (rw [hn]; exact B1.out)⟩
        | true =>
          cases q1 : decide ((ln : Int) ≤ 300) with
          | false =>
            go_wp2
            go_ret
            exact ⟨FewR.mk ⟨_, rfl, fun h => by first | cases h | simp at h, fun h => absurd (h.2.2.1) (of_decide_eq_false q1)⟩, by first | exact B1.out | (rw [← hn]; exact B1.out) | (rw [hn]; exact B1.out)⟩
          | true =>
            cases q2 : decide ((en : Int) ≤ 20) with
            | false =>
              go_wp2
              go_ret
              exact ⟨FewR.mk ⟨_, rfl, fun h => by first | cases h | simp at h, fun h => absurd (h.2.2.2.1) (of_decide_eq_false q2)⟩, by first | exact B1.out | (rw [← hn]; exact B1.out) | (rw [hn]; exact B1.out)⟩
            | true =>
              cases q3 : decide (0 ≤ a) with
              | false =>
                go_wp2
                go_ret
                exact ⟨FewR.mk ⟨_, rfl, fun h => by first | cases h | simp at h, fun h => absurd (h.2.2.2.2.1) (of_decide_eq_false q3)⟩, by first | exact B1.out | (rw [← hn]; exact B1.out) | (rw [hn]; exact B1.out)⟩
              | true =>
                cases q4 : decide (a ≤ (zn : Int)) with
                | false =>
                  go_wp2
                  go_ret
                  exact ⟨FewR.mk ⟨_, rfl, fun h => by first | cases h | simp at h, fun h => absurd (h.2.2.2.2.2.1) (of_decide_eq_false q4)⟩, by first | exact B1.out | (rw [← hn]; exact B1.out) | (rw [hn]; exact B1.out)⟩
                | true =>
                  cases q5 : decide (0 ≤ us) with
                  | false =>
                    go_wp2
                    go_ret
                    exact ⟨FewR.mk ⟨_, rfl, fun h => by first | cases h | simp at h, fun h => absurd (h.2.2.2.2.2.2.1) (of_decide_eq_false q5)⟩, by first | exact B1.out | (rw [← hn]; exact B1.out) | (rw [hn]; exact B1.out)⟩
                  | true =>
                    cases q6 : decide (us ≤ (ln : Int)) with
                    | false =>
                      go_wp2
                      go_ret
                      exact ⟨FewR.mk ⟨_, rfl, fun h => by first | cases h | simp at h, fun h => absurd (h.2.2.2.2.2.2.2) (of_decide_eq_false q6)⟩, by first | exact B1.out | (rw [← hn]; exact B1.out) | (rw [hn]; exact B1.out)⟩
                    | true =>
                      go_wp2
                      go_ret
                      exact ⟨FewR.mk ⟨_, rfl, fun _ => ⟨fun j h1 h2 => HINV.out j (by omega), of_decide_eq_true q0, of_decide_eq_true q1, of_decide_eq_true q2, of_decide_eq_true q3, of_decide_eq_true q4, of_decide_eq_true q5, of_decide_eq_true q6⟩, fun _ => rfl⟩, by first | exact B1.out | (rw [← hn]; exact B1.out) | (rw [hn]; exact B1.out)⟩
      | true =>
        have hltn : (k : Int) < (en : Int) := of_decide_eq_true hlt
        have h20n : (k : Int) < 20 := of_decide_eq_true h20
        have hkn : k < en := by have := of_decide_eq_true hlt; omega
        obtain ⟨b, off, rfl, hc⟩ : ∃ b off, eo = some ⟨b, off, none⟩ ∧ w.cell? ⟨b, off + k * 2 + 1, none⟩ = some (.string (e.getD k (0, ByteArray.empty)).2) := by
          rcases Hid.out HEV with h | ⟨b, off, e, _, h⟩
          · omega
          · exact ⟨b, off, e, h _ _ (HEC.out k hkn)⟩
        have hc2 := (B1.out.cell (World.block_lt_of_cell? _ _ hc)).trans hc
        obtain ⟨y, hy⟩ : ∃ y, (e.getD k (0, ByteArray.empty)).2 = y := ⟨_, rfl⟩
        rw [hy] at hc2
        have HY := hidden hy
        clear hy
        cases hbig : decide (2000 < (y.size : Int)) with
        | true =>
          have hbn : (2000 : Int) < (y.size : Int) := of_decide_eq_true hbig
          have HBN := hidden hbn
          go_wp2
          go_ret
          exact ⟨FewR.mk ⟨_, rfl, fun h => by first | cases h | simp at h, fun h => by have h2 := h.1 k hkn (by omega); rw [HY.out] at h2; have := HBN.out; omega⟩, by first | exact B1.out | (rw [← hn]; exact B1.out) | (rw [hn]; exact B1.out)⟩
        | false =>
          have hbn : ¬ (2000 : Int) < (y.size : Int) := of_decide_eq_false hbig
          have HNX : Hid (FewK e (k + 1)) := hidden (fun j hj => by
            rcases Nat.lt_or_ge j k with h | h
            · exact HINV.out j h
            · obtain rfl : j = k := by omega
              rw [HY.out]
              omega)
          have HKX : Hid (k + 1 ≤ 9223372036854775807) := hidden (by omega)
          go_wp2
          go_roundw
          case rel => first | exact ⟨k + 1, by omega, by simp, rfl, HNX.out⟩ | (refine ⟨k + 1, by omega, ?_⟩; simp; exact HNX.out)
          case measure => simp [intOf]; omega
end Go.Proofs.Ytodoenimlhldjaa
namespace Go.Proofs.Ytodoenimlhldjaa
open Go.ChangeShapes Go.WideShapes Go.ChangeAt Go.RowKit
set_option linter.unusedVariables false
set_option maxRecDepth 20000 in
set_option maxHeartbeats 2000000 in
theorem same12_any (w : World) (inp : ByteArray) (a us : Int) (rd rd2 ev ev2 : Value) (l : List Int) (e : List (Int × ByteArray)) (h1 : Rw w 1 rd l.length (cI l)) (h2 : Rw w 1 rd2 l.length (cI l)) (h3 : Rw w 2 ev e.length (cE e)) (h4 : Rw w 2 ev2 e.length (cE e)) (hl : l.length ≤ 16384) (hel : e.length ≤ 16384) : Calls Try.prog 16 #[.agg (cwC inp a rd us ev), .agg (cwC inp a rd2 us ev2)] w fun x w' => x = .returned (.bool true) ∧ Below w.heap.size w w' := by
  obtain ⟨n, hn⟩ : ∃ n, w.heap.size = n := ⟨_, rfl⟩
  have HSI := hidden (fun (u : World) (hu : Below w.heap.size w u) => sameInts_any u rd rd2 l (h1.later hu) (h2.later hu) (by omega))
  have HSE := hidden (fun (u : World) (hu : Below w.heap.size w u) => sameEvents_any u ev ev2 e (h3.later hu) (h4.later hu) (by omega))
  have o1 := h1.one
  have o2 := h2.one
  have o3 := h3.one
  have o4 := h4.one
  obtain ⟨_, ao, cap, rfl, _⟩ := h1
  obtain ⟨_, ao2, cap2, rfl, _⟩ := h2
  obtain ⟨_, eo, ecap, rfl, _⟩ := h3
  obtain ⟨_, eo2, ecap2, rfl, _⟩ := h4
  obtain ⟨CW, hCW⟩ : ∃ CW, cwC inp a (.slice ao l.length cap) us (.slice eo e.length ecap) = CW := ⟨_, rfl⟩
  obtain ⟨CX, hCX⟩ : ∃ CX, cwC inp a (.slice ao2 l.length cap2) us (.slice eo2 e.length ecap2) = CX := ⟨_, rfl⟩
  have HCW := hidden hCW
  have HCX := hidden hCX
  rw [hCW, hCX]
  clear hCW hCX hl hel o1 o2 o3 o4
  go_enter Try.func16, Try.ntmps16
  go_upto_region 1 with (first
    | (refine wpList_boxG rfl 38 _ rfl CW rfl ?_; rintro w1 k1 s1 b1; have B1 := hidden b1; rw [hn] at k1 s1 b1 ⊢; have K1 := hidden k1; have S1 := hidden s1; have B1n := hidden b1; clear k1 s1 b1)
    | (refine wpList_boxG rfl 30 _ rfl CX rfl ?_; rintro w2 k2 s2 b2; rw [S1.out] at k2 s2 b2 ⊢; rw [← HCX.out] at k2; have c0 := k2.cell (j := 0) rfl; have c1 := k2.cell (j := 1) rfl; have c2 := k2.cell (j := 2) rfl; have c3 := k2.cell (j := 3) rfl; have c4 := k2.cell (j := 4) rfl; have k3 := K1.out.later (by rw [S1.out]; exact b2); rw [← HCW.out] at k3; have e0 := k3.cell (j := 0) rfl; have e1 := k3.cell (j := 1) rfl; have e2 := k3.cell (j := 2) rfl; have e3 := k3.cell (j := 3) rfl; have e4 := k3.cell (j := 4) rfl; have B2 := hidden (B1.out.trans (b2.mono (by rw [hn]; exact Nat.le_succ n))); clear k2 k3 s2 b2 K1))
  go_wp2_with (first
    | (go_at_call 44; refine (HSI.out _ B2.out).mono ?_; rintro x w4 ⟨rfl, n4, hww⟩; rw [hww]; clear hww w4)
    | (go_at_call 45; refine (HSE.out _ (below_drewN B2.out n4)).mono ?_; rintro x w5 ⟨rfl, n5, hww⟩; rw [hww]; clear hww w5))
  go_ret
  exact ⟨rfl, by first | exact below_drewN (below_drewN B2.out n4) n5 | (rw [← hn]; exact below_drewN (below_drewN B2.out n4) n5) | (have h := below_drewN (below_drewN B2.out n4) n5; simpa using h)⟩
end Go.Proofs.Ytodoenimlhldjaa
namespace Go.Proofs.Ytodoenimlhldjaa
open Go.ChangeShapes Go.WideShapes Go.ChangeAt Go.RowKit Go.Deep
set_option linter.unusedVariables false
theorem cellsE28 : Try.prog.cellsOf 66 = 2 := by kernel_rfl
theorem cellsI27 : Try.prog.cellsOf 27 = 1 := by kernel_rfl
theorem cellsEs28 : Try.prog.cellsOf 28 = 1 := by kernel_rfl
theorem cellsS9 : Try.prog.cellsOf 9 = 1 := by kernel_rfl
theorem cellsW30 : Try.prog.cellsOf 30 = 5 := by kernel_rfl
set_option maxRecDepth 20000 in
theorem open_ev {H : Type} {enc : TypeId × Value → H} {w : World} {base n : Nat} {spare : Nat → Bool} {held : Bool} {a : Addr} {cs : List Value} {x : DataW H × List MemPlace}
    (h1 : w.cells? base a 2 = some cs) (h2 : DataW.trod enc Try.prog w base spare held n 66 cs = some x) :
    ∃ s : Int × ByteArray, w.cell? (a.add 0) = some (.int .u32 s.1) ∧ w.cell? (a.add 1) = some (.string s.2) := by
  obtain ⟨_, hlen, hcell⟩ := World.cells?_some h1
  obtain ⟨xs, k, hk, hxy, _, hxl, hf⟩ := DataW.trod_struct Try.underlying66 h2
  match xs, hxl, cs, hlen with
  | [y0, y1], _, [v0, v1], _ =>
    have g0 := hf 0 _ rfl
    have g1 := hf 1 _ rfl
    simp [cells27, cellsS9] at g0 g1
    obtain ⟨n0, e0, _, w0⟩ := DataW.trod_int Try.underlying23 g0
    obtain ⟨s1, e1, _, hs1⟩ := DataW.trod_string Try.underlying9 g1
    simp only [List.cons.injEq, and_true] at e0 e1
    subst e0 e1
    have c0 := hcell 0 (by omega)
    have c1 := hcell 1 (by omega)
    exact ⟨(n0, s1), by simpa using c0, by simpa using c1⟩
theorem open_evs {H : Type} {enc : TypeId × Value → H} {w : World} {fuel : Nat} {held : Bool} {v : Value} {x : DataW H × List MemPlace} {spare : Nat → Bool}
    (h : DataW.trod enc Try.prog w 0 spare held fuel 28 [v] = some x) : ∃ (e : List (Int × ByteArray)), Rw w 2 v e.length (cE e) ∧ e.length ≤ 9223372036854775807 := by
  rcases open_slice Try.underlying28 h with ⟨hcs, _⟩ | ⟨a, len, cap, m, n, D, Pl, hcs, hb, hl, hm, hmm, _, hx⟩
  · simp only [List.cons.injEq, and_true] at hcs
    subst hcs
    exact ⟨[], rw_nil w 2, by simp⟩
  · simp only [List.cons.injEq, and_true] at hcs
    subst hcs
    simp only [maxLen] at hm
    have hlm : len ≤ m := by rw [hmm]; split <;> omega
    have each : ∀ i, i < len → ∃ s : Int × ByteArray, w.cell? (a.add (i * 2)) = some (.int .u32 s.1) ∧ w.cell? (a.add (i * 2 + 1)) = some (.string s.2) := by
      intro i hi
      obtain ⟨cs', h1, h2⟩ := hx i (by omega)
      rw [cellsE28] at h1
      obtain ⟨s, c0, c1⟩ := open_ev h1 h2
      rw [add_add] at c0 c1
      exact ⟨s, c0, c1⟩
    have hinh : Inhabited (Int × ByteArray) := ⟨(0, ByteArray.empty)⟩
    obtain ⟨f, hf⟩ := choose_lt each
    have hlen : ((List.range len).map f).length = len := by simp
    refine ⟨(List.range len).map f, ⟨by rw [cE_len], some a, cap, by rw [hlen], ?_⟩, by rw [hlen]; omega⟩
    rw [hlen]
    by_cases h0 : len = 0
    · exact .inl h0
    · right
      obtain ⟨b, off, spot⟩ := a
      have hspot : spot = none := by simpa [Addr.add] using World.cell?_spot (hf 0 (by omega)).1
      subst hspot
      refine ⟨b, off, rfl, ?_, fun j u hu => ?_⟩
      · have := World.block_lt_of_cell? _ _ (hf 0 (by omega)).1
        simpa [Addr.add_lit] using this
      · have hj : j < len * 2 := by
          have := (List.getElem?_eq_some_iff.1 hu).1
          rw [cE_len, hlen] at this
          exact this
        obtain ⟨c0, c1⟩ := hf (j / 2) (by omega)
        rw [Addr.add_lit] at c0 c1
        have hk : j / 2 < ((List.range len).map f).length := by rw [hlen]; omega
        obtain ⟨d0, d1⟩ := cE_at hk
        have e : ((List.range len).map f).getD (j / 2) (0, ByteArray.empty) = f (j / 2) := by simp [List.getD_eq_getElem?_getD, show j / 2 < len by omega]
        rw [e] at d0 d1
        rcases Nat.mod_two_eq_zero_or_one j with h2 | h2
        · have e2 : j / 2 * 2 = j := by omega
          rw [e2] at d0 c0
          rw [d0] at hu
          injection hu with hu
          rw [← hu]
          exact c0
        · have e2 : j / 2 * 2 + 1 = j := by omega
          rw [e2] at d1 c1
          rw [d1] at hu
          injection hu with hu
          rw [← hu]
          exact c1
set_option maxRecDepth 20000 in
theorem open_world {H : Type} {enc : TypeId × Value → H} {w : World} {fuel : Nat} {held : Bool} {cs : Array Value} {x : DataW H × List MemPlace} {spare : Nat → Bool}
    (hs : cs.size = 5) (h : DataW.trod enc Try.prog w 0 spare held fuel 30 cs.toList = some x) : ∃ (inp : ByteArray) (at_ : Int) (ao : Option Addr) (cap : Nat) (l : List Int) (us : Int) (ev : Value) (e : List (Int × ByteArray)), cs = cwC inp at_ (.slice ao l.length cap) us ev ∧ Rw w 1 (.slice ao l.length cap) l.length (cI l) ∧ l.length ≤ 9223372036854775807 ∧ Rw w 2 ev e.length (cE e) ∧ e.length ≤ 9223372036854775807 := by
  obtain ⟨xs, k, hk, hxy, _, hxl, hf⟩ := DataW.trod_struct Try.underlying30 h
  match cs, hs with
  | ⟨[v0, v1, v2, v3, v4]⟩, _ =>
    match xs, hxl with
    | [y0, y1, y2, y3, y4], _ =>
      have g0 := hf 0 _ rfl
      have g1 := hf 1 _ rfl
      have g2 := hf 2 _ rfl
      have g3 := hf 3 _ rfl
      have g4 := hf 4 _ rfl
      simp [cells3, cellsS9, cellsI27, cellsEs28] at g0 g1 g2 g3 g4
      obtain ⟨s0, e0, _, _⟩ := DataW.trod_string Try.underlying9 g0
      obtain ⟨n1, e1, _, _⟩ := DataW.trod_int Try.underlying3 g1
      obtain ⟨n3, e3, _, _⟩ := DataW.trod_int Try.underlying3 g3
      obtain ⟨e, he, hel⟩ := open_evs g4
      simp only [List.cons.injEq, and_true] at e0 e1 e3
      subst e0 e1 e3
      have h2 : ∃ (ao : Option Addr) (len cap : Nat), v2 = .slice ao len cap := by
        rcases open_slice Try.underlying27 g2 with ⟨hcs, _⟩ | ⟨a, len, cap, m, n, D, Pl, hcs, _⟩
        · simp only [List.cons.injEq, and_true] at hcs
          exact ⟨_, _, _, hcs⟩
        · simp only [List.cons.injEq, and_true] at hcs
          exact ⟨_, _, _, hcs⟩
      obtain ⟨ao, len, cap, rfl⟩ := h2
      obtain ⟨l, hl, hr, hll⟩ := open_rw g2
      subst hl
      exact ⟨s0, n1, ao, cap, l, n3, v4, e, rfl, hr, hll, he, hel⟩
end Go.Proofs.Ytodoenimlhldjaa

/- Regions with two stores; why bytes can't be moved, walked. -/
import Derived.Test.YtodoenimlhldjaaQMWA
import Derived.Test.YtodoenimlhldjaaQMWB
import Derived.Test.YtodoenimlhldjaaQMBA
import Derived.Test.YtodoenimlhldjaaQMAL
namespace Go.Proofs.Ytodoenimlhldjaa
open Go.ChangeShapes Go.WideShapes Go.ChangeAt Go.RowKit
set_option linter.unusedVariables false
theorem rf2_a {q : Nat} {A B : Obj} : ∀ o, (q, o) ∈ [(q, A), (q + 1, B)] → o = A := by
  intro o ho
  simp only [List.mem_cons, Prod.mk.injEq, List.mem_nil_iff, or_false, true_and] at ho
  rcases ho with h | ⟨h, _⟩
  · exact h
  · omega
theorem rf2_b {q : Nat} {A B : Obj} : ∀ o, (q + 1, o) ∈ [(q, A), (q + 1, B)] → o = B := by
  intro o ho
  simp only [List.mem_cons, Prod.mk.injEq, List.mem_nil_iff, or_false, true_and] at ho
  rcases ho with ⟨h, _⟩ | h
  · omega
  · exact h
theorem rf2_no {q b : Nat} {A B X : Obj} (h1 : b ≠ q) (h2 : b ≠ q + 1) : ∀ o, (b, o) ∈ [(q, A), (q + 1, B)] → o = X := by
  intro o ho
  simp only [List.mem_cons, Prod.mk.injEq, List.mem_nil_iff, or_false] at ho
  rcases ho with ⟨h, _⟩ | ⟨h, _⟩
  · exact absurd h h1
  · exact absurd h h2
theorem rf2_s1 {q n : Nat} {a : Array Value} {T : TypeId} {B : Obj} (h : a.size = n) : ∀ o, (q, o) ∈ [(q, Obj.cells a T (0, 0)), (q + 1, B)] → ∃ cs : Array Value, cs.size = n ∧ o = Obj.cells cs T (0, 0) := fun o ho => ⟨a, h, rf2_a o ho⟩
theorem rf2_s2 {q n : Nat} {a : Array Value} {T : TypeId} {A : Obj} (h : a.size = n) : ∀ o, (q + 1, o) ∈ [(q, A), (q + 1, Obj.cells a T (0, 0))] → ∃ cs : Array Value, cs.size = n ∧ o = Obj.cells cs T (0, 0) := fun o ho => ⟨a, h, rf2_b o ho⟩
theorem rf2_m1 {q : Nat} {A B : Obj} : (q, A) ∈ [(q, A), (q + 1, B)] := List.mem_cons_self
theorem rf2_m2 {q : Nat} {A B : Obj} : (q + 1, B) ∈ [(q, A), (q + 1, B)] := List.mem_cons_of_mem _ List.mem_cons_self
theorem rf2_lo {q N : Nat} {A B : Obj} (h : N ≤ q) : ∀ x ∈ [(q, A), (q + 1, B)], N ≤ x.1 := by
  intro x hx
  simp only [List.mem_cons, List.mem_nil_iff, or_false] at hx
  rcases hx with rfl | rfl
  · exact h
  · exact Nat.le_succ_of_le h
theorem loadSt {w : World} {g : Nat} {v : SV} (h : Blk w g v.c 26) (hv : v.R.length = 32) : (loadVar 26 ⟨g, 0, none⟩).run Try.prog w = .ok (.agg v.c) w :=
  run_loadVar_row w g 26 26 _ _ _ h Try.underlying26 rfl (by rw [SV.size hv]; exact sizeSV)
theorem loadCwR {w : World} {g : Nat} {cs : Array Value} (h : Blk w g cs 38) (hs : cs.size = 5) : (loadVar 38 ⟨g, 0, none⟩).run Try.prog w = .ok (.agg cs) w :=
  run_loadVar_row w g 38 38 _ _ _ h Try.underlying38 rfl (by rw [hs]; exact sizeCw)
theorem loadU {w : World} {a : Addr} {v : Value} (hc : w.cell? a = some v) : (loadVar 23 a).run Try.prog w = .ok v w := by simp [loadVar, isAgg, Sem.run_bind, run_underlying Try.underlying23, hc, go_sem]
theorem exec_indexR {ρ : Operand → Value} {o : Oper} {x y : Operand} {g k : Nat} (hk : k < 32) (hop : o.op = .indexAddr 24 x y) (hx : ρ x = .pointer (some ⟨g, 0, none⟩)) (hy : ρ y = .int .i64 (k : Int)) (w : World) : (execOp ρ o).run Try.prog w = .ok (.value (.pointer (some ⟨g, k, none⟩))) w := by
  have h := index_reg g k hk w
  unfold execOp
  rw [hop]
  simp only [hx, hy, Sem.run_bind, h, Result.andThen_ok, Sem.run_pure]
theorem results_cc {fn : Func} {p q : Tmp} {ty tz : TypeId} (h : fn.results = #[.cell p ty, .cell q tz]) (tmps : Array Value) (w : World) (g g2 : Nat) (v v2 : Value)
    (hp : tmps.getD p undef = .pointer (some ⟨g, 0, none⟩)) (hq : tmps.getD q undef = .pointer (some ⟨g2, 0, none⟩)) (hv : (loadVar ty ⟨g, 0, none⟩).run Try.prog w = .ok v w) (hv2 : (loadVar tz ⟨g2, 0, none⟩).run Try.prog w = .ok v2 w) :
    (results fn tmps).run Try.prog w = .ok (.tuple #[v, v2]) w := by
  have hp' : tmps[p]?.getD undef = .pointer (some ⟨g, 0, none⟩) := by simpa using hp
  have hq' : tmps[q]?.getD undef = .pointer (some ⟨g2, 0, none⟩) := by simpa using hq
  simp [results, h, hp', hq', asAddr, hv, hv2]
theorem results_cctt {fn : Func} {p q t r : Tmp} {ty tz : TypeId} (h : fn.results = #[.cell p ty, .cell q tz, .tmp t, .tmp r]) (tmps : Array Value) (w : World) (g g2 : Nat) (v v2 : Value)
    (hp : tmps.getD p undef = .pointer (some ⟨g, 0, none⟩)) (hq : tmps.getD q undef = .pointer (some ⟨g2, 0, none⟩)) (hv : (loadVar ty ⟨g, 0, none⟩).run Try.prog w = .ok v w) (hv2 : (loadVar tz ⟨g2, 0, none⟩).run Try.prog w = .ok v2 w) :
    (results fn tmps).run Try.prog w = .ok (.tuple #[v, v2, tmps.getD t undef, tmps.getD r undef]) w := by
  have hp' : tmps[p]?.getD undef = .pointer (some ⟨g, 0, none⟩) := by simpa using hp
  have hq' : tmps[q]?.getD undef = .pointer (some ⟨g2, 0, none⟩) := by simpa using hq
  simp [results, h, hp', hq', asAddr, hv, hv2]
/-- Why bytes can't be moved for a call. -/
def refV (s : MS) (v : SV) (file : Bool) (p : Int) : Int := if file = false then 9 else if 16384 < v.R.getD 6 0 then 22 else if mayB s (v.R.getD 5 0).toNat (v.R.getD 6 0).toNat p = true then 0 else 14
set_option maxRecDepth 20000 in
set_option maxHeartbeats 1000000 in
theorem refusal_any (w : World) (s : MS) (h : MemW w s) (v : SV) (hv : v.ok) (file : Bool) (p : Int) : Calls Try.prog 64 #[.pointer (some ⟨s.mb, 0, none⟩), .agg v.c, .bool file, .int .i64 p] w fun e w' => e = .returned (.int .u32 (refV s v file p)) ∧ Below w.heap.size w w' := by
  obtain ⟨n, hn⟩ : ∃ n, w.heap.size = n := ⟨_, rfl⟩
  have HV := hidden hv.1
  have hi5 : ∀ u, (Instr.indexAt 24 (.pointer (some ⟨n, 0, none⟩)) (.int .i64 5)).run Try.prog u = .ok (.pointer (some ⟨n, 5, none⟩)) u := fun u => index_reg n 5 (by omega) u
  have hi6 : ∀ u, (Instr.indexAt 24 (.pointer (some ⟨n, 0, none⟩)) (.int .i64 6)).run Try.prog u = .ok (.pointer (some ⟨n, 6, none⟩)) u := fun u => index_reg n 6 (by omega) u
  obtain ⟨r5, h5⟩ : ∃ r5 : Nat, v.R.getD 5 0 = (r5 : Int) := ⟨(v.R.getD 5 0).toNat, by have := (hv.2.1 5 (by omega)).1; omega⟩
  obtain ⟨r6, h6⟩ : ∃ r6 : Nat, v.R.getD 6 0 = (r6 : Int) := ⟨(v.R.getD 6 0).toNat, by have := (hv.2.1 6 (by omega)).1; omega⟩
  have l5 : r5 < 4294967296 := by have := (hv.2.1 5 (by omega)).2; omega
  obtain ⟨rv, hrv⟩ : ∃ z, refV s v file p = z := ⟨_, rfl⟩
  have HRV := hidden hrv
  unfold refV at hrv
  rw [h5, h6, Int.toNat_natCast, Int.toNat_natCast] at hrv
  rw [HRV.out]
  have HM : Hid (r6 ≤ 16384 → ∀ u, Below w.heap.size w u → Calls Try.prog 78 #[.pointer (some ⟨s.mb, 0, none⟩), .int .u32 (r5 : Int), .int .u32 (r6 : Int), .int .i64 p] u fun e w' => e = .returned (.bool (mayB s r5 r6 p)) ∧ ∃ k, w' = u.drewN k) := hidden (fun hl u hu => may_any u s r5 r6 p (h.later hu) l5 hl)
  have H5 := hidden h5
  have H6 := hidden h6
  obtain ⟨C, hC⟩ : ∃ C, v.c = C := ⟨_, rfl⟩
  rw [hC]
  have HC := hidden hC
  clear hC hv h5 h6 l5 h
  cases file with
  | false =>
    have e : rv = 9 := by rw [← hrv]; rfl
    subst e
    clear hrv
    go_enter Try.func64, Try.ntmps64
    go_wp2_with (first
      | (refine wpList_boxG rfl 26 _ rfl C rfl ?_; rintro w1 k1 s1 b1; rw [hn] at k1 s1 b1 ⊢; have B1 := hidden b1; clear k1 s1 b1))
    go_ret
    exact ⟨rfl, by first | exact B1.out | (rw [hn]; exact B1.out)⟩
  | true =>
    rw [if_neg (by decide)] at hrv
    by_cases hg : 16384 < (r6 : Int)
    · rw [if_pos hg] at hrv
      subst hrv
      go_enter Try.func64, Try.ntmps64
      go_wp2_with (first
        | (refine wpList_boxG rfl 26 _ rfl C rfl ?_; rintro w1 k1 s1 b1; rw [hn] at k1 s1 b1 ⊢; have k2 : Blk w1 n v.c 26 := (by rw [HC.out]; exact k1); have c6 : w1.cell? ⟨n, 6, none⟩ = some (.int .u32 (r6 : Int)) := (by rw [← H6.out]; exact k2.cell (SV.getR HV.out (by omega))); have B1 := hidden b1; clear k1 s1 b1 k2))
      go_ret
      exact ⟨rfl, by first | exact B1.out | (rw [hn]; exact B1.out)⟩
    · rw [if_neg hg] at hrv
      have HM2 := hidden (HM.out (by omega))
      clear HM
      cases hm : mayB s r5 r6 p with
      | true =>
        rw [hm, if_pos rfl] at hrv
        subst hrv
        rw [hm, hn] at HM2
        go_enter Try.func64, Try.ntmps64
        go_wp2_with (first
          | (refine wpList_boxG rfl 26 _ rfl C rfl ?_; rintro w1 k1 s1 b1; rw [hn] at k1 s1 b1 ⊢; have k2 : Blk w1 n v.c 26 := (by rw [HC.out]; exact k1); have c6 : w1.cell? ⟨n, 6, none⟩ = some (.int .u32 (r6 : Int)) := (by rw [← H6.out]; exact k2.cell (SV.getR HV.out (by omega))); have c5 : w1.cell? ⟨n, 5, none⟩ = some (.int .u32 (r5 : Int)) := (by rw [← H5.out]; exact k2.cell (SV.getR HV.out (by omega))); have B1 := hidden b1; clear k1 s1 b1 k2)
          | (go_at_call 78; refine (HM2.out _ B1.out).mono ?_; rintro e w2 ⟨rfl, k, hww⟩; have B2 := hidden (show Below n w w2 from by rw [hww]; exact below_drewN B1.out k); clear hww))
        go_ret
        exact ⟨rfl, by first | exact B2.out | (rw [hn]; exact B2.out)⟩
      | false =>
        rw [hm, if_neg (by decide)] at hrv
        subst hrv
        rw [hm, hn] at HM2
        go_enter Try.func64, Try.ntmps64
        go_wp2_with (first
          | (refine wpList_boxG rfl 26 _ rfl C rfl ?_; rintro w1 k1 s1 b1; rw [hn] at k1 s1 b1 ⊢; have k2 : Blk w1 n v.c 26 := (by rw [HC.out]; exact k1); have c6 : w1.cell? ⟨n, 6, none⟩ = some (.int .u32 (r6 : Int)) := (by rw [← H6.out]; exact k2.cell (SV.getR HV.out (by omega))); have c5 : w1.cell? ⟨n, 5, none⟩ = some (.int .u32 (r5 : Int)) := (by rw [← H5.out]; exact k2.cell (SV.getR HV.out (by omega))); have B1 := hidden b1; clear k1 s1 b1 k2)
          | (go_at_call 78; refine (HM2.out _ B1.out).mono ?_; rintro e w2 ⟨rfl, k, hww⟩; have B2 := hidden (show Below n w w2 from by rw [hww]; exact below_drewN B1.out k); clear hww))
        go_ret
        exact ⟨rfl, by first | exact B2.out | (rw [hn]; exact B2.out)⟩
end Go.Proofs.Ytodoenimlhldjaa
namespace Go.Proofs.Ytodoenimlhldjaa
open Go.ChangeShapes Go.WideShapes Go.ChangeAt Go.RowKit
set_option linter.unusedVariables false
/-- The world while a call is done: the state and the world that came in, both answers' blocks. -/
structure WA (F : Nat → Prop) (w : World) (n q : Nat) (v : SV) (cw : Array Value) (wr : World) : Prop where
  keep : Keep F w wr
  s : Blk wr n v.c 26
  c : Blk wr (n + 1) cw 38
  rs : Blk wr q SV.zero.c 26
  rw : Blk wr (q + 1) zCw 38
  nn : w.heap.size = n
  hq : n + 1 + 1 = q
theorem WA.later {F : Nat → Prop} {w : World} {n q : Nat} {v : SV} {cw : Array Value} {wr w' : World} (h : WA F w n q v cw wr) (hb : Below wr.heap.size wr w') : WA F w n q v cw w' := ⟨⟨hb.os.trans h.keep.os, hb.tape.trans h.keep.tape, hb.output.trans h.keep.output, Nat.le_trans h.keep.size hb.size, fun b hl hn => (hb.block b (Nat.lt_of_lt_of_le hl h.keep.size)).trans (h.keep.block b hl hn)⟩, h.s.later hb, h.c.later hb, h.rs.later hb, h.rw.later hb, h.nn, h.hq⟩
theorem WA.wide {F G : Nat → Prop} {w : World} {n q : Nat} {v : SV} {cw : Array Value} {wr : World} (h : WA F w n q v cw wr) (hg : ∀ b, F b → G b) : WA G w n q v cw wr := ⟨h.keep.mono (fun b _ hb => hg b hb), h.s, h.c, h.rs, h.rw, h.nn, h.hq⟩
theorem WA.mk4 {F : Nat → Prop} {w w1 w2 w3 w4 : World} {n q : Nat} {v : SV} {cw : Array Value} (hn : w.heap.size = n) (hq : n + 1 + 1 = q) (k1 : Blk w1 n v.c 26) (s1 : w1.heap.size = n + 1) (b1 : Below n w w1) (k2 : Blk w2 (n + 1) cw 38) (s2 : w2.heap.size = q) (b2 : Below (n + 1) w1 w2) (k3 : Blk w3 q SV.zero.c 26) (s3 : w3.heap.size = q + 1) (b3 : Below q w2 w3) (k4 : Blk w4 (q + 1) zCw 38) (b4 : Below (q + 1) w3 w4) : WA F w n q v cw w4 :=
  ⟨Keep.of_below (by rw [hn]; exact ((b1.trans (b2.mono (by omega))).trans (b3.mono (by omega))).trans (b4.mono (by omega))), ((k1.later (by rw [s1]; exact b2)).later (by rw [s2]; exact b3)).later (by rw [s3]; exact b4), (k2.later (by rw [s2]; exact b3)).later (by rw [s3]; exact b4), k3.later (by rw [s3]; exact b4), k4, hn, hq⟩
theorem WA.turn {F : Nat → Prop} {w : World} {n q : Nat} {v : SV} {cw : Array Value} {wr w' : World} (h : WA F w n q v cw wr) (k : Keep F wr w') (hF : ∀ b, F b → b < n) : WA F w n q v cw w' :=
  ⟨h.keep.trans k fun _ _ e => e, (k.block n h.s.lt (fun e => by have := hF _ e; omega)).trans h.s, (k.block (n + 1) h.c.lt (fun e => by have := hF _ e; omega)).trans h.c, (k.block q h.rs.lt (fun e => by have := hF _ e; have := h.hq; omega)).trans h.rs, (k.block (q + 1) h.rw.lt (fun e => by have := hF _ e; have := h.hq; omega)).trans h.rw, h.nn, h.hq⟩
theorem WA.putW {F : Nat → Prop} {w : World} {n q : Nat} {v : SV} {cw cw' : Array Value} {wr w' : World} (h : WA F w n q v cw wr) (ho : Only (n + 1) wr w') (hk : Blk w' (n + 1) cw' 38) : WA F w n q v cw' w' :=
  ⟨⟨ho.os.trans h.keep.os, ho.tape.trans h.keep.tape, ho.output.trans h.keep.output, by rw [ho.size]; exact h.keep.size, fun b hl hn => (ho.block b (by have := h.nn; omega)).trans (h.keep.block b hl hn)⟩, h.s.only ho (by omega), hk, h.rs.only ho (by have := h.hq; omega), h.rw.only ho (by have := h.hq; omega), h.nn, h.hq⟩
/-- What stands in the registers of a call. -/
structure WR (wr : World) (n : Nat) (r2 r4 r5 r6 : Int) : Prop where
  c2 : wr.cell? ⟨n, 2, none⟩ = some (.int .u32 r2)
  c4 : wr.cell? ⟨n, 4, none⟩ = some (.int .u32 r4)
  c5 : wr.cell? ⟨n, 5, none⟩ = some (.int .u32 r5)
  c6 : wr.cell? ⟨n, 6, none⟩ = some (.int .u32 r6)
theorem WA.regs {F : Nat → Prop} {w : World} {n q : Nat} {v : SV} {cw : Array Value} {wr : World} {r2 r4 r5 r6 : Int} (h : WA F w n q v cw wr) (hv : v.R.length = 32) (h2 : v.R.getD 2 0 = r2) (h4 : v.R.getD 4 0 = r4) (h5 : v.R.getD 5 0 = r5) (h6 : v.R.getD 6 0 = r6) : WR wr n r2 r4 r5 r6 :=
  ⟨by rw [← h2]; exact h.s.cell (SV.getR hv (by omega)), by rw [← h4]; exact h.s.cell (SV.getR hv (by omega)), by rw [← h5]; exact h.s.cell (SV.getR hv (by omega)), by rw [← h6]; exact h.s.cell (SV.getR hv (by omega))⟩
/-- Both answers are there. -/
theorem WA.both {F : Nat → Prop} {w : World} {n q : Nat} {v : SV} {cw : Array Value} {wr w' : World} {A B : Obj} (h : WA F w n q v cw wr) (hR : RF [(q, A), (q + 1, B)] wr w') : Keep F w w' :=
  ⟨hR.os.trans h.keep.os, hR.tape.trans h.keep.tape, hR.output.trans h.keep.output, Nat.le_trans h.keep.size hR.size, fun b hl hn => by
    have hb := hR.below (N := n) (by have := h.nn; have := h.keep.size; omega) (rf2_lo (by have := h.hq; omega))
    exact (hb.block b (by have := h.nn; omega)).trans (h.keep.block b hl hn)⟩
theorem Fr.own {w : World} {N z m : Nat} {T : TypeId} {v : Value} {cs : List Value} (h : Fr w N T v m cs) (hl : cs.length = m * z) (hm : m ≤ 16384) : w.ownsRow N T z v m cs := by
  obtain ⟨g, hN, e, hk⟩ := h
  exact ⟨hl, .inr ⟨g, m, cs.toArray, e, hN, hk, Nat.le_refl m, by unfold maxLen; omega, by simpa using hl, by rw [← hl]; simp⟩⟩
theorem rw_of_own {w : World} {N z m : Nat} {T : TypeId} {v : Value} {cs : List Value} (h : w.ownsRow N T z v m cs) : Rw w z v m cs := by
  obtain ⟨hl, h⟩ := h
  refine ⟨hl, ?_⟩
  rcases h with ⟨e, h0⟩ | ⟨g, cap, cur, e, _, hg, _, _, _, ht⟩
  · exact ⟨none, 0, by rw [e, h0], .inl h0⟩
  · refine ⟨_, cap, e, .inr ⟨g, 0, rfl, (Array.getElem?_eq_some_iff.1 hg).1, fun j u hu => ?_⟩⟩
    have hj : j < m * z := by rw [← hl]; exact (List.getElem?_eq_some_iff.1 hu).1
    rw [← ht, List.getElem?_take_of_lt hj] at hu
    rw [Nat.zero_add, cell_of_row _ _ _ _ _ _ hg]
    simpa using hu
theorem rwa_of_own {w : World} {N z m b : Nat} {T U : TypeId} {v : Value} {cs : List Value} {bs : Array Value} (h : w.ownsRow N T z v m cs) (hb : Blk w b bs U) (hne : T ≠ U) : RwA b w z v m cs := by
  refine ⟨rw_of_own h, ?_⟩
  obtain ⟨_, h⟩ := h
  rcases h with ⟨_, h0⟩ | ⟨g, cap, cur, e, _, hg, _⟩
  · exact .inl h0
  · refine .inr fun b' off l c e2 => ?_
    rw [e] at e2
    injection e2 with e3
    injection e3 with e4
    injection e4 with e5
    rintro rfl
    subst e5
    have h2 := hg.symm.trans hb
    injection h2 with h2
    injection h2 with _ h2
    exact hne h2
theorem own_ne {w : World} {N z m b g : Nat} {T U : TypeId} {v : Value} {cs : List Value} {bs : Array Value} (h : w.ownsRow N T z v m cs) (hg : v.ownBlock = some g) (hb : Blk w b bs U) (hne : T ≠ U) : g ≠ b := by
  obtain ⟨_, h⟩ := h
  rcases h with ⟨e, _⟩ | ⟨g2, cap, cur, e, _, hk, _⟩
  · rw [e] at hg; cases hg
  · rw [e] at hg
    have e2 : g2 = g := Option.some.inj hg
    rintro rfl
    subst e2
    have h2 := hk.symm.trans hb
    injection h2 with h2
    injection h2 with _ h2
    exact hne h2
theorem own_only {w w' : World} {N z m b : Nat} {T U : TypeId} {v : Value} {cs : List Value} {bs : Array Value} (h : w.ownsRow N T z v m cs) (ho : Only b w w') (hb : Blk w b bs U) (hne : T ≠ U) : w'.ownsRow N T z v m cs := ownsRow_same h fun g hg => ho.block g (own_ne h hg hb hne)
theorem own_rf {w w' : World} {N z m q : Nat} {T U V : TypeId} {v : Value} {cs : List Value} {a b : Array Value} {A B : Obj} (h : w.ownsRow N T z v m cs) (hR : RF [(q, A), (q + 1, B)] w w') (hq : Blk w q a U) (hq1 : Blk w (q + 1) b V) (h1 : T ≠ U) (h2 : T ≠ V) : w'.ownsRow N T z v m cs := ownsRow_same h fun g hg => by
  have n1 := own_ne h hg hq h1
  have n2 := own_ne h hg hq1 h2
  have hlt : g < w.heap.size := by
    obtain ⟨_, h⟩ := h
    rcases h with ⟨e, _⟩ | ⟨g2, cap, cur, e, _, hk, _⟩
    · rw [e] at hg; cases hg
    · rw [e] at hg
      have e2 : g2 = g := Option.some.inj hg
      subst e2
      exact (Array.getElem?_eq_some_iff.1 hk).1
  rcases hR.block g hlt with e | ⟨o, ho, _⟩
  · exact e
  · simp only [List.mem_cons, Prod.mk.injEq, List.mem_nil_iff, or_false] at ho
    rcases ho with ⟨e, _⟩ | ⟨e, _⟩
    · exact absurd e n1
    · exact absurd e n2
theorem cE_snoc (e : List (Int × ByteArray)) (x : Int × ByteArray) : cE (e ++ [x]) = cE e ++ [.int .u32 x.1, .string x.2] := by unfold cE; rw [List.flatMap_append]; simp
/-- One more event. -/
theorem event_append (w : World) (N : Nat) (v : Value) (e : List (Int × ByteArray)) (fd : Int) (s : ByteArray) (h : Fr w N 66 v e.length (cE e)) (hN : N ≤ w.heap.size) (hl : e.length ≤ 16384) : ∃ v' w', (Builtin.append_ #[28, 28] 28 #[v, .slice (some ⟨w.heap.size, 0, none⟩) 1 1]).run Try.prog (w.alloc (.cells #[.int .u32 fd, .string s] 66)) = .ok v' w' ∧ w'.ownsRow N 66 2 v' (e.length + 1) (cE (e ++ [(fd, s)])) ∧ Keep (fun b => v.ownBlock = some b) w w' := by
  obtain ⟨i, hi⟩ : ∃ i, Try.prog.info? 66 = some i := info_of_underlying Try.underlying66
  have hp : (Try.prog.info? 66).map (fun i => (i.zero, i.size, decide (i.bytes ≤ 64))) = some (some (.agg #[.int .u32 0, .string ⟨#[]⟩]), 2, true) := by kernel_rfl
  rw [hi] at hp
  simp only [Option.map_some, Option.some.injEq, Prod.mk.injEq, decide_eq_true_eq] at hp
  obtain ⟨hz0, hz1, hz2⟩ := hp
  have hb := below_new w (.cells #[.int .u32 fd, .string s] 66)
  have ho := (h.later hb).own (cE_len e) hl
  have hbk := Blk.new w #[.int .u32 fd, .string s] 66
  obtain ⟨v', w', hr, h1, h2, _⟩ := run_append_own (P := Try.prog) (w.alloc (.cells #[.int .u32 fd, .string s] 66)) N 28 28 66 i _ 2 i.bytes Try.underlying28 hi hz0 hz1 rfl rfl (by decide) v e.length (cE e) ho ⟨w.heap.size, 0, none⟩ 1 1 [.int .u32 fd, .string s] rfl (fun j u hu => by
      rw [Addr.add_lit, Nat.zero_add]
      exact hbk.cell (by simpa using hu)) (by
      intro u hu
      simp only [List.mem_cons, List.mem_nil_iff, or_false] at hu
      rcases hu with rfl | rfl <;> rfl) (by unfold maxLen; omega) (by
      have h3 : (e.length + 1) * i.bytes ≤ 16385 * 64 := Nat.mul_le_mul (by omega) hz2
      omega) (by have := hb.size; omega)
  refine ⟨v', w', hr, ?_, ?_⟩
  · rw [cE_snoc]
    exact h1
  · have k1 : Keep (fun b => v.ownBlock = some b) w (w.alloc (.cells #[.int .u32 fd, .string s] 66)) := Keep.of_below hb
    exact k1.trans (Keep.grown h2) fun _ _ x => x
theorem wpList_str {ops : Array Oper} {rest : List Oper} {o : Oper} {a : Act} {w : World} {Q : Exit → Act → World → Prop} (hgd : o.guard = none) (x : Operand) (ho : o.op = .convert 50 9 x) (L : List UInt8) (ad : Option Addr) (c m : Nat) (hm : L.length = m) (hx : a.eval x = .slice ad m c) (hl : Lies w ad L)
    (h : wpList Try.prog ops Q rest (a.put o.dst (.string ⟨L.toArray⟩)) w) : wpList Try.prog ops Q (o :: rest) a w := by
  subst hm
  exact Great.wpList_runTo hgd o.dst rfl (.string ⟨L.toArray⟩) w (exec_str L ho hx w hl) h
end Go.Proofs.Ytodoenimlhldjaa

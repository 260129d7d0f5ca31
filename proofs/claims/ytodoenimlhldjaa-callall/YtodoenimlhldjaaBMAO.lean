/- The world while a call is done; one more event. -/
import Derived.Test.YtodoenimlhldjaaBMAN
import Derived.Test.YtodoenimlhldjaaBMAI
namespace Go.Proofs.Ytodoenimlhldjaa
open Go.ChangeShapes Go.WideShapes Go.ChangeAt Go.RowKit
set_option linter.unusedVariables false
/-- The world while a call is done: the state and the world that came in, both answers' blocks. -/
structure WA (F : Nat → Prop) (w : World) (n q : Nat) (v : SV) (cw : Array Value) (wr : World) : Prop where
  keep : Keep F w wr
  s : Blk wr n v.c 26
  c : Blk wr (n + 1) cw 38
  rs : Blk wr q SV.zero.c 26
  rw : Blk wr (q + 1) zCw 38
  nn : w.heap.size = n
  hq : n + 1 + 1 = q
theorem WA.later {F : Nat → Prop} {w : World} {n q : Nat} {v : SV} {cw : Array Value} {wr w' : World} (h : WA F w n q v cw wr) (hb : Below wr.heap.size wr w') : WA F w n q v cw w' := ⟨⟨hb.os.trans h.keep.os, hb.tape.trans h.keep.tape, hb.output.trans h.keep.output, Nat.le_trans h.keep.size hb.size, fun b hl hn => (hb.block b (Nat.lt_of_lt_of_le hl h.keep.size)).trans (h.keep.block b hl hn)⟩, h.s.later hb, h.c.later hb, h.rs.later hb, h.rw.later hb, h.nn, h.hq⟩
theorem WA.wide {F G : Nat → Prop} {w : World} {n q : Nat} {v : SV} {cw : Array Value} {wr : World} (h : WA F w n q v cw wr) (hg : ∀ b, F b → G b) : WA G w n q v cw wr := ⟨h.keep.mono (fun b _ hb => hg b hb), h.s, h.c, h.rs, h.rw, h.nn, h.hq⟩
theorem WA.mk4 {F : Nat → Prop} {w w1 w2 w3 w4 : World} {n q : Nat} {v : SV} {cw : Array Value} (hn : w.heap.size = n) (hq : n + 1 + 1 = q) (k1 : Blk w1 n v.c 26) (s1 : w1.heap.size = n + 1) (b1 : Below n w w1) (k2 : Blk w2 (n + 1) cw 38) (s2 : w2.heap.size = q) (b2 : Below (n + 1) w1 w2) (k3 : Blk w3 q SV.zero.c 26) (s3 : w3.heap.size = q + 1) (b3 : Below q w2 w3) (k4 : Blk w4 (q + 1) zCw 38) (b4 : Below (q + 1) w3 w4) : WA F w n q v cw w4 :=
  ⟨Keep.of_below (by rw [hn]; exact ((b1.trans (b2.mono (by omega))).trans (b3.mono (by omega))).trans (b4.mono (by omega))), ((k1.later (by rw [s1]; exact b2)).later (by rw [s2]; exact b3)).later (by rw [s3]; exact b4), (k2.later (by rw [s2]; exact b3)).later (by rw [s3]; exact b4), k3.later (by rw [s3]; exact b4), k4, hn, hq⟩
theorem WA.turn {F : Nat → Prop} {w : World} {n q : Nat} {v : SV} {cw : Array Value} {wr w' : World} (h : WA F w n q v cw wr) (k : Keep F wr w') (hF : ∀ b, F b → b < n) : WA F w n q v cw w' :=
  ⟨h.keep.trans k fun _ _ e => e, (k.block n h.s.lt (fun e => by have := hF _ e; omega)).trans h.s, (k.block (n + 1) h.c.lt (fun e => by have := hF _ e; omega)).trans h.c, (k.block q h.rs.lt (fun e => by have := hF _ e; have := h.hq; omega)).trans h.rs, (k.block (q + 1) h.rw.lt (fun e => by have := hF _ e; have := h.hq; omega)).trans h.rw, h.nn, h.hq⟩
theorem WA.putW {F : Nat → Prop} {w : World} {n q : Nat} {v : SV} {cw cw' : Array Value} {wr w' : World} (h : WA F w n q v cw wr) (ho : Only (n + 1) wr w') (hk : Blk w' (n + 1) cw' 38) : WA F w n q v cw' w' :=
  ⟨⟨ho.os.trans h.keep.os, ho.tape.trans h.keep.tape, ho.output.trans h.keep.output, by rw [ho.size]; exact h.keep.size, fun b hl hn => (ho.block b (by have := h.nn; omega)).trans (h.keep.block b hl hn)⟩, h.s.only ho (by omega), hk, h.rs.only ho (by have := h.hq; omega), h.rw.only ho (by have := h.hq; omega), h.nn, h.hq⟩
/-- What stands in the registers of a call. -/
structure WR (wr : World) (n : Nat) (r2 r4 r5 r6 : Int) : Prop where
  c2 : wr.cell? ⟨n, 2, none⟩ = some (.int .u32 r2)
  c4 : wr.cell? ⟨n, 4, none⟩ = some (.int .u32 r4)
  c5 : wr.cell? ⟨n, 5, none⟩ = some (.int .u32 r5)
  c6 : wr.cell? ⟨n, 6, none⟩ = some (.int .u32 r6)
theorem WA.regs {F : Nat → Prop} {w : World} {n q : Nat} {v : SV} {cw : Array Value} {wr : World} {r2 r4 r5 r6 : Int} (h : WA F w n q v cw wr) (hv : v.R.length = 32) (h2 : v.R.getD 2 0 = r2) (h4 : v.R.getD 4 0 = r4) (h5 : v.R.getD 5 0 = r5) (h6 : v.R.getD 6 0 = r6) : WR wr n r2 r4 r5 r6 :=
  ⟨by rw [← h2]; exact h.s.cell (SV.getR hv (by omega)), by rw [← h4]; exact h.s.cell (SV.getR hv (by omega)), by rw [← h5]; exact h.s.cell (SV.getR hv (by omega)), by rw [← h6]; exact h.s.cell (SV.getR hv (by omega))⟩
/-- Both answers are there. -/
theorem WA.both {F : Nat → Prop} {w : World} {n q : Nat} {v : SV} {cw : Array Value} {wr w' : World} {A B : Obj} (h : WA F w n q v cw wr) (hR : RF [(q, A), (q + 1, B)] wr w') : Keep F w w' :=
  ⟨hR.os.trans h.keep.os, hR.tape.trans h.keep.tape, hR.output.trans h.keep.output, Nat.le_trans h.keep.size hR.size, fun b hl hn => by
    have hb := hR.below (N := n) (by have := h.nn; have := h.keep.size; omega) (rf2_lo (by have := h.hq; omega))
    exact (hb.block b (by have := h.nn; omega)).trans (h.keep.block b hl hn)⟩
theorem Fr.own {w : World} {N z m : Nat} {T : TypeId} {v : Value} {cs : List Value} (h : Fr w N T v m cs) (hl : cs.length = m * z) (hm : m ≤ 16384) : w.ownsRow N T z v m cs := by
  obtain ⟨g, hN, e, hk⟩ := h
  exact ⟨hl, .inr ⟨g, m, cs.toArray, e, hN, hk, Nat.le_refl m, by unfold maxLen; omega, by simpa using hl, by rw [← hl]; simp⟩⟩
theorem rw_of_own {w : World} {N z m : Nat} {T : TypeId} {v : Value} {cs : List Value} (h : w.ownsRow N T z v m cs) : Rw w z v m cs := by
  obtain ⟨hl, h⟩ := h
  refine ⟨hl, ?_⟩
  rcases h with ⟨e, h0⟩ | ⟨g, cap, cur, e, _, hg, _, _, _, ht⟩
  · exact ⟨none, 0, by rw [e, h0], .inl h0⟩
  · refine ⟨_, cap, e, .inr ⟨g, 0, rfl, (Array.getElem?_eq_some_iff.1 hg).1, fun j u hu => ?_⟩⟩
    have hj : j < m * z := by rw [← hl]; exact (List.getElem?_eq_some_iff.1 hu).1
    rw [← ht, List.getElem?_take_of_lt hj] at hu
    rw [Nat.zero_add, cell_of_row _ _ _ _ _ _ hg]
    simpa using hu
theorem rwa_of_own {w : World} {N z m b : Nat} {T U : TypeId} {v : Value} {cs : List Value} {bs : Array Value} (h : w.ownsRow N T z v m cs) (hb : Blk w b bs U) (hne : T ≠ U) : RwA b w z v m cs := by
  refine ⟨rw_of_own h, ?_⟩
  obtain ⟨_, h⟩ := h
  rcases h with ⟨_, h0⟩ | ⟨g, cap, cur, e, _, hg, _⟩
  · exact .inl h0
  · refine .inr fun b' off l c e2 => ?_
    rw [e] at e2
    injection e2 with e3
    injection e3 with e4
    injection e4 with e5
    rintro rfl
    subst e5
    have h2 := hg.symm.trans hb
    injection h2 with h2
    injection h2 with _ h2
    exact hne h2
theorem own_ne {w : World} {N z m b g : Nat} {T U : TypeId} {v : Value} {cs : List Value} {bs : Array Value} (h : w.ownsRow N T z v m cs) (hg : v.ownBlock = some g) (hb : Blk w b bs U) (hne : T ≠ U) : g ≠ b := by
  obtain ⟨_, h⟩ := h
  rcases h with ⟨e, _⟩ | ⟨g2, cap, cur, e, _, hk, _⟩
  · rw [e] at hg; cases hg
  · rw [e] at hg
    have e2 : g2 = g := Option.some.inj hg
    rintro rfl
    subst e2
    have h2 := hk.symm.trans hb
    injection h2 with h2
    injection h2 with _ h2
    exact hne h2
theorem own_only {w w' : World} {N z m b : Nat} {T U : TypeId} {v : Value} {cs : List Value} {bs : Array Value} (h : w.ownsRow N T z v m cs) (ho : Only b w w') (hb : Blk w b bs U) (hne : T ≠ U) : w'.ownsRow N T z v m cs := ownsRow_same h fun g hg => ho.block g (own_ne h hg hb hne)
theorem own_rf {w w' : World} {N z m q : Nat} {T U V : TypeId} {v : Value} {cs : List Value} {a b : Array Value} {A B : Obj} (h : w.ownsRow N T z v m cs) (hR : RF [(q, A), (q + 1, B)] w w') (hq : Blk w q a U) (hq1 : Blk w (q + 1) b V) (h1 : T ≠ U) (h2 : T ≠ V) : w'.ownsRow N T z v m cs := ownsRow_same h fun g hg => by
  have n1 := own_ne h hg hq h1
  have n2 := own_ne h hg hq1 h2
  have hlt : g < w.heap.size := by
    obtain ⟨_, h⟩ := h
    rcases h with ⟨e, _⟩ | ⟨g2, cap, cur, e, _, hk, _⟩
    · rw [e] at hg; cases hg
    · rw [e] at hg
      have e2 : g2 = g := Option.some.inj hg
      subst e2
      exact (Array.getElem?_eq_some_iff.1 hk).1
  rcases hR.block g hlt with e | ⟨o, ho, _⟩
  · exact e
  · simp only [List.mem_cons, Prod.mk.injEq, List.mem_nil_iff, or_false] at ho
    rcases ho with ⟨e, _⟩ | ⟨e, _⟩
    · exact absurd e n1
    · exact absurd e n2
theorem cE_snoc (e : List (Int × ByteArray)) (x : Int × ByteArray) : cE (e ++ [x]) = cE e ++ [.int .u32 x.1, .string x.2] := by unfold cE; rw [List.flatMap_append]; simp
/-- One more event. -/
theorem event_append (w : World) (N : Nat) (v : Value) (e : List (Int × ByteArray)) (fd : Int) (s : ByteArray) (h : Fr w N 66 v e.length (cE e)) (hN : N ≤ w.heap.size) (hl : e.length ≤ 16384) : ∃ v' w', (Builtin.append_ #[28, 28] 28 #[v, .slice (some ⟨w.heap.size, 0, none⟩) 1 1]).run Try.prog (w.alloc (.cells #[.int .u32 fd, .string s] 66)) = .ok v' w' ∧ w'.ownsRow N 66 2 v' (e.length + 1) (cE (e ++ [(fd, s)])) ∧ Keep (fun b => v.ownBlock = some b) w w' := by
  obtain ⟨i, hi⟩ : ∃ i, Try.prog.info? 66 = some i := info_of_underlying Try.underlying66
  have hp : (Try.prog.info? 66).map (fun i => (i.zero, i.size, decide (i.bytes ≤ 64))) = some (some (.agg #[.int .u32 0, .string ⟨#[]⟩]), 2, true) := by kernel_rfl
  rw [hi] at hp
  simp only [Option.map_some, Option.some.injEq, Prod.mk.injEq, decide_eq_true_eq] at hp
  obtain ⟨hz0, hz1, hz2⟩ := hp
  have hb := below_new w (.cells #[.int .u32 fd, .string s] 66)
  have ho := (h.later hb).own (cE_len e) hl
  have hbk := Blk.new w #[.int .u32 fd, .string s] 66
  obtain ⟨v', w', hr, h1, h2, _⟩ := run_append_own (P := Try.prog) (w.alloc (.cells #[.int .u32 fd, .string s] 66)) N 28 28 66 i _ 2 i.bytes Try.underlying28 hi hz0 hz1 rfl rfl (by decide) v e.length (cE e) ho ⟨w.heap.size, 0, none⟩ 1 1 [.int .u32 fd, .string s] rfl (fun j u hu => by
      rw [Addr.add_lit, Nat.zero_add]
      exact hbk.cell (by simpa using hu)) (by
      intro u hu
      simp only [List.mem_cons, List.mem_nil_iff, or_false] at hu
      rcases hu with rfl | rfl <;> rfl) (by unfold maxLen; omega) (by
      have h3 : (e.length + 1) * i.bytes ≤ 16385 * 64 := Nat.mul_le_mul (by omega) hz2
      omega) (by have := hb.size; omega)
  refine ⟨v', w', hr, ?_, ?_⟩
  · rw [cE_snoc]
    exact h1
  · have k1 : Keep (fun b => v.ownBlock = some b) w (w.alloc (.cells #[.int .u32 fd, .string s] 66)) := Keep.of_below hb
    exact k1.trans (Keep.grown h2) fun _ _ x => x
theorem wpList_str {ops : Array Oper} {rest : List Oper} {o : Oper} {a : Act} {w : World} {Q : Exit → Act → World → Prop} (hgd : o.guard = none) (x : Operand) (ho : o.op = .convert 50 9 x) (L : List UInt8) (ad : Option Addr) (c m : Nat) (hm : L.length = m) (hx : a.eval x = .slice ad m c) (hl : Lies w ad L)
    (h : wpList Try.prog ops Q rest (a.put o.dst (.string ⟨L.toArray⟩)) w) : wpList Try.prog ops Q (o :: rest) a w := by
  subst hm
  exact Great.wpList_runTo hgd o.dst rfl (.string ⟨L.toArray⟩) w (exec_str L ho hx w hl) h
end Go.Proofs.Ytodoenimlhldjaa
namespace Go.Proofs.Ytodoenimlhldjaa
open Go.ChangeShapes Go.WideShapes Go.ChangeAt Go.RowKit
set_option linter.unusedVariables false
/-- What the slots of the region hold, whatever the order. -/
def phiWr7 (n q : Nat) (v : SV) (CW : Array Value) (rv : Int) : Nat → Value → World → Prop
  | 0, x, _ => x = .agg (SV.c v)
  | 1, x, _ => x = .pointer (some ⟨n, 0, none⟩)
  | 2, x, _ => x = .pointer (some ⟨n, 6, none⟩)
  | 3, x, _ => x = .int .u32 rv
  | 4, x, _ => x = .agg (SV.c (ansV v rv 0))
  | 5, x, _ => x = .agg CW
  | 6, x, w => x = .bool true ∧ Blk w (q) (SV.c (ansV v rv 0)) 26
  | 7, x, w => x = .bool true ∧ Blk w (q + 1) (CW) 38
  | _ + 8, _, _ => True
theorem phiWr7_mono (n q : Nat) (v : SV) (CW : Array Value) (rv : Int) : ∀ i x w w', phiWr7 n q v CW rv i x w → RF [(q, Obj.cells (SV.c (ansV v rv 0)) 26 (0, 0)), (q + 1, Obj.cells (CW) 38 (0, 0))] w w' → phiWr7 n q v CW rv i x w'
  | 0, _, _, _, h, _ => h
  | 1, _, _, _, h, _ => h
  | 2, _, _, _, h, _ => h
  | 3, _, _, _, h, _ => h
  | 4, _, _, _, h, _ => h
  | 5, _, _, _, h, _ => h
  | 6, x, w, w', h, hb => ⟨h.1, hb.blk h.2 rf2_a⟩
  | 7, x, w, w', h, hb => ⟨h.1, hb.blk h.2 rf2_b⟩
  | _ + 8, _, _, _, _, _ => trivial
theorem lstWr7 : ∀ xs : List Value, xs.length = 8 → ∃ x0 x1 x2 x3 x4 x5 x6 x7, xs = [x0, x1, x2, x3, x4, x5, x6, x7]
  | [x0, x1, x2, x3, x4, x5, x6, x7], _ => ⟨_, _, _, _, _, _, _, _, rfl⟩
set_option maxRecDepth 20000 in
set_option maxHeartbeats 2000000 in
theorem write_yes_one (w : World) (s : MS) (h : MemW w s) (v : SV) (hv : v.ok) (inp : ByteArray) (at_ us : Int) (rd ev : Value) (l : List Int) (e : List (Int × ByteArray)) (N : Nat) (hrd : Fr w N 3 rd l.length (cI l)) (hev : Fr w N 66 ev e.length (cE e)) (hel : e.length ≤ 16384) (hN : N ≤ w.heap.size) (hfo : ∀ b, foot s b → ev.ownBlock ≠ some b) (hfd : v.R.getD 4 0 = 1) (hno : refV s v true 4 = 0) : Calls Try.prog 37 #[.pointer (some ⟨s.mb, 0, none⟩), .agg v.c, .agg (cwC inp at_ rd us ev)] w fun x w' => ∃ ev', x = .returned (.tuple #[.agg (ansV v (v.R.getD 6 0) 0).c, .agg (cwC inp at_ rd us ev')]) ∧ w'.ownsRow N 66 2 ev' (e.length + 1) (cE (e ++ [(v.R.getD 4 0, ⟨(s.span (v.R.getD 5 0).toNat (v.R.getD 6 0).toNat).toArray⟩)])) ∧ Keep (fun b => ev.ownBlock = some b) w w' := by
  obtain ⟨n, hn⟩ : ∃ n, w.heap.size = n := ⟨_, rfl⟩
  obtain ⟨q, hq⟩ : ∃ q, n + 1 + 1 = q := ⟨_, rfl⟩
  obtain ⟨FF, hFF⟩ : ∃ FF : Nat → Prop, (fun b => ev.ownBlock = some b) = FF := ⟨_, rfl⟩
  have HFN : Hid (∀ b, FF b → b < n) := hidden (fun b hb => by
    rw [← hFF] at hb
    obtain ⟨g, _, e1, hk⟩ := hev
    rw [e1] at hb
    have e2 : g = b := Option.some.inj hb
    have := hk.lt
    omega)
  have HV := hidden hv.1
  have HQ := hidden hq
  clear hq
  have HFO : Hid (∀ b, foot s b → ¬ FF b) := hidden (fun b hb => by rw [← hFF]; exact hfo b hb)
  rw [hFF]
  obtain ⟨rv, hrv⟩ : ∃ z, refV s v true 4 = z := ⟨_, rfl⟩
  rw [hrv] at hno
  subst hno
  have HRF0 : Hid (∀ u, Keep nought w u → Calls Try.prog 64 #[.pointer (some ⟨s.mb, 0, none⟩), .agg v.c, .bool true, .int .i64 4] u fun e w' => e = .returned (.int .u32 0) ∧ Below u.heap.size u w') := hidden (fun u hu => by
    have h2 := refusal_any u s (h.keep hu (fun b hb => id)) v hv true 4
    rw [hrv] at h2
    exact h2)
  obtain ⟨r2, h2⟩ : ∃ r2 : Nat, v.R.getD 2 0 = (r2 : Int) := ⟨(v.R.getD 2 0).toNat, by have := (hv.2.1 2 (by omega)).1; omega⟩
  obtain ⟨r4, h4⟩ : ∃ r4 : Nat, v.R.getD 4 0 = (r4 : Int) := ⟨(v.R.getD 4 0).toNat, by have := (hv.2.1 4 (by omega)).1; omega⟩
  obtain ⟨r5, h5⟩ : ∃ r5 : Nat, v.R.getD 5 0 = (r5 : Int) := ⟨(v.R.getD 5 0).toNat, by have := (hv.2.1 5 (by omega)).1; omega⟩
  obtain ⟨r6, h6⟩ : ∃ r6 : Nat, v.R.getD 6 0 = (r6 : Int) := ⟨(v.R.getD 6 0).toNat, by have := (hv.2.1 6 (by omega)).1; omega⟩
  have l5 : r5 < 4294967296 := by have := (hv.2.1 5 (by omega)).2; omega
  have l6 : r6 < 4294967296 := by have := (hv.2.1 6 (by omega)).2; omega
  have H2 := hidden h2
  have H4 := hidden h4
  have H5 := hidden h5
  have H6 := hidden h6
  have l66 : (r6 : Int) ≤ 16384 := by
    unfold refV at hrv
    rw [if_neg (by decide), h6] at hrv
    by_cases hg : 16384 < (r6 : Int)
    · rw [if_pos hg] at hrv; exact absurd hrv (by decide)
    · omega
  rw [h4] at hfd ⊢
  rw [h5, h6, Int.toNat_natCast, Int.toNat_natCast]
  have HRI := hidden (fun u => right_any v hv.1 (r6 : Int) u)
  have f1 : ((r4 : Int) == 1) = true := beq_iff_eq.2 (by omega)
  have hi4 : ∀ u, (Instr.indexAt 24 (.pointer (some ⟨n, 0, none⟩)) (.int .i64 4)).run Try.prog u = .ok (.pointer (some ⟨n, 4, none⟩)) u := fun u => index_reg n 4 (by omega) u
  have hi5 : ∀ u, (Instr.indexAt 24 (.pointer (some ⟨n, 0, none⟩)) (.int .i64 5)).run Try.prog u = .ok (.pointer (some ⟨n, 5, none⟩)) u := fun u => index_reg n 5 (by omega) u
  have hi6 : ∀ u, (Instr.indexAt 24 (.pointer (some ⟨n, 0, none⟩)) (.int .i64 6)).run Try.prog u = .ok (.pointer (some ⟨n, 6, none⟩)) u := fun u => index_reg n 6 (by omega) u
  have HBY : Hid (∀ u, Keep nought w u → Calls Try.prog 22 #[.pointer (some ⟨s.mb, 0, none⟩), .int .u32 (r5 : Int), .int .i64 (r6 : Int)] u fun x w' => ∃ ao, x = .returned (.slice ao r6 r6) ∧ Row w' ao (s.span r5 r6) r6 ∧ Below u.heap.size u w') := hidden (fun u hu => by
    have h2 := mbytes_any u s r5 (r6 : Int) (h.keep hu (fun b hb => id)) l5
    have e1 : cutLen (r6 : Int) = r6 := by unfold cutLen; omega
    rw [e1, span_len] at h2
    exact h2)
  have HEV := hidden hev
  have HEL := hidden hel
  have HNN := hidden hN
  have HSL := hidden (span_len s r5 r6)
  have HC1 : Hid (∀ ev', ev'.oneCell' = true → (cwC inp at_ rd us ev').all (·.oneCell') = true) := hidden (fun ev' he => cw_one hrd.one he)
  have HFE := hidden hFF
  obtain ⟨C, hC⟩ : ∃ C, v.c = C := ⟨_, rfl⟩
  rw [hC]
  have HC := hidden hC
  obtain ⟨CW, hCW⟩ : ∃ CW, cwC inp at_ rd us ev = CW := ⟨_, rfl⟩
  rw [hCW]
  have HCW := hidden hCW
  have HC54 : Hid (4 < CW.size) := hidden (by rw [← hCW]; exact (show 4 < 5 by decide))
  obtain ⟨data, hdata⟩ : ∃ data, s.span r5 r6 = data := ⟨_, rfl⟩
  rw [hdata] at HBY HSL ⊢
  clear hC hCW hdata hv hrv h2 h4 h5 h6 hfd hrd hev hel hFF l5 l6 h hfo hN
  have l60 : (0 : Int) ≤ (r6 : Int) := by omega
  go_enter Try.func37, Try.ntmps37
  go_upto_region 1 with (first
    | (refine wpList_boxG rfl 26 _ rfl C rfl ?_; rintro w1 k1 s1 b1; rw [hn] at k1 s1 b1 ⊢; have K1 : Hid (Blk w1 n v.c 26) := hidden (by rw [HC.out]; exact k1); have S1 := hidden s1; have B1 := hidden b1; clear k1 s1 b1)
    | (refine wpList_boxG rfl 38 _ rfl CW rfl ?_; rintro w2 k2 s2 b2; rw [S1.out] at k2 s2 b2 ⊢; have K2 := hidden k2; have S2 : Hid (w2.heap.size = q) := hidden (by rw [s2]; exact HQ.out); have B2 := hidden b2; clear k2 s2 b2)
    | (refine wpList_allocV rfl rfl ?_; rintro w3 k3 s3 b3; rw [S2.out] at k3 s3 b3 ⊢; have K3 := hidden k3; have S3 := hidden s3; have B3 := hidden b3; clear k3 s3 b3)
    | (refine wpList_allocCw rfl rfl ?_; rintro w4 k4 s4 b4; rw [S3.out] at k4 s4 b4 ⊢; have P := hidden (WA.mk4 (F := nought) hn HQ.out K1.out S1.out B1.out K2.out S2.out B2.out K3.out S3.out B3.out k4 b4); clear k4 s4 b4 K1 S1 B1 K2 S2 B2 K3 S3 B3; obtain ⟨c2, c4, c5, c6⟩ := P.out.regs HV.out H2.out H4.out H5.out H6.out))
  go_upto_region 3 with (first
    | (go_at_call 64; refine (HRF0.out _ P.out.keep).mono ?_; rintro x w5 ⟨rfl, b5⟩; clear c2 c4 c5 c6; have Q := hidden (P.out.later b5); clear P b5; have P := Q; clear Q; obtain ⟨c2, c4, c5, c6⟩ := P.out.regs HV.out H2.out H4.out H5.out H6.out)
    | (refine wpList_loadV rfl _ rfl n v rfl P.out.s HV.out ?_))
  go_upto_region 6 with (go_at_call 22; refine (HBY.out _ P.out.keep).mono ?_; rintro x w6 ⟨ao, rfl, hrow, b6⟩; clear c2 c4 c5 c6; have Q := hidden (P.out.later b6); clear P; have P := Q; clear Q; have hev6 := HEV.out.later (P.out.keep.below (Nat.le_refl _) (fun b hb => hb.elim)); obtain ⟨v', w', hr, hrw, hkp⟩ := event_append w6 N ev e (r4 : Int) ⟨data.toArray⟩ hev6 (Nat.le_trans HNN.out P.out.keep.size) HEL.out; rw [HFE.out] at hkp; have HRUN := hidden hr; have HRW := hidden hrw; have HKE := hidden hkp; have HLI := hidden hrow.lies; have e4 : w6.cell? ⟨n + 1, 4, none⟩ = some ev := (by have k6 := P.out.c; rw [← HCW.out] at k6; exact k6.cell (j := 4) rfl); clear hrow b6 hev6 hr hrw hkp; obtain ⟨c2, c4, c5, c6⟩ := P.out.regs HV.out H2.out H4.out H5.out H6.out)
  go_upto_region 7 with (first
    | (refine wpList_str rfl _ rfl data ao r6 r6 HSL.out rfl HLI.out ?_)
    | (at_builtin; refine wpList_append_run rfl _ _ 28 28 rfl rfl rfl HRUN.out ?_)
    | (refine wpList_storeC rfl rfl 28 _ _ rfl (n + 1) 4 CW 38 v' rfl rfl (rw_of_own HRW.out).one sizeEs1 (((P.out.wide (G := FF) (fun _ h => h.elim)).turn HKE.out HFN.out).c) HC54.out ?_; rintro w8 k8 o8; have P8 : Hid (WA FF w n q v (cwC inp at_ rd us v') w8) := hidden (((P.out.wide (G := FF) (fun _ h => h.elim)).turn HKE.out HFN.out).putW o8 (by rw [← HCW.out] at k8; exact k8)); have R8 := hidden (own_only HRW.out o8 (((P.out.wide (G := FF) (fun _ h => h.elim)).turn HKE.out HFN.out).c) (by decide)); clear k8 o8))
  have HC2 := hidden (HC1.out v' (rw_of_own HRW.out).one)
  have HC5 : Hid ((cwC inp at_ rd us v').size = 5) := hidden rfl
  obtain ⟨CX, hCX⟩ : ∃ CX, cwC inp at_ rd us v' = CX := ⟨_, rfl⟩
  rw [hCX] at HC2 HC5 P8
  have HCX := hidden hCX
  have KS := hidden P8.out.s
  have KW := hidden P8.out.c
  have QS := hidden P8.out.rs
  have QW := hidden P8.out.rw
  have PQ := P8.out.hq
  have hW5 := HC5.out
  clear hCX P HRUN HRW HKE HLI HBY HRF0 HC1
  refine wp_region_on (later_rf [(q, Obj.cells (SV.c (ansV v (r6 : Int) 0)) 26 (0, 0)), (q + 1, Obj.cells (CX) 38 (0, 0))]) [47, 48, 49, 50, 51, 52, 1006, 1007] 8 (phiWr7 n q v CX (r6 : Int)) (by kernel_rfl) (by kernel_rfl) rfl rfl (phiWr7_mono n q v CX (r6 : Int)) ?_ ?_
  · intro j hj xs w3 hxs hR hpre
    obtain ⟨x0, x1, x2, x3, x4, x5, x6, x7, rfl⟩ := lstWr7 xs hxs
    have hS : Blk w3 (n) (SV.c v) 26 := hR.blk KS.out (rf2_no (by omega) (by omega))
    have hW : Blk w3 (n + 1) CX 38 := hR.blk KW.out (rf2_no (by omega) (by omega))
    have hA := hR.some ⟨_, SV.size (s := SV.zero) rfl, QS.out⟩ (rf2_s1 (SV.size (ansV_len HV.out (r6 : Int) 0)))
    have hB := hR.some (n := 5) ⟨_, (show zCw.size = 5 from rfl), QW.out⟩ (rf2_s2 hW5)
    rcases (show j = 0 ∨ j = 1 ∨ j = 2 ∨ j = 3 ∨ j = 4 ∨ j = 5 ∨ j = 6 ∨ j = 7 by omega) with rfl | rfl | rfl | rfl | rfl | rfl | rfl | rfl
    · exact wpOp_run (.agg (SV.c v)) rfl (by kernel_rfl) (exec_load 26 rfl (by kernel_rfl) w3 (loadSt hS HV.out)) ⟨_, by kernel_rfl, rfl, (later_rf _).refl _⟩
    · exact wpOp_run (.pointer (some ⟨n, 0, none⟩)) rfl (by kernel_rfl) (by kernel_rfl) ⟨_, by kernel_rfl, rfl, (later_rf _).refl _⟩
    · have e1 : x1 = .pointer (some ⟨n, 0, none⟩) := hpre 1 (by kernel_rfl)
      subst e1
      exact wpOp_run (.pointer (some ⟨n, 6, none⟩)) rfl (by kernel_rfl) (exec_indexR (k := 6) (by decide) rfl (by kernel_rfl) (by kernel_rfl) w3) ⟨_, by kernel_rfl, rfl, (later_rf _).refl _⟩
    · have e2 : x2 = .pointer (some ⟨n, 6, none⟩) := hpre 2 (by kernel_rfl)
      subst e2
      exact wpOp_run (.int .u32 (r6 : Int)) rfl (by kernel_rfl) (exec_load 23 rfl (by kernel_rfl) w3 (loadU (by rw [← H6.out]; exact hS.cell (SV.getR HV.out (by decide))))) ⟨_, by kernel_rfl, rfl, (later_rf _).refl _⟩
    · have e0 : x0 = .agg (SV.c v) := hpre 0 (by kernel_rfl)
      subst e0
      have e3 : x3 = .int .u32 (r6 : Int) := hpre 3 (by kernel_rfl)
      subst e3
      refine wpOp_callR (R := fun u w4 => u = .agg (SV.c (ansV v (r6 : Int) 0)) ∧ Below w3.heap.size w3 w4) 65 #[.agg (SV.c v), .int .u32 (r6 : Int)] rfl (by kernel_rfl) (by kernel_rfl) ((HRI.out w3).mono fun e w4 h => ⟨_, h.1, rfl, h.2⟩) ?_
      rintro _ w4 ⟨rfl, hb⟩
      exact ⟨_, by kernel_rfl, rfl, RF.of_below hb⟩
    · exact wpOp_run (.agg CX) rfl (by kernel_rfl) (exec_load 38 rfl (by kernel_rfl) w3 (loadCwR hW hW5)) ⟨_, by kernel_rfl, rfl, (later_rf _).refl _⟩
    · have e4 : x4 = .agg (SV.c (ansV v (r6 : Int) 0)) := hpre 4 (by kernel_rfl)
      subst e4
      obtain ⟨old, hs1, hs2⟩ := hA
      exact wpOp_put rfl (by kernel_rfl) (exec_storeG (g := q) (cs := SV.c (ansV v (r6 : Int) 0)) (old := old) rfl (by kernel_rfl) (by kernel_rfl) w3 hs2 (by rw [SV.size (ansV_len HV.out (r6 : Int) 0)]; exact sizeSV) (by rw [hs1, SV.size (ansV_len HV.out (r6 : Int) 0)]) (SV.one _)) ⟨.bool true, by kernel_rfl, ⟨rfl, setRow_heap w3 (q) old _ 26 (0, 0) hs2⟩, RF.of_only (only_rowV w3 (q) _) (setRow_heap w3 (q) old _ 26 (0, 0) hs2) rf2_m1⟩
    · have e5 : x5 = .agg CX := hpre 5 (by kernel_rfl)
      subst e5
      obtain ⟨old, hs1, hs2⟩ := hB
      exact wpOp_put rfl (by kernel_rfl) (exec_storeG (g := q + 1) (cs := CX) (old := old) rfl (by kernel_rfl) (by kernel_rfl) w3 hs2 (by rw [hW5]; exact sizeCw) (by rw [hs1, hW5]) HC2.out) ⟨.bool true, by kernel_rfl, ⟨rfl, setRow_heap w3 (q + 1) old _ 38 (0, 0) hs2⟩, RF.of_only (only_rowV w3 (q + 1) _) (setRow_heap w3 (q + 1) old _ 38 (0, 0) hs2) rf2_m2⟩
  · intro xs w3 hxs hR hall
    obtain ⟨x0, x1, x2, x3, x4, x5, x6, x7, rfl⟩ := lstWr7 xs hxs
    obtain ⟨_, kA⟩ : x6 = .bool true ∧ Blk w3 (q) (SV.c (ansV v (r6 : Int) 0)) 26 := hall 6 (by omega)
    obtain ⟨_, kB⟩ : x7 = .bool true ∧ Blk w3 (q + 1) (CX) 38 := hall 7 (by omega)
    have RA := hidden kA
    have RB := hidden kB
    have HRF := hidden hR
    have KP := hidden (P8.out.both HRF.out)
    have RO := hidden (own_rf R8.out HRF.out QS.out QW.out (by decide) (by decide))
    clear hR hall hxs kA kB HRF P8 KS KW QS QW R8
    simp only [slotsOn, putAll]
    go_wp2
    refine bodyPost_ret (results_cc rfl _ _ q (q + 1) _ _ (by kernel_rfl) (by kernel_rfl) (loadSt RA.out (ansV_len HV.out _ 0)) (loadCwR RB.out HC5.out)) rfl ⟨v', by rw [HCX.out], RO.out, KP.out⟩
end Go.Proofs.Ytodoenimlhldjaa
namespace Go.Proofs.Ytodoenimlhldjaa
open Go.ChangeShapes Go.WideShapes Go.ChangeAt Go.RowKit
set_option linter.unusedVariables false
/-- What the slots of the region hold, whatever the order. -/
def phiWs7 (n q : Nat) (v : SV) (CW : Array Value) (rv : Int) : Nat → Value → World → Prop
  | 0, x, _ => x = .agg (SV.c v)
  | 1, x, _ => x = .pointer (some ⟨n, 0, none⟩)
  | 2, x, _ => x = .pointer (some ⟨n, 6, none⟩)
  | 3, x, _ => x = .int .u32 rv
  | 4, x, _ => x = .agg (SV.c (ansV v rv 0))
  | 5, x, _ => x = .agg CW
  | 6, x, w => x = .bool true ∧ Blk w (q) (SV.c (ansV v rv 0)) 26
  | 7, x, w => x = .bool true ∧ Blk w (q + 1) (CW) 38
  | _ + 8, _, _ => True
theorem phiWs7_mono (n q : Nat) (v : SV) (CW : Array Value) (rv : Int) : ∀ i x w w', phiWs7 n q v CW rv i x w → RF [(q, Obj.cells (SV.c (ansV v rv 0)) 26 (0, 0)), (q + 1, Obj.cells (CW) 38 (0, 0))] w w' → phiWs7 n q v CW rv i x w'
  | 0, _, _, _, h, _ => h
  | 1, _, _, _, h, _ => h
  | 2, _, _, _, h, _ => h
  | 3, _, _, _, h, _ => h
  | 4, _, _, _, h, _ => h
  | 5, _, _, _, h, _ => h
  | 6, x, w, w', h, hb => ⟨h.1, hb.blk h.2 rf2_a⟩
  | 7, x, w, w', h, hb => ⟨h.1, hb.blk h.2 rf2_b⟩
  | _ + 8, _, _, _, _, _ => trivial
theorem lstWs7 : ∀ xs : List Value, xs.length = 8 → ∃ x0 x1 x2 x3 x4 x5 x6 x7, xs = [x0, x1, x2, x3, x4, x5, x6, x7]
  | [x0, x1, x2, x3, x4, x5, x6, x7], _ => ⟨_, _, _, _, _, _, _, _, rfl⟩
set_option maxRecDepth 20000 in
set_option maxHeartbeats 2000000 in
theorem write_yes_two (w : World) (s : MS) (h : MemW w s) (v : SV) (hv : v.ok) (inp : ByteArray) (at_ us : Int) (rd ev : Value) (l : List Int) (e : List (Int × ByteArray)) (N : Nat) (hrd : Fr w N 3 rd l.length (cI l)) (hev : Fr w N 66 ev e.length (cE e)) (hel : e.length ≤ 16384) (hN : N ≤ w.heap.size) (hfo : ∀ b, foot s b → ev.ownBlock ≠ some b) (hfd : v.R.getD 4 0 = 2) (hno : refV s v true 4 = 0) : Calls Try.prog 37 #[.pointer (some ⟨s.mb, 0, none⟩), .agg v.c, .agg (cwC inp at_ rd us ev)] w fun x w' => ∃ ev', x = .returned (.tuple #[.agg (ansV v (v.R.getD 6 0) 0).c, .agg (cwC inp at_ rd us ev')]) ∧ w'.ownsRow N 66 2 ev' (e.length + 1) (cE (e ++ [(v.R.getD 4 0, ⟨(s.span (v.R.getD 5 0).toNat (v.R.getD 6 0).toNat).toArray⟩)])) ∧ Keep (fun b => ev.ownBlock = some b) w w' := by
  obtain ⟨n, hn⟩ : ∃ n, w.heap.size = n := ⟨_, rfl⟩
  obtain ⟨q, hq⟩ : ∃ q, n + 1 + 1 = q := ⟨_, rfl⟩
  obtain ⟨FF, hFF⟩ : ∃ FF : Nat → Prop, (fun b => ev.ownBlock = some b) = FF := ⟨_, rfl⟩
  have HFN : Hid (∀ b, FF b → b < n) := hidden (fun b hb => by
    rw [← hFF] at hb
    obtain ⟨g, _, e1, hk⟩ := hev
    rw [e1] at hb
    have e2 : g = b := Option.some.inj hb
    have := hk.lt
    omega)
  have HV := hidden hv.1
  have HQ := hidden hq
  clear hq
  have HFO : Hid (∀ b, foot s b → ¬ FF b) := hidden (fun b hb => by rw [← hFF]; exact hfo b hb)
  rw [hFF]
  obtain ⟨rv, hrv⟩ : ∃ z, refV s v true 4 = z := ⟨_, rfl⟩
  rw [hrv] at hno
  subst hno
  have HRF0 : Hid (∀ u, Keep nought w u → Calls Try.prog 64 #[.pointer (some ⟨s.mb, 0, none⟩), .agg v.c, .bool true, .int .i64 4] u fun e w' => e = .returned (.int .u32 0) ∧ Below u.heap.size u w') := hidden (fun u hu => by
    have h2 := refusal_any u s (h.keep hu (fun b hb => id)) v hv true 4
    rw [hrv] at h2
    exact h2)
  obtain ⟨r2, h2⟩ : ∃ r2 : Nat, v.R.getD 2 0 = (r2 : Int) := ⟨(v.R.getD 2 0).toNat, by have := (hv.2.1 2 (by omega)).1; omega⟩
  obtain ⟨r4, h4⟩ : ∃ r4 : Nat, v.R.getD 4 0 = (r4 : Int) := ⟨(v.R.getD 4 0).toNat, by have := (hv.2.1 4 (by omega)).1; omega⟩
  obtain ⟨r5, h5⟩ : ∃ r5 : Nat, v.R.getD 5 0 = (r5 : Int) := ⟨(v.R.getD 5 0).toNat, by have := (hv.2.1 5 (by omega)).1; omega⟩
  obtain ⟨r6, h6⟩ : ∃ r6 : Nat, v.R.getD 6 0 = (r6 : Int) := ⟨(v.R.getD 6 0).toNat, by have := (hv.2.1 6 (by omega)).1; omega⟩
  have l5 : r5 < 4294967296 := by have := (hv.2.1 5 (by omega)).2; omega
  have l6 : r6 < 4294967296 := by have := (hv.2.1 6 (by omega)).2; omega
  have H2 := hidden h2
  have H4 := hidden h4
  have H5 := hidden h5
  have H6 := hidden h6
  have l66 : (r6 : Int) ≤ 16384 := by
    unfold refV at hrv
    rw [if_neg (by decide), h6] at hrv
    by_cases hg : 16384 < (r6 : Int)
    · rw [if_pos hg] at hrv; exact absurd hrv (by decide)
    · omega
  rw [h4] at hfd ⊢
  rw [h5, h6, Int.toNat_natCast, Int.toNat_natCast]
  have HRI := hidden (fun u => right_any v hv.1 (r6 : Int) u)
  have f1 : ((r4 : Int) == 1) = false := beq_eq_false_iff_ne.2 (by omega)
  have f2 : ((r4 : Int) == 2) = true := beq_iff_eq.2 (by omega)
  have hi4 : ∀ u, (Instr.indexAt 24 (.pointer (some ⟨n, 0, none⟩)) (.int .i64 4)).run Try.prog u = .ok (.pointer (some ⟨n, 4, none⟩)) u := fun u => index_reg n 4 (by omega) u
  have hi5 : ∀ u, (Instr.indexAt 24 (.pointer (some ⟨n, 0, none⟩)) (.int .i64 5)).run Try.prog u = .ok (.pointer (some ⟨n, 5, none⟩)) u := fun u => index_reg n 5 (by omega) u
  have hi6 : ∀ u, (Instr.indexAt 24 (.pointer (some ⟨n, 0, none⟩)) (.int .i64 6)).run Try.prog u = .ok (.pointer (some ⟨n, 6, none⟩)) u := fun u => index_reg n 6 (by omega) u
  have HBY : Hid (∀ u, Keep nought w u → Calls Try.prog 22 #[.pointer (some ⟨s.mb, 0, none⟩), .int .u32 (r5 : Int), .int .i64 (r6 : Int)] u fun x w' => ∃ ao, x = .returned (.slice ao r6 r6) ∧ Row w' ao (s.span r5 r6) r6 ∧ Below u.heap.size u w') := hidden (fun u hu => by
    have h2 := mbytes_any u s r5 (r6 : Int) (h.keep hu (fun b hb => id)) l5
    have e1 : cutLen (r6 : Int) = r6 := by unfold cutLen; omega
    rw [e1, span_len] at h2
    exact h2)
  have HEV := hidden hev
  have HEL := hidden hel
  have HNN := hidden hN
  have HSL := hidden (span_len s r5 r6)
  have HC1 : Hid (∀ ev', ev'.oneCell' = true → (cwC inp at_ rd us ev').all (·.oneCell') = true) := hidden (fun ev' he => cw_one hrd.one he)
  have HFE := hidden hFF
  obtain ⟨C, hC⟩ : ∃ C, v.c = C := ⟨_, rfl⟩
  rw [hC]
  have HC := hidden hC
  obtain ⟨CW, hCW⟩ : ∃ CW, cwC inp at_ rd us ev = CW := ⟨_, rfl⟩
  rw [hCW]
  have HCW := hidden hCW
  have HC54 : Hid (4 < CW.size) := hidden (by rw [← hCW]; exact (show 4 < 5 by decide))
  obtain ⟨data, hdata⟩ : ∃ data, s.span r5 r6 = data := ⟨_, rfl⟩
  rw [hdata] at HBY HSL ⊢
  clear hC hCW hdata hv hrv h2 h4 h5 h6 hfd hrd hev hel hFF l5 l6 h hfo hN
  have l60 : (0 : Int) ≤ (r6 : Int) := by omega
  go_enter Try.func37, Try.ntmps37
  go_upto_region 1 with (first
    | (refine wpList_boxG rfl 26 _ rfl C rfl ?_; rintro w1 k1 s1 b1; rw [hn] at k1 s1 b1 ⊢; have K1 : Hid (Blk w1 n v.c 26) := hidden (by rw [HC.out]; exact k1); have S1 := hidden s1; have B1 := hidden b1; clear k1 s1 b1)
    | (refine wpList_boxG rfl 38 _ rfl CW rfl ?_; rintro w2 k2 s2 b2; rw [S1.out] at k2 s2 b2 ⊢; have K2 := hidden k2; have S2 : Hid (w2.heap.size = q) := hidden (by rw [s2]; exact HQ.out); have B2 := hidden b2; clear k2 s2 b2)
    | (refine wpList_allocV rfl rfl ?_; rintro w3 k3 s3 b3; rw [S2.out] at k3 s3 b3 ⊢; have K3 := hidden k3; have S3 := hidden s3; have B3 := hidden b3; clear k3 s3 b3)
    | (refine wpList_allocCw rfl rfl ?_; rintro w4 k4 s4 b4; rw [S3.out] at k4 s4 b4 ⊢; have P := hidden (WA.mk4 (F := nought) hn HQ.out K1.out S1.out B1.out K2.out S2.out B2.out K3.out S3.out B3.out k4 b4); clear k4 s4 b4 K1 S1 B1 K2 S2 B2 K3 S3 B3; obtain ⟨c2, c4, c5, c6⟩ := P.out.regs HV.out H2.out H4.out H5.out H6.out))
  go_upto_region 3 with (first
    | (go_at_call 64; refine (HRF0.out _ P.out.keep).mono ?_; rintro x w5 ⟨rfl, b5⟩; clear c2 c4 c5 c6; have Q := hidden (P.out.later b5); clear P b5; have P := Q; clear Q; obtain ⟨c2, c4, c5, c6⟩ := P.out.regs HV.out H2.out H4.out H5.out H6.out)
    | (refine wpList_loadV rfl _ rfl n v rfl P.out.s HV.out ?_))
  go_upto_region 6 with (go_at_call 22; refine (HBY.out _ P.out.keep).mono ?_; rintro x w6 ⟨ao, rfl, hrow, b6⟩; clear c2 c4 c5 c6; have Q := hidden (P.out.later b6); clear P; have P := Q; clear Q; have hev6 := HEV.out.later (P.out.keep.below (Nat.le_refl _) (fun b hb => hb.elim)); obtain ⟨v', w', hr, hrw, hkp⟩ := event_append w6 N ev e (r4 : Int) ⟨data.toArray⟩ hev6 (Nat.le_trans HNN.out P.out.keep.size) HEL.out; rw [HFE.out] at hkp; have HRUN := hidden hr; have HRW := hidden hrw; have HKE := hidden hkp; have HLI := hidden hrow.lies; have e4 : w6.cell? ⟨n + 1, 4, none⟩ = some ev := (by have k6 := P.out.c; rw [← HCW.out] at k6; exact k6.cell (j := 4) rfl); clear hrow b6 hev6 hr hrw hkp; obtain ⟨c2, c4, c5, c6⟩ := P.out.regs HV.out H2.out H4.out H5.out H6.out)
  go_upto_region 7 with (first
    | (refine wpList_str rfl _ rfl data ao r6 r6 HSL.out rfl HLI.out ?_)
    | (at_builtin; refine wpList_append_run rfl _ _ 28 28 rfl rfl rfl HRUN.out ?_)
    | (refine wpList_storeC rfl rfl 28 _ _ rfl (n + 1) 4 CW 38 v' rfl rfl (rw_of_own HRW.out).one sizeEs1 (((P.out.wide (G := FF) (fun _ h => h.elim)).turn HKE.out HFN.out).c) HC54.out ?_; rintro w8 k8 o8; have P8 : Hid (WA FF w n q v (cwC inp at_ rd us v') w8) := hidden (((P.out.wide (G := FF) (fun _ h => h.elim)).turn HKE.out HFN.out).putW o8 (by rw [← HCW.out] at k8; exact k8)); have R8 := hidden (own_only HRW.out o8 (((P.out.wide (G := FF) (fun _ h => h.elim)).turn HKE.out HFN.out).c) (by decide)); clear k8 o8))
  have HC2 := hidden (HC1.out v' (rw_of_own HRW.out).one)
  have HC5 : Hid ((cwC inp at_ rd us v').size = 5) := hidden rfl
  obtain ⟨CX, hCX⟩ : ∃ CX, cwC inp at_ rd us v' = CX := ⟨_, rfl⟩
  rw [hCX] at HC2 HC5 P8
  have HCX := hidden hCX
  have KS := hidden P8.out.s
  have KW := hidden P8.out.c
  have QS := hidden P8.out.rs
  have QW := hidden P8.out.rw
  have PQ := P8.out.hq
  have hW5 := HC5.out
  clear hCX P HRUN HRW HKE HLI HBY HRF0 HC1
  refine wp_region_on (later_rf [(q, Obj.cells (SV.c (ansV v (r6 : Int) 0)) 26 (0, 0)), (q + 1, Obj.cells (CX) 38 (0, 0))]) [47, 48, 49, 50, 51, 52, 1006, 1007] 8 (phiWs7 n q v CX (r6 : Int)) (by kernel_rfl) (by kernel_rfl) rfl rfl (phiWs7_mono n q v CX (r6 : Int)) ?_ ?_
  · intro j hj xs w3 hxs hR hpre
    obtain ⟨x0, x1, x2, x3, x4, x5, x6, x7, rfl⟩ := lstWs7 xs hxs
    have hS : Blk w3 (n) (SV.c v) 26 := hR.blk KS.out (rf2_no (by omega) (by omega))
    have hW : Blk w3 (n + 1) CX 38 := hR.blk KW.out (rf2_no (by omega) (by omega))
    have hA := hR.some ⟨_, SV.size (s := SV.zero) rfl, QS.out⟩ (rf2_s1 (SV.size (ansV_len HV.out (r6 : Int) 0)))
    have hB := hR.some (n := 5) ⟨_, (show zCw.size = 5 from rfl), QW.out⟩ (rf2_s2 hW5)
    rcases (show j = 0 ∨ j = 1 ∨ j = 2 ∨ j = 3 ∨ j = 4 ∨ j = 5 ∨ j = 6 ∨ j = 7 by omega) with rfl | rfl | rfl | rfl | rfl | rfl | rfl | rfl
    · exact wpOp_run (.agg (SV.c v)) rfl (by kernel_rfl) (exec_load 26 rfl (by kernel_rfl) w3 (loadSt hS HV.out)) ⟨_, by kernel_rfl, rfl, (later_rf _).refl _⟩
    · exact wpOp_run (.pointer (some ⟨n, 0, none⟩)) rfl (by kernel_rfl) (by kernel_rfl) ⟨_, by kernel_rfl, rfl, (later_rf _).refl _⟩
    · have e1 : x1 = .pointer (some ⟨n, 0, none⟩) := hpre 1 (by kernel_rfl)
      subst e1
      exact wpOp_run (.pointer (some ⟨n, 6, none⟩)) rfl (by kernel_rfl) (exec_indexR (k := 6) (by decide) rfl (by kernel_rfl) (by kernel_rfl) w3) ⟨_, by kernel_rfl, rfl, (later_rf _).refl _⟩
    · have e2 : x2 = .pointer (some ⟨n, 6, none⟩) := hpre 2 (by kernel_rfl)
      subst e2
      exact wpOp_run (.int .u32 (r6 : Int)) rfl (by kernel_rfl) (exec_load 23 rfl (by kernel_rfl) w3 (loadU (by rw [← H6.out]; exact hS.cell (SV.getR HV.out (by decide))))) ⟨_, by kernel_rfl, rfl, (later_rf _).refl _⟩
    · have e0 : x0 = .agg (SV.c v) := hpre 0 (by kernel_rfl)
      subst e0
      have e3 : x3 = .int .u32 (r6 : Int) := hpre 3 (by kernel_rfl)
      subst e3
      refine wpOp_callR (R := fun u w4 => u = .agg (SV.c (ansV v (r6 : Int) 0)) ∧ Below w3.heap.size w3 w4) 65 #[.agg (SV.c v), .int .u32 (r6 : Int)] rfl (by kernel_rfl) (by kernel_rfl) ((HRI.out w3).mono fun e w4 h => ⟨_, h.1, rfl, h.2⟩) ?_
      rintro _ w4 ⟨rfl, hb⟩
      exact ⟨_, by kernel_rfl, rfl, RF.of_below hb⟩
    · exact wpOp_run (.agg CX) rfl (by kernel_rfl) (exec_load 38 rfl (by kernel_rfl) w3 (loadCwR hW hW5)) ⟨_, by kernel_rfl, rfl, (later_rf _).refl _⟩
    · have e4 : x4 = .agg (SV.c (ansV v (r6 : Int) 0)) := hpre 4 (by kernel_rfl)
      subst e4
      obtain ⟨old, hs1, hs2⟩ := hA
      exact wpOp_put rfl (by kernel_rfl) (exec_storeG (g := q) (cs := SV.c (ansV v (r6 : Int) 0)) (old := old) rfl (by kernel_rfl) (by kernel_rfl) w3 hs2 (by rw [SV.size (ansV_len HV.out (r6 : Int) 0)]; exact sizeSV) (by rw [hs1, SV.size (ansV_len HV.out (r6 : Int) 0)]) (SV.one _)) ⟨.bool true, by kernel_rfl, ⟨rfl, setRow_heap w3 (q) old _ 26 (0, 0) hs2⟩, RF.of_only (only_rowV w3 (q) _) (setRow_heap w3 (q) old _ 26 (0, 0) hs2) rf2_m1⟩
    · have e5 : x5 = .agg CX := hpre 5 (by kernel_rfl)
      subst e5
      obtain ⟨old, hs1, hs2⟩ := hB
      exact wpOp_put rfl (by kernel_rfl) (exec_storeG (g := q + 1) (cs := CX) (old := old) rfl (by kernel_rfl) (by kernel_rfl) w3 hs2 (by rw [hW5]; exact sizeCw) (by rw [hs1, hW5]) HC2.out) ⟨.bool true, by kernel_rfl, ⟨rfl, setRow_heap w3 (q + 1) old _ 38 (0, 0) hs2⟩, RF.of_only (only_rowV w3 (q + 1) _) (setRow_heap w3 (q + 1) old _ 38 (0, 0) hs2) rf2_m2⟩
  · intro xs w3 hxs hR hall
    obtain ⟨x0, x1, x2, x3, x4, x5, x6, x7, rfl⟩ := lstWs7 xs hxs
    obtain ⟨_, kA⟩ : x6 = .bool true ∧ Blk w3 (q) (SV.c (ansV v (r6 : Int) 0)) 26 := hall 6 (by omega)
    obtain ⟨_, kB⟩ : x7 = .bool true ∧ Blk w3 (q + 1) (CX) 38 := hall 7 (by omega)
    have RA := hidden kA
    have RB := hidden kB
    have HRF := hidden hR
    have KP := hidden (P8.out.both HRF.out)
    have RO := hidden (own_rf R8.out HRF.out QS.out QW.out (by decide) (by decide))
    clear hR hall hxs kA kB HRF P8 KS KW QS QW R8
    simp only [slotsOn, putAll]
    go_wp2
    refine bodyPost_ret (results_cc rfl _ _ q (q + 1) _ _ (by kernel_rfl) (by kernel_rfl) (loadSt RA.out (ansV_len HV.out _ 0)) (loadCwR RB.out HC5.out)) rfl ⟨v', by rw [HCX.out], RO.out, KP.out⟩
end Go.Proofs.Ytodoenimlhldjaa
namespace Go.Proofs.Ytodoenimlhldjaa
open Go.ChangeShapes Go.WideShapes Go.ChangeAt Go.RowKit
set_option linter.unusedVariables false
theorem WA.turn2 {G : Nat → Prop} {w : World} {n q : Nat} {v : SV} {cw : Array Value} {wr w' : World} (h : WA nought w n q v cw wr) (k : Keep G wr w') (hG : ∀ b, G b → q + 1 < b) : WA nought w n q v cw w' :=
  ⟨⟨k.os.trans h.keep.os, k.tape.trans h.keep.tape, k.output.trans h.keep.output, Nat.le_trans h.keep.size k.size, fun b hl hn => (k.block b (Nat.lt_of_lt_of_le hl h.keep.size) (fun e => by have := hG _ e; have := h.nn; have := h.hq; omega)).trans (h.keep.block b hl hn)⟩, (k.block n h.s.lt (fun e => by have := hG _ e; have := h.hq; omega)).trans h.s, (k.block (n + 1) h.c.lt (fun e => by have := hG _ e; have := h.hq; omega)).trans h.c, (k.block q h.rs.lt (fun e => by have := hG _ e; omega)).trans h.rs, (k.block (q + 1) h.rw.lt (fun e => by have := hG _ e; omega)).trans h.rw, h.nn, h.hq⟩
theorem WA.putS {F : Nat → Prop} {w : World} {n q : Nat} {v v' : SV} {cw : Array Value} {wr w' : World} (h : WA F w n q v cw wr) (ho : Only n wr w') (hk : Blk w' n v'.c 26) : WA F w n q v' cw w' :=
  ⟨⟨ho.os.trans h.keep.os, ho.tape.trans h.keep.tape, ho.output.trans h.keep.output, by rw [ho.size]; exact h.keep.size, fun b hl hn => (ho.block b (by have := h.nn; omega)).trans (h.keep.block b hl hn)⟩, hk, h.c.only ho (by omega), h.rs.only ho (by have := h.hq; omega), h.rw.only ho (by have := h.hq; omega), h.nn, h.hq⟩
theorem WA.bel {w : World} {n q : Nat} {v : SV} {cw : Array Value} {wr : World} (h : WA nought w n q v cw wr) : Below w.heap.size w wr := h.keep.below (Nat.le_refl _) fun _ hb => hb.elim
theorem WA.sz {F : Nat → Prop} {w : World} {n q : Nat} {v : SV} {cw : Array Value} {wr : World} (h : WA F w n q v cw wr) : q + 2 ≤ wr.heap.size := h.rw.lt
theorem Fr.notOwn {w : World} {N m : Nat} {T : TypeId} {v : Value} {cs : List Value} (h : Fr w N T v m cs) {b : Nat} (hb : v.ownBlock = some b) : N ≤ b := by
  obtain ⟨g, hN, e, _⟩ := h
  rw [e] at hb
  have e2 : g = b := Option.some.inj hb
  omega
theorem Fr.rf {w w' : World} {q m : Nat} {T : TypeId} {v : Value} {cs : List Value} {A B : Obj} (h : Fr w (q + 2) T v m cs) (hR : RF [(q, A), (q + 1, B)] w w') : Fr w' (q + 2) T v m cs := by
  obtain ⟨g, hN, e, hk⟩ := h
  exact ⟨g, hN, e, hR.blk hk (rf2_no (by omega) (by omega))⟩
theorem own_zero {w : World} {N z m : Nat} {T : TypeId} {v : Value} {cs : List Value} (h : w.ownsRow N T z v m cs) : w.ownsRow 0 T z v m cs := ⟨h.1, h.2.imp id fun ⟨g, cap, cur, e, _, r⟩ => ⟨g, cap, cur, e, Nat.zero_le _, r⟩⟩
theorem Fr.turn {w w' : World} {N M m m2 : Nat} {T U : TypeId} {v v2 : Value} {cs c2 : List Value} (h : Fr w N T v m cs) (h2 : Fr w M U v2 m2 c2) (k : Keep (fun b => v2.ownBlock = some b) w w') (hne : T ≠ U) : Fr w' N T v m cs := by
  obtain ⟨g, hN, e, hk⟩ := h
  obtain ⟨g2, _, e2, hk2⟩ := h2
  refine ⟨g, hN, e, (k.block g hk.lt fun hb => ?_).trans hk⟩
  rw [e2] at hb
  have e3 : g2 = g := Option.some.inj hb
  subst e3
  have h3 := (show w.heap[g2]? = _ from hk).symm.trans hk2
  injection h3 with h3
  injection h3 with _ h3
  exact hne h3
theorem write_yes (w : World) (s : MS) (h : MemW w s) (v : SV) (hv : v.ok) (inp : ByteArray) (at_ us : Int) (rd ev : Value) (l : List Int) (e : List (Int × ByteArray)) (N : Nat) (hrd : Fr w N 3 rd l.length (cI l)) (hev : Fr w N 66 ev e.length (cE e)) (hel : e.length ≤ 16384) (hN : N ≤ w.heap.size) (hfo : ∀ b, foot s b → ev.ownBlock ≠ some b) (hfd : v.R.getD 4 0 = 1 ∨ v.R.getD 4 0 = 2) (hno : refV s v true 4 = 0) : Calls Try.prog 37 #[.pointer (some ⟨s.mb, 0, none⟩), .agg v.c, .agg (cwC inp at_ rd us ev)] w fun x w' => ∃ ev', x = .returned (.tuple #[.agg (ansV v (v.R.getD 6 0) 0).c, .agg (cwC inp at_ rd us ev')]) ∧ w'.ownsRow N 66 2 ev' (e.length + 1) (cE (e ++ [(v.R.getD 4 0, ⟨(s.span (v.R.getD 5 0).toNat (v.R.getD 6 0).toNat).toArray⟩)])) ∧ Keep (fun b => ev.ownBlock = some b) w w' := by
  rcases hfd with hfd | hfd
  · exact write_yes_one w s h v hv inp at_ us rd ev l e N hrd hev hel hN hfo hfd hno
  · exact write_yes_two w s h v hv inp at_ us rd ev l e N hrd hev hel hN hfo hfd hno
/-- What the slots of the region hold, whatever the order. -/
def phiCa13 (n q : Nat) (v V : SV) (CX : Array Value) : Nat → Value → World → Prop
  | 0, x, _ => x = .agg (SV.c V)
  | 1, x, _ => x = .agg CX
  | 2, x, _ => x = .int .i64 0
  | 3, x, w => x = .bool true ∧ Blk w (q) (SV.c (V)) 26
  | 4, x, w => x = .bool true ∧ Blk w (q + 1) (CX) 38
  | 5, x, _ => x = .int .i64 0
  | 6, x, _ => x = .int .u32 0
  | _ + 7, _, _ => True
theorem phiCa13_mono (n q : Nat) (v V : SV) (CX : Array Value) : ∀ i x w w', phiCa13 n q v V CX i x w → RF [(q, Obj.cells (SV.c (V)) 26 (0, 0)), (q + 1, Obj.cells (CX) 38 (0, 0))] w w' → phiCa13 n q v V CX i x w'
  | 0, _, _, _, h, _ => h
  | 1, _, _, _, h, _ => h
  | 2, _, _, _, h, _ => h
  | 3, x, w, w', h, hb => ⟨h.1, hb.blk h.2 rf2_a⟩
  | 4, x, w, w', h, hb => ⟨h.1, hb.blk h.2 rf2_b⟩
  | 5, _, _, _, h, _ => h
  | 6, _, _, _, h, _ => h
  | _ + 7, _, _, _, _, _ => trivial
theorem lstCa13 : ∀ xs : List Value, xs.length = 7 → ∃ x0 x1 x2 x3 x4 x5 x6, xs = [x0, x1, x2, x3, x4, x5, x6]
  | [x0, x1, x2, x3, x4, x5, x6], _ => ⟨_, _, _, _, _, _, _, rfl⟩
set_option maxRecDepth 20000 in
set_option maxHeartbeats 2000000 in
theorem call_wr (w : World) (s : MS) (h : MemW w s) (v : SV) (hv : v.ok) (inp : ByteArray) (at_ us : Int) (rd ev : Value) (l : List Int) (e : List (Int × ByteArray)) (hrd : Rw w 1 rd l.length (cI l)) (hev : Rw w 2 ev e.length (cE e)) (hl : l.length ≤ 16384) (hel : e.length ≤ 16384) (h2 : v.R.getD 2 0 = 4004) (hfd : v.R.getD 4 0 = 1 ∨ v.R.getD 4 0 = 2) (hno : refV s v true 4 = 0) : Calls Try.prog 13 #[.pointer (some ⟨s.mb, 0, none⟩), .agg v.c, .agg (cwC inp at_ rd us ev)] w fun x w' => ∃ rd' ev', x = .returned (.tuple #[.agg (ansV v (v.R.getD 6 0) 0).c, .agg (cwC inp at_ rd' us ev'), .int .i64 0, .int .u32 0]) ∧ Fr w' 0 3 rd' l.length (cI l) ∧ w'.ownsRow 0 66 2 ev' (e.length + 1) (cE (e ++ [(v.R.getD 4 0, ⟨(s.span (v.R.getD 5 0).toNat (v.R.getD 6 0).toNat).toArray⟩)])) ∧ Below w.heap.size w w' := by
  obtain ⟨n, hn⟩ : ∃ n, w.heap.size = n := ⟨_, rfl⟩
  obtain ⟨q, hq⟩ : ∃ q, n + 1 + 1 = q := ⟨_, rfl⟩
  have HQ := hidden hq
  have HV := hidden hv.1
  have HLL := hidden hl
  have HEL := hidden hel
  have HOW := hidden (fun u (hu : Below w.heap.size w u) => own_any u inp at_ us rd ev l e (hrd.later hu) (hev.later hu) hl hel)
  obtain ⟨es, hes⟩ : ∃ es, e ++ [(v.R.getD 4 0, (⟨(s.span (v.R.getD 5 0).toNat (v.R.getD 6 0).toNat).toArray⟩ : ByteArray))] = es := ⟨_, rfl⟩
  obtain ⟨V, hV⟩ : ∃ V, ansV v (v.R.getD 6 0) 0 = V := ⟨_, rfl⟩
  have HL5 : Hid (V.R.length = 32) := hidden (by rw [← hV]; exact ansV_len hv.1 _ _)
  have HWY : Hid (∀ (u : World) (rd1 ev1 : Value), Below w.heap.size w u → q + 2 ≤ u.heap.size → Fr u (q + 2) 3 rd1 l.length (cI l) → Fr u (q + 2) 66 ev1 e.length (cE e) → Calls Try.prog 37 #[.pointer (some ⟨s.mb, 0, none⟩), .agg v.c, .agg (cwC inp at_ rd1 us ev1)] u fun x w' => ∃ ev', x = .returned (.tuple #[.agg V.c, .agg (cwC inp at_ rd1 us ev')]) ∧ w'.ownsRow (q + 2) 66 2 ev' (e.length + 1) (cE es) ∧ Keep (fun b => ev1.ownBlock = some b) u w') := hidden (fun u rd1 ev1 hu hs hf1 hf2 => by
    rw [← hes, ← hV]
    exact write_yes u s (h.later hu) v hv inp at_ us rd1 ev1 l e (q + 2) hf1 hf2 hel hs (fun b hb hbb => by
      have h3 := hf2.notOwn hbb
      have h4 := h.lt hb
      omega) hfd hno)
  rw [hes, hV]
  obtain ⟨r2, h22⟩ : ∃ r2 : Nat, v.R.getD 2 0 = (r2 : Int) := ⟨(v.R.getD 2 0).toNat, by have := (hv.2.1 2 (by omega)).1; omega⟩
  obtain ⟨r4, h4⟩ : ∃ r4 : Nat, v.R.getD 4 0 = (r4 : Int) := ⟨(v.R.getD 4 0).toNat, by have := (hv.2.1 4 (by omega)).1; omega⟩
  obtain ⟨r5, h5⟩ : ∃ r5 : Nat, v.R.getD 5 0 = (r5 : Int) := ⟨(v.R.getD 5 0).toNat, by have := (hv.2.1 5 (by omega)).1; omega⟩
  obtain ⟨r6, h6⟩ : ∃ r6 : Nat, v.R.getD 6 0 = (r6 : Int) := ⟨(v.R.getD 6 0).toNat, by have := (hv.2.1 6 (by omega)).1; omega⟩
  have l5 : r5 < 4294967296 := by have := (hv.2.1 5 (by omega)).2; omega
  have l6 : r6 < 4294967296 := by have := (hv.2.1 6 (by omega)).2; omega
  have H2 := hidden h22
  have H4 := hidden h4
  have H5 := hidden h5
  have H6 := hidden h6
  have e2 : r2 = 4004 := by omega
  subst e2
  have hi2 : ∀ u, (Instr.indexAt 24 (.pointer (some ⟨n, 0, none⟩)) (.int .i64 2)).run Try.prog u = .ok (.pointer (some ⟨n, 2, none⟩)) u := fun u => index_reg n 2 (by omega) u
  have HC1 : Hid ((cwC inp at_ rd us ev).all (·.oneCell') = true) := hidden (cw_one hrd.one hev.one)
  have HC5 : Hid ((cwC inp at_ rd us ev).size = 5) := hidden rfl
  obtain ⟨CW, hCW⟩ : ∃ CW, cwC inp at_ rd us ev = CW := ⟨_, rfl⟩
  rw [hCW] at HC1 HC5 HOW ⊢
  obtain ⟨C, hC⟩ : ∃ C, v.c = C := ⟨_, rfl⟩
  rw [hC]
  have HC := hidden hC
  clear hC hCW hes hV hq hv h2 h22 h4 h5 h6 l5 l6 hfd hno hrd hev hl hel h
  go_enter Try.func13, Try.ntmps13
  go_upto_region 1 with (first
    | (refine wpList_boxG rfl 26 _ rfl C rfl ?_; rintro w1 k1 s1 b1; rw [hn] at k1 s1 b1 ⊢; have K1 : Hid (Blk w1 n v.c 26) := hidden (by rw [HC.out]; exact k1); have S1 := hidden s1; have B1 := hidden b1; clear k1 s1 b1)
    | (refine wpList_boxG rfl 38 _ rfl CW rfl ?_; rintro w2 k2 s2 b2; rw [S1.out] at k2 s2 b2 ⊢; have K2 := hidden k2; have S2 : Hid (w2.heap.size = q) := hidden (by rw [s2]; exact HQ.out); have B2 := hidden b2; clear k2 s2 b2)
    | (refine wpList_allocV rfl rfl ?_; rintro w3 k3 s3 b3; rw [S2.out] at k3 s3 b3 ⊢; have K3 := hidden k3; have S3 := hidden s3; have B3 := hidden b3; clear k3 s3 b3)
    | (refine wpList_allocCw rfl rfl ?_; rintro w4 k4 s4 b4; rw [S3.out] at k4 s4 b4 ⊢; have P := hidden (WA.mk4 (F := nought) hn HQ.out K1.out S1.out B1.out K2.out S2.out B2.out K3.out S3.out B3.out k4 b4); clear k4 s4 b4 K1 S1 B1 K2 S2 B2 K3 S3 B3))
  have HNQ : Hid (n + 1 < q + 2) := hidden (by have := HQ.out; omega)
  have HNQ0 : Hid (n < q + 2) := hidden (by have := HQ.out; omega)
  go_upto_region 2 with (first
    | (refine wpList_loadCw rfl _ rfl (n + 1) CW rfl P.out.c HC5.out ?_)
    | (go_at_call 34; refine (HOW.out _ P.out.bel).mono ?_; rintro x w5 ⟨rd1, ev1, rfl, f1, f2, b5⟩; have F1 := hidden (f1.mono P.out.sz); have F2 := hidden (f2.mono P.out.sz); have Q := hidden (P.out.later b5); clear P f1 f2 b5; have P := Q; clear Q)
    | (refine wpList_storeCw rfl rfl _ _ rfl (n + 1) CW (cwC inp at_ rd1 us ev1) rfl rfl P.out.c HC5.out rfl (cw_one F1.out.one F2.out.one) ?_; rintro w6 k6 o6; have Q := hidden (P.out.putW o6 k6); clear P; have P := Q; clear Q; have F3 := hidden (F1.out.keep (Keep.of_only o6) HNQ.out); have F4 := hidden (F2.out.keep (Keep.of_only o6) HNQ.out); clear k6 o6 F1 F2))
  have c2 : _ := P.out.s.cell (SV.getR HV.out (show 2 < 32 by decide))
  rw [H2.out] at c2
  obtain ⟨CY, hCY⟩ : ∃ CY, cwC inp at_ rd1 us ev1 = CY := ⟨_, rfl⟩
  have HWZ := hidden (HWY.out _ rd1 ev1 P.out.bel P.out.sz F3.out F4.out)
  rw [hCY] at P HWZ
  have HCY5 : Hid (CY.size = 5) := hidden (by rw [← hCY]; rfl)
  clear hCY HWY HOW HC1
  go_upto_region 10 with fail
  go_upto_region 13 with (first
    | (refine wpList_loadV rfl _ rfl n v rfl P.out.s HV.out ?_)
    | (refine wpList_loadCw rfl _ rfl (n + 1) CY rfl P.out.c HCY5.out ?_)
    | (go_at_call 37; refine HWZ.out.mono ?_; rintro x w7 ⟨ev2, rfl, hrw, hk⟩; have R7 := hidden hrw; have P7 := hidden (P.out.turn2 hk (fun b hb => F4.out.notOwn hb)); have F7 := hidden (F3.out.turn F4.out hk (by decide)); clear c2 hrw hk HWZ F3 P)
    | (refine wpList_storeV rfl rfl _ _ rfl n v V rfl rfl P7.out.s HV.out HL5.out ?_; rintro w8 k8 o8; have P8 := hidden (P7.out.putS o8 k8); have R8 := hidden (own_only R7.out o8 P7.out.s (by decide)); have F8 := hidden (F7.out.keep (Keep.of_only o8) HNQ0.out); clear k8 o8 P7 R7 F7)
    | (refine wpList_storeCw rfl rfl _ _ rfl (n + 1) CY (cwC inp at_ rd1 us ev2) rfl rfl P8.out.c HCY5.out rfl (cw_one F8.out.one (rw_of_own R8.out).one) ?_; rintro w9 k9 o9; have P9 := hidden (P8.out.putW o9 k9); have R9 := hidden (own_only R8.out o9 P8.out.c (by decide)); have F9 := hidden (F8.out.keep (Keep.of_only o9) HNQ.out); clear k9 o9 P8 R8 F8))
  have HC2 : Hid ((cwC inp at_ rd1 us ev2).all (·.oneCell') = true) := hidden (cw_one F9.out.one (rw_of_own R9.out).one)
  obtain ⟨CX, hCX⟩ : ∃ CX, cwC inp at_ rd1 us ev2 = CX := ⟨_, rfl⟩
  have HC5X : Hid (CX.size = 5) := hidden (by rw [← hCX]; rfl)
  rw [hCX] at HC2 P9
  have HCX := hidden hCX
  have KS := hidden P9.out.s
  have KW := hidden P9.out.c
  have QS := hidden P9.out.rs
  have QW := hidden P9.out.rw
  have PQ := P9.out.hq
  have hW5 := HC5X.out
  clear hCX HCY5
  refine wp_region_on (later_rf [(q, Obj.cells (SV.c (V)) 26 (0, 0)), (q + 1, Obj.cells (CX) 38 (0, 0))]) [52, 53, 54, 1003, 1004, 8, 9] 7 (phiCa13 n q v V CX) (by kernel_rfl) (by kernel_rfl) rfl rfl (phiCa13_mono n q v V CX) ?_ ?_
  · intro j hj xs w3 hxs hR hpre
    obtain ⟨x0, x1, x2, x3, x4, x5, x6, rfl⟩ := lstCa13 xs hxs
    have hS : Blk w3 (n) (SV.c V) 26 := hR.blk KS.out (rf2_no (by omega) (by omega))
    have hW : Blk w3 (n + 1) CX 38 := hR.blk KW.out (rf2_no (by omega) (by omega))
    have hA := hR.some ⟨_, SV.size (s := SV.zero) rfl, QS.out⟩ (rf2_s1 (SV.size HL5.out))
    have hB := hR.some (n := 5) ⟨_, (show zCw.size = 5 from rfl), QW.out⟩ (rf2_s2 hW5)
    rcases (show j = 0 ∨ j = 1 ∨ j = 2 ∨ j = 3 ∨ j = 4 ∨ j = 5 ∨ j = 6 by omega) with rfl | rfl | rfl | rfl | rfl | rfl | rfl
    · exact wpOp_run (.agg (SV.c V)) rfl (by kernel_rfl) (exec_load 26 rfl (by kernel_rfl) w3 (loadSt hS HL5.out)) ⟨_, by kernel_rfl, rfl, (later_rf _).refl _⟩
    · exact wpOp_run (.agg CX) rfl (by kernel_rfl) (exec_load 38 rfl (by kernel_rfl) w3 (loadCwR hW hW5)) ⟨_, by kernel_rfl, rfl, (later_rf _).refl _⟩
    · exact wpOp_run (.int .i64 0) rfl (by kernel_rfl) (exec_move rfl (by kernel_rfl) w3) ⟨_, by kernel_rfl, rfl, (later_rf _).refl _⟩
    · have e0 : x0 = .agg (SV.c V) := hpre 0 (by kernel_rfl)
      subst e0
      obtain ⟨old, hs1, hs2⟩ := hA
      exact wpOp_put rfl (by kernel_rfl) (exec_storeG (g := q) (cs := SV.c (V)) (old := old) rfl (by kernel_rfl) (by kernel_rfl) w3 hs2 (by rw [SV.size HL5.out]; exact sizeSV) (by rw [hs1, SV.size HL5.out]) (SV.one _)) ⟨.bool true, by kernel_rfl, ⟨rfl, setRow_heap w3 (q) old _ 26 (0, 0) hs2⟩, RF.of_only (only_rowV w3 (q) _) (setRow_heap w3 (q) old _ 26 (0, 0) hs2) rf2_m1⟩
    · have e1 : x1 = .agg CX := hpre 1 (by kernel_rfl)
      subst e1
      obtain ⟨old, hs1, hs2⟩ := hB
      exact wpOp_put rfl (by kernel_rfl) (exec_storeG (g := q + 1) (cs := CX) (old := old) rfl (by kernel_rfl) (by kernel_rfl) w3 hs2 (by rw [hW5]; exact sizeCw) (by rw [hs1, hW5]) HC2.out) ⟨.bool true, by kernel_rfl, ⟨rfl, setRow_heap w3 (q + 1) old _ 38 (0, 0) hs2⟩, RF.of_only (only_rowV w3 (q + 1) _) (setRow_heap w3 (q + 1) old _ 38 (0, 0) hs2) rf2_m2⟩
    · have e2 : x2 = .int .i64 0 := hpre 2 (by kernel_rfl)
      subst e2
      exact wpOp_run (.int .i64 0) rfl (by kernel_rfl) (by kernel_rfl) ⟨_, by kernel_rfl, rfl, (later_rf _).refl _⟩
    · exact wpOp_run (.int .u32 0) rfl (by kernel_rfl) (by kernel_rfl) ⟨_, by kernel_rfl, rfl, (later_rf _).refl _⟩
  · intro xs w3 hxs hR hall
    obtain ⟨x0, x1, x2, x3, x4, x5, x6, rfl⟩ := lstCa13 xs hxs
    obtain ⟨_, kA⟩ : x3 = .bool true ∧ Blk w3 (q) (SV.c (V)) 26 := hall 3 (by omega)
    obtain ⟨_, kB⟩ : x4 = .bool true ∧ Blk w3 (q + 1) (CX) 38 := hall 4 (by omega)
    have RA := hidden kA
    have RB := hidden kB
    have HRF := hidden hR
    have g5 : x5 = .int .i64 0 := hall 5 (by omega)
    have g6 : x6 = .int .u32 0 := hall 6 (by omega)
    subst g5
    subst g6
    have KP := hidden (P9.out.both HRF.out)
    have RO := hidden (own_zero (own_rf R9.out HRF.out QS.out QW.out (by decide) (by decide)))
    have RI := hidden ((F9.out.rf HRF.out).mono (Nat.zero_le _))
    clear hR hall hxs kA kB HRF P9 KS KW QS QW R9 F9
    simp only [slotsOn, putAll]
    go_wp2
    refine bodyPost_ret (results_cctt rfl _ _ q (q + 1) _ _ (by kernel_rfl) (by kernel_rfl) (loadSt RA.out HL5.out) (loadCwR RB.out HC5X.out)) rfl ⟨rd1, ev2, ?_, RI.out, RO.out, KP.out.below (Nat.le_refl _) fun _ hb => hb.elim⟩
    rw [HCX.out]
    kernel_rfl
end Go.Proofs.Ytodoenimlhldjaa

/- Layer 11's example, walked. -/
import Derived.Test.YtobnocioefchlaaPMBJ
namespace Go.Proofs.Ytobnocioefchlaa
open Go.ChangeShapes Go.WideShapes Go.ChangeAt Go.RowKit
set_option linter.unusedVariables false
/-- A row of any type that is built out of what slots hold. -/
theorem wpList_buildG {ops : Array Oper} {rest : List Oper} {o : Oper} {a : Act} {w : World} {Q : Exit → Act → World → Prop} (hgd : o.guard = none) (T : TypeId) (parts : Array (Nat × Operand)) (ho : o.op = .build T parts) (ps : Array (Nat × Value)) (hp : (parts.map fun (i, x) => (i, a.eval x)) = ps) (cs : Array Value) (hr : (Instr.build T ps).run Try.prog w = .ok (.agg cs) w)
    (h : wpList Try.prog ops Q rest (a.put o.dst (.agg cs)) w) : wpList Try.prog ops Q (o :: rest) a w :=
  Great.wpList_runTo hgd o.dst rfl (.agg cs) w (exec_build (parts := parts) T ho hp w hr) h
def stPN (pc nx : Int) : SV := ⟨List.replicate 32 0, 0, 0, pc, nx, false⟩
theorem buildPN (pc nx : Int) (w : World) : (Instr.build 26 #[(3, .int .u32 pc), (4, .int .u32 nx)]).run Try.prog w = .ok (.agg (SV.c (stPN pc nx))) w := by kernel_rfl
/-- A part of code. -/
def codeP (at_ : Nat) (ws : List Nat) (z : Int) (on : Bool) (ao : Option Addr) (c : Nat) : Part4 := ⟨at_, bytesOf ws, z, on, ao, c⟩
/-- A memory of one part of code, made behind w. -/
theorem memory_code (w : World) (at_ : Nat) (hat : at_ < 4294967296) (ws : List Nat) (hl : ws.length ≤ 100) (z : Int) (ao : Option Addr) (c : Nat) (hr : Row w ao (bytesOf ws) c) :
    Calls Try.prog 9 #[.slice (some ⟨w.heap.size, 0, none⟩) 1 1] (w.alloc (.cells (partC at_ ao (4 * ws.length) c z false) 44)) fun e w' => ∃ s, e = .returned (.pointer (some ⟨s.mb, 0, none⟩)) ∧ Own w w' s ∧ s.abs = memOf [codeP at_ ws z false ao c] ∧ s.c ≤ 4800 := by
  have h := piece_new w at_ hat ao (bytesOf ws) c z false hr
  rw [bytesOf_len] at h
  have hm := memory_any _ _ 1 [codeP at_ ws z false ao c] h (by simp) (by
    intro p hp
    rw [List.mem_singleton.1 hp]
    show (bytesOf ws).length ≤ 600
    rw [bytesOf_len]; omega)
  refine hm.mono fun e w' hx => ?_
  obtain ⟨s, he, ho, ha, _, _, _, hc⟩ := hx
  exact ⟨s, he, ⟨ho.mem, (below_new w _).trans (ho.below.mono (below_new w _).size), fun b hb => Nat.le_trans (below_new w _).size (ho.foot b hb)⟩, ha, hc⟩
theorem ex_jr : insR (wordK 26 3 0 0 0 0) = ⟨27, ⟨3, 0, 0, 0, 0⟩⟩ := by
  rw [show wordK 26 3 0 0 0 0 = mkW 0 3 0 0 0 8 from rfl]
  exact dec_76 (k := 26) (by omega) rfl (by omega) (by omega) (by omega)
/-- A step whose answer is known. -/
theorem step_out {s : MS} {w : World} (hm : MemW w s) {v : SV} (hv : v.ok) (hc : s.c + 4 ≤ 1099511627776) {X : Out} (hX : stepP s v = X) : Calls Try.prog 10 #[.pointer (some ⟨s.mb, 0, none⟩), .agg v.c] w fun e w' => e = .returned (.tuple #[.agg X.st.c, .int .i64 X.out, .agg (faultC X.kd X.pc X.sl X.bad)]) ∧ ∃ s', PokesTo s (stepL s v) s' ∧ Step w s w' s' := by
  have h := step_any s w hm v hv hc
  rw [hX] at h
  exact h
theorem step_stop {s : MS} {w : World} (hm : MemW w s) {v : SV} (hv : v.ok) (hc : s.c + 4 ≤ 1099511627776) {k b : Int} (hX : stepP s v = stopO v k b) : Calls Try.prog 10 #[.pointer (some ⟨s.mb, 0, none⟩), .agg v.c] w fun e w' => e = .returned (.tuple #[.agg v.c, .int .i64 2, .agg (faultC k v.pc v.sl b)]) ∧ ∃ s', PokesTo s (stepL s v) s' ∧ Step w s w' s' := step_out hm hv hc hX
theorem step_went {s : MS} {w : World} (hm : MemW w s) {v : SV} (hv : v.ok) (hc : s.c + 4 ≤ 1099511627776) {st : SV} {o : Int} (hX : stepP s v = wentO st o) : Calls Try.prog 10 #[.pointer (some ⟨s.mb, 0, none⟩), .agg v.c] w fun e w' => e = .returned (.tuple #[.agg st.c, .int .i64 o, .agg (faultC 0 0 false 0)]) ∧ ∃ s', PokesTo s (stepL s v) s' ∧ Step w s w' s' := step_out hm hv hc hX
theorem st_cells {u : World} {b : Nat} {st : SV} (h : Blk u b st.c 26) (hl : st.R.length = 32) : u.cell? ⟨b, 31, none⟩ = some (.int .u32 (st.R.getD 31 0)) ∧ u.cell? ⟨b, 34, none⟩ = some (.int .u32 st.pc) ∧ u.cell? ⟨b, 35, none⟩ = some (.int .u32 st.nx) ∧ u.cell? ⟨b, 36, none⟩ = some (.bool st.sl) := ⟨h.cell (SV.getR hl (by omega)), h.cell (SV.get_pc hl), h.cell (SV.get_nx hl), h.cell (SV.get_sl hl)⟩
def exS : SV := { stPN 8 12 with R := (stPN 8 12).R.set 3 100 }
theorem exS_ok : exS.ok := SV.ok_set (v := stPN 8 12) ⟨rfl, (by decide), ⟨by decide, by decide⟩, ⟨by decide, by decide⟩, ⟨by decide, by decide⟩, ⟨by decide, by decide⟩⟩ 3 100 (by omega) (by omega)
theorem ex_step {s : MS} {ao : Option Addr} {c : Nat} (h : s.abs = memOf [codeP 8 [wordK 26 3 0 0 0 0] 7 false ao c]) : stepP s exS = wentO { exS.on with R := exS.on.R.set 0 0, nx := 100, sl := true } 0 := by
  have hf := fetch_code (p := codeP 8 [wordK 26 3 0 0 0 0] 7 false ao c) h rfl (show bits .and .i64 ((7 : Int) % 8) 1 ≠ 0 by decide) (show (8 : Nat) % 4 = 0 from rfl) (show 8 + 4 * 1 ≤ 4294967296 by decide) 0 (show 0 < 1 by decide) (show wordK 26 3 0 0 0 0 < 4294967296 by decide)
  rw [(stepP_at (v := exS) hf ex_jr).1]
  rw [insP_went (by rw [show exS.sl = false from rfl, wrongP_jump s (Or.inl rfl)]) (by decide)]
  exact congrArg (fun st => wentO st 0) ((doP_j27t s exS 27 0 0 100 0 0 100 rfl rfl).trans rfl)
set_option maxRecDepth 20000 in
set_option maxHeartbeats 2000000 in
theorem awake11_any (w : World) : Calls Try.prog 8 #[] w fun e w' => e = .returned (.bool true) ∧ Below w.heap.size w w' := by
  obtain ⟨n, hn⟩ : ∃ n, w.heap.size = n := ⟨_, rfl⟩
  have HW := hidden (fun u => word00_any 27 26 3 0 0 0 0 rfl (by omega) (by omega) (by omega) (by omega) (by omega) (by omega) (by decide) u)
  have hix : ∀ u, (Instr.indexAt 24 (.pointer (some ⟨n, 0, none⟩)) (.int .i64 3)).run Try.prog u = .ok (.pointer (some ⟨n, 3, none⟩)) u := fun u => index_reg n 3 (by omega) u
  obtain ⟨W, hW⟩ : ∃ W : Nat, wordK 26 3 0 0 0 0 = W := ⟨_, rfl⟩
  have hWl : W < 4294967296 := by rw [← hW]; decide
  rw [hW] at HW
  have HWE := hidden hW
  have HCO := hidden (fun (u : World) (g : Nat) (h : Blk u g #[.int .u32 (W : Int)] 23) => code_any [W] g 1 (by simp [hWl]) (by simp) u h)
  clear hW hWl
  go_enter Try.func8, Try.ntmps8
  go_wp2_with (first
    | (refine wpList_buildG rfl 26 _ rfl _ rfl (SV.c (stPN 8 12)) (buildPN 8 12 _) ?_)
    | (refine wpList_allocV rfl rfl ?_; rintro w1 k1 s1 b1; first | (rw [hn] at k1 s1 b1 ⊢; have K1 := hidden k1; have B1 := hidden b1; clear k1 s1 b1) | (obtain ⟨g, hg⟩ : ∃ g, w7.heap.size = g := ⟨_, rfl⟩; have B8 := hidden (B7.out.trans (b1.mono N7.out)); rw [hg] at k1 s1 N7 ⊢; have K8 := hidden k1; have Z8 := hidden s1; clear k1 s1 b1 B7))
    | (refine wpList_storeV rfl rfl _ _ rfl n SV.zero (stPN 8 12) rfl rfl K1.out rfl rfl ?_; rintro w2 k2 o2; have K2 := hidden k2; have B2 := hidden (Below.only B1.out o2 (Nat.le_refl n)); clear k2 o2 K1 B1)
    | (refine wpList_setR rfl rfl _ _ rfl n 3 (stPN 8 12) 100 rfl rfl K2.out rfl (by omega) ?_; rintro w3 k3 o3; have K3 : Hid (Blk w3 n exS.c 26) := hidden k3; have B3 := hidden (Below.only B2.out o3 (Nat.le_refl n)); clear k3 o3 K2 B2)
    | (go_at_call 16; refine (HW.out _).mono ?_; rintro e w4 ⟨rfl, b4⟩; have K4 := hidden (K3.out.later b4); have B4 := hidden (B3.out.trans (b4.mono (Nat.le_of_lt K3.out.lt))); clear b4 K3 B3)
    | (go_at_call 17; refine (HCO.out _ _ (Blk.new w4 #[.int .u32 (W : Int)] 23)).mono ?_; rintro e w5 ⟨⟨ao, c, rfl, hr⟩, b5⟩; have b45 := (below_new w4 (.cells #[.int .u32 (W : Int)] 23)).trans (b5.mono (below_new w4 _).size); have K5 := hidden (K4.out.later b45); have B5 := hidden (B4.out.trans (b45.mono (Nat.le_of_lt K4.out.lt))); have ME := hidden (memory_code w5 8 (by omega) [W] (by simp) 7 ao c hr); clear b5 b45 K4 B4 hr)
    | (go_at_call 9; refine ME.out.mono ?_; rintro e w6 ⟨s, rfl, ho, habs, hc⟩; have HO := hidden ho; have ST := hidden (step_out ho.mem exS_ok (by omega) (ex_step (by rw [HWE.out]; exact habs))); have K6 := hidden (K5.out.later ho.below); have N5 : Hid (n ≤ w5.heap.size) := hidden (Nat.le_of_lt K5.out.lt); clear ho habs hc K5)
    | (refine wpList_loadV rfl _ rfl n exS rfl K6.out rfl ?_)
    | (go_at_call 10; refine ST.out.mono ?_; rintro e w7 ⟨rfl, s', hp, st7⟩; have B7 := hidden (B5.out.trans ((HO.out.step st7).below.mono N5.out)); have N7 : Hid (n ≤ w7.heap.size) := hidden (Nat.le_trans N5.out (HO.out.step st7).below.size); clear hp st7 K6 B5)
    | (refine wpList_allocFa rfl rfl ?_; rintro w9 k9 s9 b9; have K9 := hidden (K8.out.later b9); have B9 := hidden (B8.out.trans (b9.mono (by have := N7.out; have := Z8.out; omega))); rw [Z8.out] at k9 s9 ⊢; have F9 := hidden k9; clear k9 s9 b9 K8 B8)
    | (refine wpList_storeV rfl rfl _ _ rfl g SV.zero _ rfl rfl K9.out rfl rfl ?_; rintro w10 k10 o10; have c34 : w10.cell? ⟨g, 34, none⟩ = some (.int .u32 12) := k10.cell rfl; have c35 : w10.cell? ⟨g, 35, none⟩ = some (.int .u32 100) := k10.cell rfl; have c36 : w10.cell? ⟨g, 36, none⟩ = some (.bool true) := k10.cell rfl; have K10 := hidden k10; have F10 := hidden (F9.out.only o10 (by omega)); have B10 := hidden (Below.only B9.out o10 N7.out); clear k10 o10 K9 F9 B9)
    | (refine wpList_storeFa rfl rfl _ _ rfl (g + 1) zFa _ rfl rfl F10.out rfl rfl (by kernel_rfl) ?_; rintro w11 k11 o11; have k := K10.out.only o11 (by omega); clear c34 c35 c36; have c34 : w11.cell? ⟨g, 34, none⟩ = some (.int .u32 12) := k.cell rfl; have c35 : w11.cell? ⟨g, 35, none⟩ = some (.int .u32 100) := k.cell rfl; have c36 : w11.cell? ⟨g, 36, none⟩ = some (.bool true) := k.cell rfl; have B11 := hidden (Below.only B10.out o11 (by have := N7.out; omega)); clear k k11 o11 K10 F10 B10))
  go_ret
  exact ⟨rfl, by first | exact B11.out | (rw [hn]; exact B11.out)⟩
end Go.Proofs.Ytobnocioefchlaa

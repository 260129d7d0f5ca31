/- Chapter 7's own Load: a file that its Check takes. -/
import Derived.Test.YtpknppicamefgaaQMBB
import Derived.Deep.CutBlock
import Derived.Test.YtpknppicamefgaaQMAZ
import Derived.Test.YtpknppicamefgaaQMAT
namespace Go.Proofs.Ytpknppicamefgaa
open Go.ChangeShapes Go.WideShapes Go.ChangeAt Go.RowKit
set_option linter.unusedVariables false
theorem cnt512 : cntP 2147479040 512 = 2 := by decide
theorem page_stack : pageOf 2147479040 = 2147479040 := by decide
theorem OM.done {u v wr w' : World} {n mb mo : Nat} {ks : List Nat} {f : AM} {t : S5} (h : OM v wr mb mo ks f t) (hn : u.heap.size = n) (hb : Below n u v) (hs : n + 2 ≤ v.heap.size) (ho : Only (n + 1) wr w') : OM u w' mb mo ks f t := by
  subst hn
  have h2 := h.back hb
  exact ⟨h2.mem.keep (Keep.of_only ho) (fun b hb e => by have := h.new b hb; omega), h2.new, only_below h2.bel ho (by omega), h2.m, h2.most, h2.ts, h2.g, h2.off, h2.room, h2.great⟩
/-- A block alone turns, into a state. -/
structure RS (g : Nat) (C : Array Value) (u v : World) : Prop where
  only : Only g u v
  set : Blk u g C 31 → Blk v g C 31
  some : (∃ old : Array Value, old.size = 37 ∧ Blk u g old 31) → ∃ old : Array Value, old.size = 37 ∧ Blk v g old 31
theorem later_rs (g : Nat) (C : Array Value) : Later (RS g C) :=
  ⟨fun w => ⟨Only.refl g w, id, id⟩, fun u v w h k => ⟨h.only.trans k.only, fun x => k.set (h.set x), fun x => k.some (h.some x)⟩, fun w => ⟨(Only.refl g w).drew, id, id⟩⟩
theorem exec_storeSt {ρ : Operand → Value} {o : Oper} {x y : Operand} {g : Nat} {cs old : Array Value} (hop : o.op = .store 31 x y) (hx : ρ x = .pointer (some ⟨g, 0, none⟩)) (hy : ρ y = .agg cs) (w : World) (hg : Blk w g old 31) (ho : old.size = 37) (hc : cs.size = 37) (h1 : cs.all (·.oneCell') = true) : (execOp ρ o).run Try.prog w = .ok .skip (w.setRow g cs) := by
  unfold execOp
  simp only [hop, hx, hy, Instr.storeAt, Instr.sureAddr, Sem.run_bind, Sem.run_pure, Result.andThen_ok, run_storeVar_row w g 31 31 old cs hg (by rw [hc]; exact sizeSt) (by omega) h1]
/-- What the slots of the region hold, whatever the order. -/
def phiOw (n mb ent : Nat) : Nat → Value → World → Prop
  | 0, x, _ => x = .pointer (some ⟨mb, 0, none⟩)
  | 1, x, _ => x = .agg (stC 2147479536 (ent : Int) ((ent : Int) + 4))
  | 2, x, _ => x = .pointer (some ⟨mb, 0, none⟩)
  | 3, x, w => Blk w (n + 1) (stC 2147479536 (ent : Int) ((ent : Int) + 4)) 31
  | 4, x, _ => x = .int .i64 0
  | _ + 5, _, _ => True
theorem phiOw_mono (n mb ent : Nat) : ∀ i x w w', phiOw n mb ent i x w → RS (n + 1) (stC 2147479536 (ent : Int) ((ent : Int) + 4)) w w' → phiOw n mb ent i x w'
  | 0, _, _, _, h, _ => h
  | 1, _, _, _, h, _ => h
  | 2, _, _, _, h, _ => h
  | 3, x, w, w', h, hb => hb.set h
  | 4, _, _, _, h, _ => h
  | _ + 5, _, _, _, _, _ => trivial
theorem list5 : ∀ xs : List Value, xs.length = 5 → ∃ x0 x1 x2 x3 x4, xs = [x0, x1, x2, x3, x4]
  | [x0, x1, x2, x3, x4], _ => ⟨_, _, _, _, _, rfl⟩
theorem wpOp_put {P : Program} {ops : Array Oper} {Q : Exit → Act → World → Prop} {a : Act} {w w' : World} {K : Act → World → Prop} {i : Nat} {o : Oper} (hi : ops[i]? = some o) (hw : Region.wanted o (yielded ops a.tmps) = true) (hrun : (execOp a.eval o).run P w = .ok .skip w') (h : K (a.put o.dst undef) w') : Runs P ops Q i K a w := by
  constructor
  unfold wpOp
  simp only [hi, hw, if_true]
  left
  unfold Oper.wp
  rw [hrun]
  exact h
set_option maxRecDepth 20000 in
set_option maxHeartbeats 4000000 in
theorem rload_yes (w : World) (ao : Option Addr) (cap ent : Nat) (l : List Sg) (z : Int) (h : Segs w ao l) (hcap : l.length ≤ cap) (hmax : cap ≤ 9223372036854775807) (he : ent < 4294967296) (hc : checkE ent l = 0) : Calls Try.prog 10 #[.agg #[.int .u32 (ent : Int), .slice ao l.length cap], .int .i64 z] w (OwnSays w ent l z) := by
  obtain ⟨h8, hok, _, _⟩ := check_facts hc
  have hen := enter_small hc
  obtain ⟨n, hn⟩ : ∃ n, w.heap.size = n := ⟨_, rfl⟩
  obtain ⟨wa, hwa⟩ : ∃ wa, w.alloc (.cells #[.int .u32 (ent : Int), .slice ao l.length cap] 25) = wa := ⟨_, rfl⟩
  have hba : Below n w wa := by rw [← hwa, ← hn]; exact below_new w _
  have hka : Blk wa n #[.int .u32 (ent : Int), .slice ao l.length cap] 25 := by rw [← hwa, ← hn]; exact Blk.new w _ _
  have hsa : wa.heap.size = n + 1 := by rw [← hwa]; simp [hn]
  have H15 : Hid (∀ w1, Blk w1 (n + 1) (stC 0 0 0) 31 → w1.heap.size = n + 1 + 1 → Below (n + 1) wa w1 → w1.cell? ⟨n, 0, none⟩ = some (.int .u32 (ent : Int)) ∧ w1.cell? ⟨n, 1, none⟩ = some (.slice ao l.length cap) ∧ Calls Try.prog 23 #[.agg #[.int .u32 (ent : Int), .slice ao l.length cap]] w1 fun e w' => e = .returned (.int .i64 0) ∧ Below n w w' ∧ Blk w' (n + 1) (stC 0 0 0) 31 ∧ Blk w' n #[.int .u32 (ent : Int), .slice ao l.length cap] 25 ∧ n + 2 ≤ w'.heap.size) := hidden <| by
    intro w1 hk1 hs1 hb1
    have hw1 : Below n w w1 := hba.trans (hb1.mono (by omega))
    have hk : Blk w1 n #[.int .u32 (ent : Int), .slice ao l.length cap] 25 := (hb1.block n (by omega)).trans hka
    refine ⟨Blk.cell hk rfl, Blk.cell hk rfl, ?_⟩
    refine (rcheck_any w1 ao cap ent l (h.later (by rw [hn]; exact hw1)) hcap hmax he).mono ?_
    rintro e w' ⟨h1, h2⟩
    rw [hc] at h1
    exact ⟨h1, hw1.trans (h2.mono (by omega)), hk1.later h2, hk.later h2, by have := h2.size; omega⟩
  obtain ⟨mo, hmo⟩ : ∃ mo, cutMost z = mo := ⟨_, rfl⟩
  have hzm : min (max z 0) 64 = (mo : Int) := by rw [← hmo]; unfold cutMost; omega
  have H30 : Hid (∀ w2, Blk w2 n #[.int .u32 (ent : Int), .slice ao l.length cap] 25 → Calls Try.prog 30 #[.int .i64 z] w2 fun e w' => ∃ mb t, e = .returned (.pointer (some ⟨mb, 0, none⟩)) ∧ OM w2 w' mb mo [] (fun _ => none) t ∧ w'.cell? ⟨n, 1, none⟩ = some (.slice ao l.length cap)) := hidden <| by
    intro w2 hk2
    refine (OM.made (Below.refl _ w2) mo z hzm).mono ?_
    rintro e w' ⟨h1, h2, t, h3⟩
    exact ⟨_, t, h1, h3, (hk2.later h2).cell rfl⟩
  have H := hidden h
  have HOK := hidden hok
  have HC := hidden hc
  have HMO := hidden hmo
  clear hmo hzm
  clear h hka hba hc hok
  go_enter Try.func10, Try.ntmps10
  go_wp2_with (first
    | (refine wpList_allocSt rfl rfl ?_; rw [hsa]; rintro w1 hk1 hs1 hb1; obtain ⟨c0, c1, h15⟩ := Hid.out H15 w1 hk1 hs1 hb1; have HH := hidden h15; clear h15 hk1 hb1)
    | (go_at_call 23; with_reducible refine (Hid.out HH).mono ?_; rintro e w2 ⟨rfl, hb2, hk2, hf2, hs2⟩; have HH6 := hidden (Hid.out H30 w2 hf2); have HB2 := hidden hb2; have HK2 := hidden hk2; have HF2 := hidden hf2; clear hb2 hk2 hf2)
    | (go_at_call 30; with_reducible refine (Hid.out HH6).mono ?_; rintro e w3 ⟨mb, t0, rfl, hm3, d1⟩; have HM3 := hidden hm3; clear hm3))
  clear c0 c1 HH HH6 H15 H30
  go_loopw [9] (fun x9 wr => ∃ (k : Nat) (ks : List Nat) (t : S5), k ≤ l.length ∧ x9 = .int .i64 (k : Int) ∧ loadKs mo [] (l.take k) = some ks ∧ OM w2 wr mb mo ks (loadAm (l.take k)) t) (fun x9 _ => l.length - (intOf x9).toNat)
  case atStart => exact ⟨0, [], t0, by omega, rfl, rfl, Hid.out HM3⟩
  case round =>
    clear HM3
    obtain ⟨k, ks, t, hk, rfl, hks, hL⟩ := hrel
    have hbw : Below n w wr := (Hid.out HB2).trans (hL.bel.mono (by omega))
    have hst : Blk wr (n + 1) (stC 0 0 0) 31 := (hL.bel.block (n + 1) (by omega)).trans (Hid.out HK2)
    have hfl : Blk wr n #[.int .u32 (ent : Int), .slice ao l.length cap] 25 := (hL.bel.block n (by omega)).trans (Hid.out HF2)
    have e0 : wr.cell? ⟨n, 0, none⟩ = some (.int .u32 (ent : Int)) := hfl.cell rfl
    have e1 : wr.cell? ⟨n, 1, none⟩ = some (.slice ao l.length cap) := hfl.cell rfl
    by_cases hkl : k < l.length
    · have hok := Hid.out HOK k hkl
      obtain ⟨b, off, rfl, hlt, hcc⟩ := ((Hid.out H).later (by rw [hn]; exact hbw)).at hkl
      obtain ⟨g, hg⟩ : ∃ g, g = l.getD k nosg := ⟨_, rfl⟩
      have hat := hcc k hkl
      rw [← hg] at hat hok
      obtain ⟨c0, c1, c2, c3, fit⟩ := hat
      have hkl2 : (k : Int) < (l.length : Int) := by omega
      have HQ := hidden (hL.beside #[.int .u32 (g.at_ : Int), .string ⟨g.data.toArray⟩, .int .u32 (g.size : Int), .int .i64 g.perm] 44)
      have HG := hidden hg
      have HKS := hidden hks
      obtain ⟨a, dd, sz, pm⟩ := g
      obtain ⟨g1, g2, g3, g4, g5, g6⟩ := ok_size hok
      simp only at c0 c1 c2 c3 g1 g2 g3 g4 g5 g6
      clear hcc hg hks hL hst hfl fit hok hbw
      go_wp2
      obtain ⟨cn, hcn⟩ : ∃ cn, cn = cntP a sz := ⟨_, rfl⟩
      have hce : ((a : Int) % 256 + (sz : Int) + 256 - 1) / 256 = (cn : Int) := by rw [hcn]; unfold cntP; omega
      rw [hce]
      obtain ⟨q, hq⟩ : ∃ q, q = wr.heap.size := ⟨_, rfl⟩
      rw [← hq] at HQ ⊢
      have hpo : pageOf a = a / 256 * 256 := pageOf_div a
      have hcb : cn ≤ 66 := by rw [hcn]; unfold cntP; omega
      have hcp : pageOf a + 256 * cn ≤ a + sz + 255 := by rw [hcn, hpo]; unfold cntP; omega
      have HCN := hidden hcn
      have HBN : Hid (∀ w', Below w2.heap.size w2 w' → Blk w' (n + 1) (stC 0 0 0) 31) := hidden fun w' hb => (hb.block (n + 1) (by omega)).trans (Hid.out HK2)
      have HPO := hidden hpo
      have HCP := hidden hcp
      clear hce hq hpo hcn hcp
      go_loopw [12] (fun x12 wr => ∃ (j : Nat) (ks' : List Nat) (t' : S5), j ≤ cn ∧ x12 = .int .i64 (j : Int) ∧ layKs mo ks (pgs a j) = some ks' ∧ OQ w2 wr mb mo ks' (layAm (loadAm (l.take k)) pm (pgs a j)) t' q #[.int .u32 (a : Int), .string ⟨dd.toArray⟩, .int .u32 (sz : Int), .int .i64 pm] 44) (fun x12 _ => cn - (intOf x12).toNat)
      case atStart => exact ⟨0, ks, t, by omega, rfl, rfl, Hid.out HQ⟩
      case round =>
        clear HQ
        obtain ⟨j, ks1, t1, hj, rfl, hk1, hO⟩ := hrel
        have d0 := hO.blk.cell (j := 0) rfl
        have d3 := hO.blk.cell (j := 3) rfl
        by_cases hjc : j < cn
        · have hjc2 : (j : Int) < (cn : Int) := by omega
          have hp := Hid.out HPO
          have hp2 := Hid.out HCP
          have H31 : Hid (∀ x : Int, x = ((pageOf a + 256 * j : Nat) : Int) → Calls Try.prog 31 #[.pointer (some ⟨mb, 0, none⟩), .int .u32 x, .int .i64 pm] wr fun e w' => (∃ ks' t', e = .returned (.int .i64 0) ∧ Hid (layKs mo ks (pgs a (j + 1)) = some ks' ∧ OQ w2 w' mb mo ks' (layAm (loadAm (l.take k)) pm (pgs a (j + 1))) t' q #[.int .u32 (a : Int), .string ⟨dd.toArray⟩, .int .u32 (sz : Int), .int .i64 pm] 44)) ∨ (e = .returned (.int .i64 2) ∧ Hid (layKs mo ks (pgs a cn) = none ∧ Below w2.heap.size w2 w'))) := hidden <| by
            intro x hx
            rw [hx]
            refine (hO.page hk1 (by omega)).mono ?_
            rintro e w' ⟨h1, (⟨ks', t', h2, h3, h4⟩ | ⟨h2, h3⟩)⟩
            · exact .inl ⟨ks', t', h3, hidden ⟨h2, h4⟩⟩
            · exact .inr ⟨h3, hidden ⟨h2 cn hjc, h1⟩⟩
          have hxe : ∀ x : Int, x = (a : Int) - (a : Int) % 256 + (j : Int) * 256 → x = ((pageOf a + 256 * j : Nat) : Int) := by
            intro x hx
            rw [hx, hp]
            omega
          have HXE := hidden hxe
          clear hO hk1 hp hp2 hxe
          go_wp2_with (first
            | (go_at_call 31; refine (Hid.out H31 _ (Hid.out HXE _ (by omega))).mono ?_; rintro e w5 (⟨ks5, t5, rfl, h5⟩ | ⟨rfl, h5⟩))
            | (refine wpList_buildSt rfl rfl ?_)
            | (refine wpList_storeSt rfl _ _ rfl (n + 1) (stC 0 0 0) rfl rfl (stC 0 0 0) (Hid.out HBN _ (Hid.out h5).2) (stC_size _ _ _) (stC_size _ _ _) (stC_one _ _ _) ?_; rintro w6 hk6 ho6; have HK6 := hidden hk6; have HO6 := hidden ho6; clear hk6 ho6))
          · go_roundw
            case rel => first | exact ⟨j + 1, ks5, t5, by omega, by simp, (Hid.out h5).1, (Hid.out h5).2⟩ | ((repeat apply Exists.intro); first | exact ⟨⟨j + 1, ks5, t5, by omega, by simp, (Hid.out h5).1, (Hid.out h5).2⟩, rfl⟩ | exact ⟨⟨j + 1, ks5, t5, by omega, by simp, (Hid.out h5).1, (Hid.out h5).2⟩, rfl, rfl⟩)
            case measure => simp [intOf]; omega
          · refine bodyPost_ret (results_tct rfl _ _ (n + 1) _ rfl (load31 (Hid.out HK6))) rfl (.inr (.inl ⟨Hid.out HC, ?_, rfl, ?_⟩))
            · rw [Hid.out HMO]
              refine loadKs_stop (k := k + 1) ?_
              rw [take_getD hkl, loadKs_append, Hid.out HKS]
              show loadKs mo ks [_] = none
              rw [loadKs_one, ← Hid.out HG]
              unfold segPg
              rw [← Hid.out HCN]
              exact (Hid.out h5).1
            · rw [hn]
              exact only_below ((Hid.out HB2).trans ((Hid.out h5).2.mono (by omega))) (Hid.out HO6) (by omega)
        · have hjn : ¬ (j : Int) < (cn : Int) := by omega
          obtain rfl : j = cn := by omega
          have HK1 := hidden hk1
          have HO1 := hidden hO
          clear hO hk1 d0 d3
          go_wp2
          go_loopw [13] (fun x13 wr => ∃ (i : Nat) (t' : S5), i ≤ dd.length ∧ x13 = .int .i64 (i : Int) ∧ OQ w2 wr mb mo ks1 (fillAm (layAm (loadAm (l.take k)) pm (pgs a j)) a dd i) t' q #[.int .u32 (a : Int), .string ⟨dd.toArray⟩, .int .u32 (sz : Int), .int .i64 pm] 44) (fun x13 _ => dd.length - (intOf x13).toNat)
          case atStart => exact ⟨0, t1, by omega, rfl, Hid.out HO1⟩
          case round =>
            clear HO1
            obtain ⟨i, t2, hi, rfl, hO⟩ := hrel
            have d0 := hO.blk.cell (j := 0) rfl
            have d1 := hO.blk.cell (j := 1) rfl
            by_cases hid : i < dd.length
            · have hid2 : (i : Int) < (dd.length : Int) := by omega
              have hix : ∀ w2, (Instr.index 9 (.string ⟨dd.toArray⟩) (.int .i64 (i : Int))).run Try.prog w2 = .ok (.int .u8 ((dd.getD i 0).toNat : Int)) w2 := str_index dd i hid
              have H32 : Hid (∀ m, Calls Try.prog 32 #[.pointer (some ⟨mb, 0, none⟩), .int .u32 ((a : Int) + (i : Int)), .int .u8 ((dd.getD i 0).toNat : Int)] (wr.drewN m) fun e w' => ∃ x t', e = .returned (.bool x) ∧ Hid (OQ w2 w' mb mo ks1 (fillAm (layAm (loadAm (l.take k)) pm (pgs a j)) a dd (i + 1)) t' q #[.int .u32 (a : Int), .string ⟨dd.toArray⟩, .int .u32 (sz : Int), .int .i64 pm] 44)) := hidden fun m => by
                have h32 := (hO.later (w' := wr.drewN m) ⟨rfl, rfl, rfl, Nat.le_refl _, fun _ _ => rfl⟩).byte (a := a) (j := i) (d := dd) (by omega)
                rw [show ((a + i : Nat) : Int) = (a : Int) + (i : Int) by omega] at h32
                refine h32.mono ?_
                rintro e w' ⟨⟨x, h1⟩, t', h2⟩
                exact ⟨x, t', h1, hidden h2⟩
              generalize dd.getD i 0 = v at hix H32
              clear hO
              go_wp2
              refine wp_region_tail 10 (by kernel_rfl) (by kernel_rfl) ?_
              simp only [List.take_succ_cons, List.take_zero, List.drop_succ_cons, List.drop_zero]
              repeat (go_big_quiet_step (fail))
              refine wpQuiet_nil ?_
              rintro _ ⟨nq, rfl⟩
              go_wp2_with (go_at_call 32; with_reducible refine (Hid.out H32 nq).mono ?_; rintro e w4 ⟨rb, t4, rfl, h4⟩)
              go_roundw
              case rel => first | exact ⟨i + 1, t4, by omega, by simp, Hid.out h4⟩ | ((repeat apply Exists.intro); first | exact ⟨⟨i + 1, t4, by omega, by simp, Hid.out h4⟩, rfl⟩ | exact ⟨⟨i + 1, t4, by omega, by simp, Hid.out h4⟩, rfl, rfl⟩)
              case measure => simp [intOf]; omega
            · have hid2 : ¬ (i : Int) < (dd.length : Int) := by omega
              obtain rfl : i = dd.length := by omega
              have HO2 := hidden hO.o
              clear hO
              have HE : Hid (loadKs mo [] (l.take (k + 1)) = some ks1 ∧ OM w2 wr mb mo ks1 (loadAm (l.take (k + 1))) t2) := hidden <| by
                have e1 : loadKs mo [] (l.take (k + 1)) = some ks1 := by
                  rw [take_getD hkl, loadKs_append, Hid.out HKS]
                  show loadKs mo ks [_] = some ks1
                  rw [loadKs_one, ← Hid.out HG]
                  unfold segPg
                  rw [← Hid.out HCN]
                  exact Hid.out HK1
                have e2 : loadAm (l.take (k + 1)) = fillAm (layAm (loadAm (l.take k)) pm (pgs a j)) a dd dd.length := by
                  rw [take_getD hkl, loadAm_snoc, ← Hid.out HG]
                  unfold segAm segLay segPg
                  rw [← Hid.out HCN]
                rw [e2]
                exact ⟨e1, Hid.out HO2⟩
              go_wp2
              go_roundw
              case rel => first | exact ⟨k + 1, ks1, t2, by omega, by simp, (Hid.out HE).1, (Hid.out HE).2⟩ | ((repeat apply Exists.intro); first | exact ⟨⟨k + 1, ks1, t2, by omega, by simp, (Hid.out HE).1, (Hid.out HE).2⟩, rfl⟩ | exact ⟨⟨k + 1, ks1, t2, by omega, by simp, (Hid.out HE).1, (Hid.out HE).2⟩, rfl, rfl⟩)
              case measure => simp [intOf]; omega
    · have hkn : ¬ (k : Int) < (l.length : Int) := by omega
      obtain rfl : k = l.length := by omega
      rw [List.take_of_length_le (Nat.le_refl _)] at hks hL
      have HKS := hidden hks
      have HL := hidden hL
      have HBN : Hid (∀ w', Below w2.heap.size w2 w' → Blk w' (n + 1) (stC 0 0 0) 31) := hidden fun w' hb => (hb.block (n + 1) (by omega)).trans (Hid.out HK2)
      have HFN : Hid (∀ w', Below w2.heap.size w2 w' → w'.cell? ⟨n, 0, none⟩ = some (.int .u32 (ent : Int))) := hidden fun w' hb => Blk.cell ((hb.block n (by omega)).trans (Hid.out HF2)) rfl
      have HS2 := hidden hs2
      clear hks hL hbw hst hfl
      go_wp2
      go_loopw [14] (fun x14 wr => ∃ (j : Nat) (ks' : List Nat) (t' : S5), j ≤ 2 ∧ x14 = .int .i64 (2 - (j : Int)) ∧ layKs mo ks (pgs 2147479040 j) = some ks' ∧ OM w2 wr mb mo ks' (layAm (loadAm l) 6 (pgs 2147479040 j)) t') (fun x14 _ => (intOf x14).toNat)
      case atStart => exact ⟨0, ks, t, by omega, rfl, rfl, Hid.out HL⟩
      case round =>
        clear HL
        clear e0 e1 hkl hkn hk
        obtain ⟨j, ks1, t1, hj, rfl, hk1, hO⟩ := hrel
        by_cases hjc : j < 2
        · have hge : (1 : Int) ≤ 2 - (j : Int) := by omega
          have H31 : Hid (∀ x : Int, x = ((pageOf 2147479040 + 256 * j : Nat) : Int) → Calls Try.prog 31 #[.pointer (some ⟨mb, 0, none⟩), .int .u32 x, .int .i64 6] wr fun e w' => (∃ ks' t', e = .returned (.int .i64 0) ∧ Hid (layKs mo ks (pgs 2147479040 (j + 1)) = some ks' ∧ OM w2 w' mb mo ks' (layAm (loadAm l) 6 (pgs 2147479040 (j + 1))) t')) ∨ (e = .returned (.int .i64 2) ∧ Hid (layKs mo ks (pgs 2147479040 2) = none ∧ Below w2.heap.size w2 w'))) := hidden <| by
            intro x hx
            rw [hx]
            refine (hO.page hk1 (by rw [page_stack]; omega)).mono ?_
            rintro e w' ⟨h1, _, (⟨ks', t', h2, h3, h4⟩ | ⟨h2, h3⟩)⟩
            · exact .inl ⟨ks', t', h3, hidden ⟨h2, h4⟩⟩
            · exact .inr ⟨h3, hidden ⟨h2 2 hjc, h1⟩⟩
          have HXE : Hid (∀ x : Int, x = 2147479552 - (2 - (j : Int)) * 256 → x = ((pageOf 2147479040 + 256 * j : Nat) : Int)) := hidden <| by
            intro x hx
            rw [hx, page_stack]
            omega
          clear hO hk1
          go_wp2_with (first
            | (go_at_call 31; refine (Hid.out H31 _ (Hid.out HXE _ (by omega))).mono ?_; rintro e w5 (⟨ks5, t5, rfl, h5⟩ | ⟨rfl, h5⟩))
            | (refine wpList_buildSt rfl rfl ?_)
            | (refine wpList_storeSt rfl _ _ rfl (n + 1) (stC 0 0 0) rfl rfl (stC 0 0 0) (Hid.out HBN _ (Hid.out h5).2) (stC_size _ _ _) (stC_size _ _ _) (stC_one _ _ _) ?_; rintro w6 hk6 ho6; have HK6 := hidden hk6; have HO6 := hidden ho6; clear hk6 ho6))
          · go_roundw
            case rel => first | exact ⟨j + 1, ks5, t5, by omega, by congr 1; omega, (Hid.out h5).1, (Hid.out h5).2⟩ | ((repeat apply Exists.intro); first | exact ⟨⟨j + 1, ks5, t5, by omega, by congr 1; omega, (Hid.out h5).1, (Hid.out h5).2⟩, rfl⟩ | exact ⟨⟨j + 1, ks5, t5, by omega, by congr 1; omega, (Hid.out h5).1, (Hid.out h5).2⟩, rfl, rfl⟩)
            case measure => simp [intOf]; omega
          · refine bodyPost_ret (results_tct rfl _ _ (n + 1) _ rfl (load31 (Hid.out HK6))) rfl (.inr (.inl ⟨Hid.out HC, ?_, rfl, ?_⟩))
            · rw [Hid.out HMO]
              unfold allKs stackPg
              rw [Hid.out HKS, cnt512]
              exact (Hid.out h5).1
            · rw [hn]
              exact only_below ((Hid.out HB2).trans ((Hid.out h5).2.mono (by omega))) (Hid.out HO6) (by omega)
        · have hge : ¬ (1 : Int) ≤ 2 - (j : Int) := by omega
          obtain rfl : j = 2 := by omega
          have f0 := Hid.out HFN _ hO.bel
          have hent : (ent : Int) + 4 < 4294967296 := by omega
          have HALL : Hid (allKs (cutMost z) l = some ks1) := hidden <| by
            rw [Hid.out HMO]
            unfold allKs stackPg
            rw [Hid.out HKS, cnt512]
            exact hk1
          have HOM : Hid (OM w2 wr mb mo ks1 (allAm l) t1) := hidden <| by
            unfold allAm stackPg
            rw [cnt512]
            exact hO
          clear hO hk1
          go_upto_region 26 with (first
            | (refine wpList_buildSt2 rfl _ _ rfl (ent : Int) ((ent : Int) + 4) ?_ ?_ ?_; kernel_rfl; kernel_rfl)
            | (refine wpList_allocSt rfl rfl ?_; rintro w5 hk5 hs5 hb5; obtain ⟨gs, hgs⟩ : ∃ gs, wr.heap.size = gs := ⟨_, rfl⟩; rw [hgs] at hk5 hs5 ⊢; have HK5 := hidden hk5; have HB5 := hidden hb5; have HGS := hidden hgs; clear hk5 hs5 hb5 hgs)
            | (refine wpList_storeSt rfl _ _ rfl gs (stC 0 (ent : Int) ((ent : Int) + 4)) rfl rfl _ (Hid.out HK5) (stC_size _ _ _) (stC_size _ _ _) (stC_one _ _ _) ?_; rintro w6 hk6 ho6; have c29 : w6.cell? ⟨gs, 29, none⟩ = some (.int .u32 0) := hk6.cell rfl; have f29 : w6.frozen? ⟨gs, 29, none⟩ = false := hk6.frozen; have HK6 := hidden hk6; have HO6 := hidden ho6; clear hk6 ho6))
          have hb7 : Below wr.heap.size wr (w6.setCell ⟨gs, 29, none⟩ (.int .u32 2147479536)) := (only_below (Hid.out HB5) (Hid.out HO6) (Nat.le_of_eq (Hid.out HGS))).setCell (p := ⟨gs, 29, none⟩) (Nat.le_of_eq (Hid.out HGS)) _
          have hg7 : Blk (w6.setCell ⟨gs, 29, none⟩ (.int .u32 2147479536)) gs (stC 2147479536 (ent : Int) ((ent : Int) + 4)) 31 := beginSet (Hid.out HK6) _
          generalize w6.setCell ⟨gs, 29, none⟩ (.int .u32 2147479536) = w7 at hb7 hg7 ⊢
          have hom7 := (Hid.out HOM).later hb7
          have hz7 := Hid.out HBN w7 hom7.bel
          have hne : gs ≠ n + 1 := by
            have h1 := (Hid.out HOM).bel.size
            have h2 := Hid.out HGS
            have h3 := Hid.out HS2
            omega
          have HG7 := hidden hg7
          have HOM7 := hidden hom7
          have HZ := hidden hz7
          have HNE := hidden hne
          clear hb7 hg7 hom7 hz7 hne c29 f29
          refine wp_region_on (later_rs (n + 1) (stC 2147479536 (ent : Int) ((ent : Int) + 4))) [106, 107, 4, 1000, 6] 5 (phiOw n mb ent) (by kernel_rfl) (by kernel_rfl) rfl rfl (phiOw_mono n mb ent) ?_ ?_
          · intro j hj xs w3 hxs hR hpre
            obtain ⟨x0, x1, x2, x3, x4, rfl⟩ := list5 xs hxs
            have hG3 : Blk w3 gs (stC 2147479536 (ent : Int) ((ent : Int) + 4)) 31 := (Hid.out HG7).only hR.only (Hid.out HNE)
            rcases (show j = 0 ∨ j = 1 ∨ j = 2 ∨ j = 3 ∨ j = 4 by omega) with rfl | rfl | rfl | rfl | rfl
            · exact wpOp_run (.pointer (some ⟨mb, 0, none⟩)) rfl (by kernel_rfl) (exec_move rfl (by kernel_rfl) w3) ⟨_, by kernel_rfl, rfl, (later_rs (n + 1) (stC 2147479536 (ent : Int) ((ent : Int) + 4))).refl _⟩
            · exact wpOp_run (.agg (stC 2147479536 (ent : Int) ((ent : Int) + 4))) rfl (by kernel_rfl) (exec_load 31 rfl (by kernel_rfl) w3 (load31 hG3)) ⟨_, by kernel_rfl, rfl, (later_rs (n + 1) (stC 2147479536 (ent : Int) ((ent : Int) + 4))).refl _⟩
            · have e0 : x0 = .pointer (some ⟨mb, 0, none⟩) := hpre 0 (by kernel_rfl)
              subst e0
              exact wpOp_run (.pointer (some ⟨mb, 0, none⟩)) rfl (by kernel_rfl) (by kernel_rfl) ⟨_, by kernel_rfl, rfl, (later_rs (n + 1) (stC 2147479536 (ent : Int) ((ent : Int) + 4))).refl _⟩
            · have e1 : x1 = .agg (stC 2147479536 (ent : Int) ((ent : Int) + 4)) := hpre 1 (by kernel_rfl)
              subst e1
              obtain ⟨old, ho1, ho2⟩ := hR.some ⟨_, stC_size 0 0 0, Hid.out HZ⟩
              exact wpOp_put rfl (by kernel_rfl) (exec_storeSt (g := n + 1) (cs := stC 2147479536 (ent : Int) ((ent : Int) + 4)) rfl (by kernel_rfl) (by kernel_rfl) w3 ho2 ho1 (stC_size _ _ _) (stC_one _ _ _)) ⟨undef, by kernel_rfl, setRow_heap w3 (n + 1) old _ 31 (0, 0) ho2, only_setRow w3 (n + 1) _, fun _ => setRow_heap w3 (n + 1) old _ 31 (0, 0) ho2, fun _ => ⟨_, stC_size _ _ _, setRow_heap w3 (n + 1) old _ 31 (0, 0) ho2⟩⟩
            · exact wpOp_run (.int .i64 0) rfl (by kernel_rfl) (by kernel_rfl) ⟨_, by kernel_rfl, rfl, (later_rs (n + 1) (stC 2147479536 (ent : Int) ((ent : Int) + 4))).refl _⟩
          · intro xs w3 hxs hR hall
            obtain ⟨x0, x1, x2, x3, x4, rfl⟩ := list5 xs hxs
            have e0 : x0 = .pointer (some ⟨mb, 0, none⟩) := hall 0 (by omega)
            subst e0
            have e1 : x1 = .agg (stC 2147479536 (ent : Int) ((ent : Int) + 4)) := hall 1 (by omega)
            subst e1
            have e2 : x2 = .pointer (some ⟨mb, 0, none⟩) := hall 2 (by omega)
            subst e2
            have e4 : x4 = .int .i64 0 := hall 4 (by omega)
            subst e4
            have hfb : Blk w3 (n + 1) (stC 2147479536 (ent : Int) ((ent : Int) + 4)) 31 := hall 3 (by omega)
            have HFB := hidden hfb
            have HRO := hidden hR.only
            clear hall hR hxs hfb
            simp only [slotsOn, putAll, List.set_cons_succ, List.set_cons_zero]
            go_wp2
            refine bodyPost_ret (results_tct rfl _ _ (n + 1) _ rfl (load31 (Hid.out HFB))) rfl (.inr (.inr ⟨Hid.out HC, mb, ks1, t1, Hid.out HALL, rfl, ?_⟩))
            rw [Hid.out HMO]
            exact (Hid.out HOM7).done hn (Hid.out HB2) (Hid.out HS2) (Hid.out HRO)
end Go.Proofs.Ytpknppicamefgaa
namespace Go.Proofs.Ytpknppicamefgaa
open Go.ChangeShapes Go.WideShapes Go.ChangeAt Go.RowKit
set_option linter.unusedVariables false
theorem rload_file (w : World) (ao : Option Addr) (cap ent : Nat) (l : List Sg) (z : Int) (h : Segs w ao l) (hcap : l.length ≤ cap) (hmax : cap ≤ 9223372036854775807) (he : ent < 4294967296) : Calls Try.prog 10 #[.agg #[.int .u32 (ent : Int), .slice ao l.length cap], .int .i64 z] w (OwnSays w ent l z) := by
  by_cases hc : checkE ent l = 0
  · exact rload_yes w ao cap ent l z h hcap hmax he hc
  · exact rload_no w ao cap ent l z h hcap hmax he hc
/-- The error of a file that is not loaded. -/
def errX (ent : Nat) (l : List Sg) : Int := if checkE ent l = 0 then 2 else (checkE ent l : Int)
theorem loadN (w : World) (ao : Option Addr) (cap ent : Nat) (l : List Sg) (z : Int) (h : Segs w ao l) (hcap : l.length ≤ cap) (hmax : cap ≤ 9223372036854775807) (he : ent < 4294967296) (hb : checkE ent l ≠ 0 ∨ allKs (cutMost z) l = none) : Calls Try.prog 9 #[.agg #[.int .u32 (ent : Int), .slice ao l.length cap], .int .i64 z] w fun e w' => e = .returned (.tuple #[.pointer none, .agg (stC 0 0 0), .int .i64 (errX ent l)]) ∧ Below w.heap.size w w' := by
  refine (load_file w ao cap ent l z h hcap hmax he).mono ?_
  rintro e w' (⟨h1, h2, h3⟩ | ⟨h1, h2, h3, h4⟩ | ⟨h1, s, h2, h3⟩)
  · exact ⟨by rw [h2]; unfold errX; rw [if_neg h1], h3⟩
  · exact ⟨by rw [h3]; unfold errX; rw [if_pos h1], h4⟩
  · rcases hb with hb | hb
    · exact absurd h1 hb
    · have := h3.ks; rw [hb] at this; cases this
theorem rloadN (w : World) (ao : Option Addr) (cap ent : Nat) (l : List Sg) (z : Int) (h : Segs w ao l) (hcap : l.length ≤ cap) (hmax : cap ≤ 9223372036854775807) (he : ent < 4294967296) (hb : checkE ent l ≠ 0 ∨ allKs (cutMost z) l = none) : Calls Try.prog 10 #[.agg #[.int .u32 (ent : Int), .slice ao l.length cap], .int .i64 z] w fun e w' => e = .returned (.tuple #[.pointer none, .agg (stC 0 0 0), .int .i64 (errX ent l)]) ∧ Below w.heap.size w w' := by
  refine (rload_file w ao cap ent l z h hcap hmax he).mono ?_
  rintro e w' (⟨h1, h2, h3⟩ | ⟨h1, h2, h3, h4⟩ | ⟨h1, mb, ks, t, h2, h3, h4⟩)
  · exact ⟨by rw [h2]; unfold errX; rw [if_neg h1], h3⟩
  · exact ⟨by rw [h3]; unfold errX; rw [if_pos h1], h4⟩
  · rcases hb with hb | hb
    · exact absurd h1 hb
    · rw [hb] at h2; cases h2
theorem loadY (w : World) (ao : Option Addr) (cap ent : Nat) (l : List Sg) (z : Int) (h : Segs w ao l) (hcap : l.length ≤ cap) (hmax : cap ≤ 9223372036854775807) (he : ent < 4294967296) (hc : checkE ent l = 0) {ks : List Nat} (hk : allKs (cutMost z) l = some ks) : Calls Try.prog 9 #[.agg #[.int .u32 (ent : Int), .slice ao l.length cap], .int .i64 z] w fun e w' => ∃ s, e = .returned (.tuple #[.pointer (some ⟨s.mb, 0, none⟩), .agg (stC 2147479536 (ent : Int) ((ent : Int) + 4)), .int .i64 0]) ∧ Loaded w w' (cutMost z) l s := by
  refine (load_file w ao cap ent l z h hcap hmax he).mono ?_
  rintro e w' (⟨h1, h2, h3⟩ | ⟨h1, h2, h3, h4⟩ | ⟨h1, s, h2, h3⟩)
  · exact absurd hc h1
  · rw [hk] at h2; cases h2
  · exact ⟨s, h2, h3⟩
theorem rloadY (w : World) (ao : Option Addr) (cap ent : Nat) (l : List Sg) (z : Int) (h : Segs w ao l) (hcap : l.length ≤ cap) (hmax : cap ≤ 9223372036854775807) (he : ent < 4294967296) (hc : checkE ent l = 0) {ks : List Nat} (hk : allKs (cutMost z) l = some ks) : Calls Try.prog 10 #[.agg #[.int .u32 (ent : Int), .slice ao l.length cap], .int .i64 z] w fun e w' => ∃ mb t, e = .returned (.tuple #[.pointer (some ⟨mb, 0, none⟩), .agg (stC 2147479536 (ent : Int) ((ent : Int) + 4)), .int .i64 0]) ∧ OM w w' mb (cutMost z) ks (allAm l) t := by
  refine (rload_file w ao cap ent l z h hcap hmax he).mono ?_
  rintro e w' (⟨h1, h2, h3⟩ | ⟨h1, h2, h3, h4⟩ | ⟨h1, mb, ks', t, h2, h3, h4⟩)
  · exact absurd hc h1
  · rw [hk] at h2; cases h2
  · rw [hk] at h2
    cases h2
    exact ⟨mb, t, h3, h4⟩
end Go.Proofs.Ytpknppicamefgaa
namespace Go.Proofs.Ytpknppicamefgaa
open Go.ChangeShapes Go.WideShapes Go.ChangeAt Go.RowKit
set_option linter.unusedVariables false
theorem size27 : (Try.prog.info? 22).map (·.size) = some 1 := by kernel_rfl
theorem exec_index35 {ρ : Operand → Value} {o : Oper} {x y : Operand} {b off n cap k : Nat} (hop : o.op = .indexAddr 48 x y) (hx : ρ x = .slice (some ⟨b, off, none⟩) n cap) (hy : ρ y = .int .i64 (k : Int)) (hk : k < n) (w : World) : (execOp ρ o).run Try.prog w = .ok (.value (.pointer (some ⟨b, off + k, none⟩))) w := by
  have hs := size27
  cases hq : Try.prog.info? 22 with
  | none => simp [hq] at hs
  | some i =>
    have hs2 : i.size = 1 := by simpa [hq] using hs
    unfold execOp
    rw [hop]
    simp [hx, hy, Instr.indexAt, run_underlying Try.underlying48, sizeOf, typeInfo, hq, hs2, hk, Addr.add_lit, go_sem]
theorem exec_neqS {ρ : Operand → Value} {o : Oper} {x y : Operand} (A : ByteArray) (hop : o.op = .binOp .neq 9 x y 9) (hx : ρ x = .string A) (hy : ρ y = .string A) (w : World) : (execOp ρ o).run Try.prog w = .ok (.value (.bool false)) w := by
  unfold execOp
  rw [hop]
  simp [hx, hy, go_sem]
theorem cut256 : cutLen 256 = 256 := by unfold cutLen; omega
theorem load27 {w : World} {a : Addr} {v : Value} (hc : w.cell? a = some v) : (loadVar 22 a).run Try.prog w = .ok v w := by
  simp [loadVar, isAgg, Sem.run_bind, run_underlying Try.underlying22, hc, go_sem]
/-- What the slots of the region hold, whatever the order. -/
def phiSm (mb mm lb lo nn lc k pg : Nat) (pm : Int) (d : List UInt8) : Nat → Value → World → Prop
  | 0, x, _ => x = .pointer (some ⟨mb, 0, none⟩)
  | 1, x, _ => x = .slice (some ⟨lb, lo, none⟩) nn lc
  | 2, x, _ => x = .int .i64 (k : Int)
  | 3, x, _ => x = .pointer (some ⟨lb, lo + k, none⟩)
  | 4, x, _ => x = .int .u32 (pg : Int)
  | 5, x, _ => x = .int .i64 pm
  | 6, x, _ => x = .pointer (some ⟨mm, 0, none⟩)
  | 7, x, _ => x = .slice (some ⟨lb, lo, none⟩) nn lc
  | 8, x, _ => x = .int .i64 (k : Int)
  | 9, x, _ => x = .pointer (some ⟨lb, lo + k, none⟩)
  | 10, x, _ => x = .int .u32 (pg : Int)
  | 11, x, _ => x = .int .i64 pm
  | 12, x, _ => x = .bool false
  | 13, x, _ => x = .bool false
  | 14, x, _ => x = .pointer (some ⟨mb, 0, none⟩)
  | 15, x, _ => x = .slice (some ⟨lb, lo, none⟩) nn lc
  | 16, x, _ => x = .int .i64 (k : Int)
  | 17, x, _ => x = .pointer (some ⟨lb, lo + k, none⟩)
  | 18, x, _ => x = .int .u32 (pg : Int)
  | 19, x, w => ∃ a c, x = .slice a d.length c ∧ Row w a d c
  | 20, x, _ => x = .string ⟨d.toArray⟩
  | 21, x, _ => x = .pointer (some ⟨mm, 0, none⟩)
  | 22, x, _ => x = .slice (some ⟨lb, lo, none⟩) nn lc
  | 23, x, _ => x = .int .i64 (k : Int)
  | 24, x, _ => x = .pointer (some ⟨lb, lo + k, none⟩)
  | 25, x, _ => x = .int .u32 (pg : Int)
  | 26, x, w => ∃ a c, x = .slice a d.length c ∧ Row w a d c
  | 27, x, _ => x = .string ⟨d.toArray⟩
  | 28, x, _ => x = .bool false
  | 29, x, _ => x = .bool false
  | _ + 30, _, _ => True
theorem phiSm_mono (mb mm lb lo nn lc k pg : Nat) (pm : Int) (d : List UInt8) : ∀ i x w w', phiSm mb mm lb lo nn lc k pg pm d i x w → Below w.heap.size w w' → phiSm mb mm lb lo nn lc k pg pm d i x w'
  | 0, _, _, _, h, _ => h
  | 1, _, _, _, h, _ => h
  | 2, _, _, _, h, _ => h
  | 3, _, _, _, h, _ => h
  | 4, _, _, _, h, _ => h
  | 5, _, _, _, h, _ => h
  | 6, _, _, _, h, _ => h
  | 7, _, _, _, h, _ => h
  | 8, _, _, _, h, _ => h
  | 9, _, _, _, h, _ => h
  | 10, _, _, _, h, _ => h
  | 11, _, _, _, h, _ => h
  | 12, _, _, _, h, _ => h
  | 13, _, _, _, h, _ => h
  | 14, _, _, _, h, _ => h
  | 15, _, _, _, h, _ => h
  | 16, _, _, _, h, _ => h
  | 17, _, _, _, h, _ => h
  | 18, _, _, _, h, _ => h
  | 19, x, w, w', h, hb => by obtain ⟨a, c, e, hr⟩ := h; exact ⟨a, c, e, hr.later hb⟩
  | 20, _, _, _, h, _ => h
  | 21, _, _, _, h, _ => h
  | 22, _, _, _, h, _ => h
  | 23, _, _, _, h, _ => h
  | 24, _, _, _, h, _ => h
  | 25, _, _, _, h, _ => h
  | 26, x, w, w', h, hb => by obtain ⟨a, c, e, hr⟩ := h; exact ⟨a, c, e, hr.later hb⟩
  | 27, _, _, _, h, _ => h
  | 28, _, _, _, h, _ => h
  | 29, _, _, _, h, _ => h
  | _ + 30, _, _, _, _, _ => trivial
theorem listM30 : ∀ xs : List Value, xs.length = 30 → ∃ x0 x1 x2 x3 x4 x5 x6 x7 x8 x9 x10 x11 x12 x13 x14 x15 x16 x17 x18 x19 x20 x21 x22 x23 x24 x25 x26 x27 x28 x29, xs = [x0, x1, x2, x3, x4, x5, x6, x7, x8, x9, x10, x11, x12, x13, x14, x15, x16, x17, x18, x19, x20, x21, x22, x23, x24, x25, x26, x27, x28, x29]
  | [x0, x1, x2, x3, x4, x5, x6, x7, x8, x9, x10, x11, x12, x13, x14, x15, x16, x17, x18, x19, x20, x21, x22, x23, x24, x25, x26, x27, x28, x29], _ => ⟨_, _, _, _, _, _, _, _, _, _, _, _, _, _, _, _, _, _, _, _, _, _, _, _, _, _, _, _, _, _, rfl⟩
set_option maxRecDepth 20000 in
set_option maxHeartbeats 1000000 in
theorem sameMem_any (w : World) (s : MS) (t : S5) (hs : MemW w s) (ht : M5 w t) (hS : Sim s t.l) : Calls Try.prog 12 #[.pointer (some ⟨s.mb, 0, none⟩), .pointer (some ⟨t.m, 0, none⟩)] w fun e w' => e = .returned (.bool true) ∧ Below w.heap.size w w' := by
  obtain ⟨ks, hks⟩ : ∃ ks, ks = t.l.map P5.at_ := ⟨_, rfl⟩
  have hkl : ks.length ≤ 64 := by rw [hks, List.length_map, ← hS.len]; exact Nat.le_trans hs.room hs.great
  have H54 : Hid (Calls Try.prog 33 #[.pointer (some ⟨t.m, 0, none⟩)] w fun e w' => ∃ la lc, e = .returned (.slice la ks.length lc) ∧ Wds w' (.slice la ks.length lc) ks ∧ Below w.heap.size w w') := ht.pagesC.mono fun e w' ⟨v, he, ho, hb⟩ => by
    have hw := wds_of_row ho
    rw [← hks] at hw
    obtain ⟨la, lc, rfl, h2⟩ := hw
    exact ⟨la, lc, he, ⟨la, lc, rfl, h2⟩, hb⟩
  have H38 : Hid (∀ w1, Below w.heap.size w w1 → Calls Try.prog 24 #[.pointer (some ⟨s.mb, 0, none⟩)] w1 fun e w' => ∃ ao cap, e = .returned (.slice ao ks.length cap) ∧ Wds w' (.slice ao ks.length cap) ks ∧ Below w1.heap.size w1 w') := fun w1 hb => (pages_all w1 s (hs.later hb)).mono fun e w' ⟨ao, cap, l, he, hp, hr, hw, hb'⟩ => by
    have e2 := hS.pages hp hr
    rw [← hks] at e2
    subst e2
    exact ⟨ao, cap, he, hw, hb'⟩
  have H16 : Hid (∀ w1 v u, Wds w1 v ks → Wds w1 u ks → Calls Try.prog 34 #[v, u] w1 fun e w' => e = .returned (.bool true) ∧ ∃ n, w' = w1.drewN n) := fun w1 v u h1 h2 => sameWords_any w1 v u ks h1 h2 (by omega)
  have HK : Hid (∀ k, k < ks.length → ks.getD k 0 < 4294967296) := fun k hk => by
    have hk2 : k < t.l.length := by rw [hks, List.length_map] at hk; exact hk
    have e : ks.getD k 0 = (t.l.getD k nop5).at_ := by rw [hks]; simp [List.getD_eq_getElem?_getD, hk2]
    rw [e]
    exact (hs.key _ (hS.here k hk2).1).1
  have HPA : Hid (∀ pg : Nat, pg < 4294967296 → ∀ w1, Below w.heap.size w w1 → Calls Try.prog 17 #[.pointer (some ⟨s.mb, 0, none⟩), .int .u32 (pg : Int)] w1 fun e w' => e = .returned (.int .i64 (s.perm pg)) ∧ Below w1.heap.size w1 w') := fun pg hp w1 hb => (permOf_any w1 s pg (hs.later hb) hp).mono fun e w' ⟨he, n, hn⟩ => ⟨he, by rw [hn]; exact below_drewN (Below.refl _ _) _⟩
  have HPB : Hid (∀ pg : Nat, pg < 4294967296 → ∀ w1, Below w.heap.size w w1 → Calls Try.prog 35 #[.pointer (some ⟨t.m, 0, none⟩), .int .u32 (pg : Int)] w1 fun e w' => e = .returned (.int .i64 (s.perm pg)) ∧ Below w1.heap.size w1 w') := fun pg hp w1 hb => ((ht.later hb).permC pg hp).mono fun e w' ⟨he, hn⟩ => ⟨by rw [← hS.perm]; exact he, by rw [hn]; exact Below.refl _ _⟩
  have HBA : Hid (∀ pg : Nat, pg < 4294967296 → ∀ w1, Below w.heap.size w w1 → Calls Try.prog 36 #[.pointer (some ⟨s.mb, 0, none⟩), .int .u32 (pg : Int), .int .i64 256] w1 fun e w' => ∃ a c, e = .returned (.slice a (s.span pg 256).length c) ∧ Row w' a (s.span pg 256) c ∧ Below w1.heap.size w1 w') := fun pg hp w1 hb => by
    have := mbytes_any w1 s pg 256 (hs.later hb) hp
    rw [cut256] at this
    exact this.mono fun e w' ⟨ao, he, hr, hb'⟩ => ⟨ao, 256, he, hr, hb'⟩
  have HBB : Hid (∀ pg : Nat, pg < 4294967296 → ∀ w1, Below w.heap.size w w1 → Calls Try.prog 37 #[.pointer (some ⟨t.m, 0, none⟩), .int .u32 (pg : Int), .int .i64 256] w1 fun e w' => ∃ a c, e = .returned (.slice a (s.span pg 256).length c) ∧ Row w' a (s.span pg 256) c ∧ Below w1.heap.size w1 w') := fun pg hp w1 hb => ((ht.later hb).bytesC pg 256 hp (by omega)).mono fun e w' ⟨v, he, ho, hb'⟩ => by
    rw [hS.bytes] at ho
    obtain ⟨a, c, rfl, hr⟩ := row_of_own rfl ho
    exact ⟨a, c, he, hr, hb'⟩
  clear hs ht hS hks
  go_enter Try.func12, Try.ntmps12
  go_wp2_with (first | (go_at_call 33; with_reducible refine (Hid.out H54).mono ?_; rintro e w1 ⟨la, lc, rfl, hw1, hb1⟩; have HW1 := hidden hw1; have HB1 := hidden hb1; clear hw1 hb1) | (go_at_call 24; with_reducible refine (Hid.out H38 w1 (Hid.out HB1)).mono ?_; rintro e w2 ⟨ra, rc, rfl, hw2, hb2⟩; have HW2 := hidden hw2; have HW3 := hidden (Wds.later (Hid.out HW1) hb2); have HB2 := hidden (bthen (Hid.out HB1) hb2); have HS := hidden (Hid.out H16 w2 _ _ hw2 (Hid.out HW3)); clear hw2 hb2) | (go_at_call 34; with_reducible refine (Hid.out HS).mono ?_; rintro e w4 ⟨rfl, n4, hn4⟩; have HN4 := hidden hn4; clear hn4))
  have HB4 : Hid (Below w.heap.size w w4) := by rw [Hid.out HN4]; exact below_drewN (Hid.out HB2) n4
  have HW4 : Hid (Wds w4 (.slice la ks.length lc) ks) := by rw [Hid.out HN4]; exact (Hid.out HW3).later (below_drewN (Below.refl _ _) n4)
  clear HN4
  go_loopw [6] (fun x6 wr => ∃ k : Nat, k ≤ ks.length ∧ x6 = .int .i64 (k : Int) ∧ Below w.heap.size w wr ∧ Wds wr (.slice la ks.length lc) ks) (fun x6 _ => ks.length - (intOf x6).toNat)
  case atStart => exact ⟨0, by omega, rfl, Hid.out HB4, Hid.out HW4⟩
  case round =>
    obtain ⟨k, hk, rfl, hbr, hwd⟩ := hrel
    have HBR := hidden hbr
    have HWD := hidden hwd
    by_cases hkn : k < ks.length
    · have hk2 : (k : Int) < (ks.length : Int) := by omega
      obtain ⟨la', lc', e, h2⟩ := hwd
      simp only [Value.slice.injEq, true_and] at e
      obtain ⟨rfl, rfl⟩ := e
      rcases h2 with h2 | ⟨lb, lo, rfl, hlb, hce⟩
      · rw [h2] at hkn; simp at hkn
      obtain ⟨pg, hpg⟩ : ∃ pg, ks.getD k 0 = pg := ⟨_, rfl⟩
      have hpl := Hid.out HK k hkn
      have hck := hce k hkn
      rw [hpg] at hpl hck
      have HCE := hidden hck
      have HLB := hidden hlb
      have HP1 := hidden (Hid.out HPA pg hpl)
      have HP2 := hidden (Hid.out HPB pg hpl)
      have HB1 := hidden (Hid.out HBA pg hpl)
      have HB2 := hidden (Hid.out HBB pg hpl)
      generalize s.perm pg = pm at HP1 HP2
      generalize s.span pg 256 = d at HB1 HB2
      clear hbr hce hck hpg hlb
      go_wp2
      refine wp_region_on later_below [32, 33, 34, 35, 36, 37, 38, 39, 40, 41, 42, 43, 44, 45, 46, 47, 48, 49, 50, 51, 52, 53, 54, 55, 56, 57, 58, 59, 60, 61] 30 (phiSm s.mb t.m lb lo ks.length lc k pg pm d) (by kernel_rfl) (by kernel_rfl) rfl rfl (phiSm_mono s.mb t.m lb lo ks.length lc k pg pm d) ?_ ?_
      · intro j hj xs w3 hxs hR hpre
        obtain ⟨x0, x1, x2, x3, x4, x5, x6, x7, x8, x9, x10, x11, x12, x13, x14, x15, x16, x17, x18, x19, x20, x21, x22, x23, x24, x25, x26, x27, x28, x29, rfl⟩ := listM30 xs hxs
        have hbw3 : Below w.heap.size w w3 := bthen (Hid.out HBR) hR
        have hcell : w3.cell? ⟨lb, lo + k, none⟩ = some (.int .u32 (pg : Int)) := (hR.cell (p := ⟨lb, lo + k, none⟩) (Hid.out HLB)).trans (Hid.out HCE)
        rcases (show j = 0 ∨ j = 1 ∨ j = 2 ∨ j = 3 ∨ j = 4 ∨ j = 5 ∨ j = 6 ∨ j = 7 ∨ j = 8 ∨ j = 9 ∨ j = 10 ∨ j = 11 ∨ j = 12 ∨ j = 13 ∨ j = 14 ∨ j = 15 ∨ j = 16 ∨ j = 17 ∨ j = 18 ∨ j = 19 ∨ j = 20 ∨ j = 21 ∨ j = 22 ∨ j = 23 ∨ j = 24 ∨ j = 25 ∨ j = 26 ∨ j = 27 ∨ j = 28 ∨ j = 29 by omega) with rfl | rfl | rfl | rfl | rfl | rfl | rfl | rfl | rfl | rfl | rfl | rfl | rfl | rfl | rfl | rfl | rfl | rfl | rfl | rfl | rfl | rfl | rfl | rfl | rfl | rfl | rfl | rfl | rfl | rfl
        · exact wpOp_run (.pointer (some ⟨s.mb, 0, none⟩)) rfl (by kernel_rfl) (exec_move rfl (by kernel_rfl) w3) ⟨_, by kernel_rfl, rfl, Below.refl _ _⟩
        · exact wpOp_run (.slice (some ⟨lb, lo, none⟩) ks.length lc) rfl (by kernel_rfl) (exec_move rfl (by kernel_rfl) w3) ⟨_, by kernel_rfl, rfl, Below.refl _ _⟩
        · exact wpOp_run (.int .i64 (k : Int)) rfl (by kernel_rfl) (exec_move rfl (by kernel_rfl) w3) ⟨_, by kernel_rfl, rfl, Below.refl _ _⟩
        · have e1 : x1 = .slice (some ⟨lb, lo, none⟩) ks.length lc := hpre 1 (by kernel_rfl)
          subst e1
          have e2 : x2 = .int .i64 (k : Int) := hpre 2 (by kernel_rfl)
          subst e2
          exact wpOp_run (.pointer (some ⟨lb, lo + k, none⟩)) rfl (by kernel_rfl) (exec_index35 (b := lb) (off := lo) (n := ks.length) (cap := lc) (k := k) rfl (by kernel_rfl) (by kernel_rfl) hkn w3) ⟨_, by kernel_rfl, rfl, Below.refl _ _⟩
        · have e3 : x3 = .pointer (some ⟨lb, lo + k, none⟩) := hpre 3 (by kernel_rfl)
          subst e3
          exact wpOp_run (.int .u32 (pg : Int)) rfl (by kernel_rfl) (exec_load 22 rfl (by kernel_rfl) w3 (load27 hcell)) ⟨_, by kernel_rfl, rfl, Below.refl _ _⟩
        · have e0 : x0 = .pointer (some ⟨s.mb, 0, none⟩) := hpre 0 (by kernel_rfl)
          subst e0
          have e4 : x4 = .int .u32 (pg : Int) := hpre 4 (by kernel_rfl)
          subst e4
          refine wpOp_callR (R := fun u w4 => u = .int .i64 pm ∧ Below w3.heap.size w3 w4) 17 #[.pointer (some ⟨s.mb, 0, none⟩), .int .u32 (pg : Int)] rfl (by kernel_rfl) (by kernel_rfl) ((Hid.out HP1 w3 hbw3).mono fun e w4 ⟨he, hb⟩ => ⟨_, he, rfl, hb⟩) ?_
          rintro _ w4 ⟨rfl, hb⟩
          exact ⟨_, by kernel_rfl, rfl, hb⟩
        · exact wpOp_run (.pointer (some ⟨t.m, 0, none⟩)) rfl (by kernel_rfl) (exec_move rfl (by kernel_rfl) w3) ⟨_, by kernel_rfl, rfl, Below.refl _ _⟩
        · exact wpOp_run (.slice (some ⟨lb, lo, none⟩) ks.length lc) rfl (by kernel_rfl) (exec_move rfl (by kernel_rfl) w3) ⟨_, by kernel_rfl, rfl, Below.refl _ _⟩
        · exact wpOp_run (.int .i64 (k : Int)) rfl (by kernel_rfl) (exec_move rfl (by kernel_rfl) w3) ⟨_, by kernel_rfl, rfl, Below.refl _ _⟩
        · have e7 : x7 = .slice (some ⟨lb, lo, none⟩) ks.length lc := hpre 7 (by kernel_rfl)
          subst e7
          have e8 : x8 = .int .i64 (k : Int) := hpre 8 (by kernel_rfl)
          subst e8
          exact wpOp_run (.pointer (some ⟨lb, lo + k, none⟩)) rfl (by kernel_rfl) (exec_index35 (b := lb) (off := lo) (n := ks.length) (cap := lc) (k := k) rfl (by kernel_rfl) (by kernel_rfl) hkn w3) ⟨_, by kernel_rfl, rfl, Below.refl _ _⟩
        · have e9 : x9 = .pointer (some ⟨lb, lo + k, none⟩) := hpre 9 (by kernel_rfl)
          subst e9
          exact wpOp_run (.int .u32 (pg : Int)) rfl (by kernel_rfl) (exec_load 22 rfl (by kernel_rfl) w3 (load27 hcell)) ⟨_, by kernel_rfl, rfl, Below.refl _ _⟩
        · have e6 : x6 = .pointer (some ⟨t.m, 0, none⟩) := hpre 6 (by kernel_rfl)
          subst e6
          have e10 : x10 = .int .u32 (pg : Int) := hpre 10 (by kernel_rfl)
          subst e10
          refine wpOp_callR (R := fun u w4 => u = .int .i64 pm ∧ Below w3.heap.size w3 w4) 35 #[.pointer (some ⟨t.m, 0, none⟩), .int .u32 (pg : Int)] rfl (by kernel_rfl) (by kernel_rfl) ((Hid.out HP2 w3 hbw3).mono fun e w4 ⟨he, hb⟩ => ⟨_, he, rfl, hb⟩) ?_
          rintro _ w4 ⟨rfl, hb⟩
          exact ⟨_, by kernel_rfl, rfl, hb⟩
        · have e5 : x5 = .int .i64 pm := hpre 5 (by kernel_rfl)
          subst e5
          have e11 : x11 = .int .i64 pm := hpre 11 (by kernel_rfl)
          subst e11
          exact wpOp_run (.bool false) rfl (by kernel_rfl) (exec_neq (n := pm) 3 rfl Try.underlying3 (by kernel_rfl) (by kernel_rfl) w3) ⟨_, by kernel_rfl, rfl, Below.refl _ _⟩
        · have e12 : x12 = .bool false := hpre 12 (by kernel_rfl)
          subst e12
          exact wpOp_run (.bool false) rfl (by kernel_rfl) (exec_move rfl (by kernel_rfl) w3) ⟨_, by kernel_rfl, rfl, Below.refl _ _⟩
        · have e13 : x13 = .bool false := hpre 13 (by kernel_rfl)
          subst e13
          exact wpOp_run (.pointer (some ⟨s.mb, 0, none⟩)) rfl (by kernel_rfl) (exec_move rfl (by kernel_rfl) w3) ⟨_, by kernel_rfl, rfl, Below.refl _ _⟩
        · have e13 : x13 = .bool false := hpre 13 (by kernel_rfl)
          subst e13
          exact wpOp_run (.slice (some ⟨lb, lo, none⟩) ks.length lc) rfl (by kernel_rfl) (exec_move rfl (by kernel_rfl) w3) ⟨_, by kernel_rfl, rfl, Below.refl _ _⟩
        · have e13 : x13 = .bool false := hpre 13 (by kernel_rfl)
          subst e13
          exact wpOp_run (.int .i64 (k : Int)) rfl (by kernel_rfl) (exec_move rfl (by kernel_rfl) w3) ⟨_, by kernel_rfl, rfl, Below.refl _ _⟩
        · have e13 : x13 = .bool false := hpre 13 (by kernel_rfl)
          subst e13
          have e15 : x15 = .slice (some ⟨lb, lo, none⟩) ks.length lc := hpre 15 (by kernel_rfl)
          subst e15
          have e16 : x16 = .int .i64 (k : Int) := hpre 16 (by kernel_rfl)
          subst e16
          exact wpOp_run (.pointer (some ⟨lb, lo + k, none⟩)) rfl (by kernel_rfl) (exec_index35 (b := lb) (off := lo) (n := ks.length) (cap := lc) (k := k) rfl (by kernel_rfl) (by kernel_rfl) hkn w3) ⟨_, by kernel_rfl, rfl, Below.refl _ _⟩
        · have e13 : x13 = .bool false := hpre 13 (by kernel_rfl)
          subst e13
          have e17 : x17 = .pointer (some ⟨lb, lo + k, none⟩) := hpre 17 (by kernel_rfl)
          subst e17
          exact wpOp_run (.int .u32 (pg : Int)) rfl (by kernel_rfl) (exec_load 22 rfl (by kernel_rfl) w3 (load27 hcell)) ⟨_, by kernel_rfl, rfl, Below.refl _ _⟩
        · have e13 : x13 = .bool false := hpre 13 (by kernel_rfl)
          subst e13
          have e14 : x14 = .pointer (some ⟨s.mb, 0, none⟩) := hpre 14 (by kernel_rfl)
          subst e14
          have e18 : x18 = .int .u32 (pg : Int) := hpre 18 (by kernel_rfl)
          subst e18
          refine wpOp_callR (R := fun u w4 => (∃ a c, u = .slice a d.length c ∧ Row w4 a d c) ∧ Below w3.heap.size w3 w4) 36 #[.pointer (some ⟨s.mb, 0, none⟩), .int .u32 (pg : Int), .int .i64 256] rfl (by kernel_rfl) (by kernel_rfl) ((Hid.out HB1 w3 hbw3).mono fun e w4 ⟨a, c, he, hr, hb⟩ => ⟨_, he, ⟨a, c, rfl, hr⟩, hb⟩) ?_
          rintro _ w4 ⟨⟨a, c, rfl, hr⟩, hb⟩
          exact ⟨_, by kernel_rfl, ⟨a, c, rfl, hr⟩, hb⟩
        · have e13 : x13 = .bool false := hpre 13 (by kernel_rfl)
          subst e13
          have f19 : ∃ a c, x19 = .slice a d.length c ∧ Row w3 a d c := hpre 19 (by kernel_rfl)
          obtain ⟨a19, c19, e19, hr19⟩ := f19
          subst e19
          exact wpOp_run (.string ⟨d.toArray⟩) rfl (by kernel_rfl) (exec_str (ao := a19) (c := c19) d rfl (by kernel_rfl) w3 hr19.lies) ⟨_, by kernel_rfl, rfl, Below.refl _ _⟩
        · have e13 : x13 = .bool false := hpre 13 (by kernel_rfl)
          subst e13
          exact wpOp_run (.pointer (some ⟨t.m, 0, none⟩)) rfl (by kernel_rfl) (exec_move rfl (by kernel_rfl) w3) ⟨_, by kernel_rfl, rfl, Below.refl _ _⟩
        · have e13 : x13 = .bool false := hpre 13 (by kernel_rfl)
          subst e13
          exact wpOp_run (.slice (some ⟨lb, lo, none⟩) ks.length lc) rfl (by kernel_rfl) (exec_move rfl (by kernel_rfl) w3) ⟨_, by kernel_rfl, rfl, Below.refl _ _⟩
        · have e13 : x13 = .bool false := hpre 13 (by kernel_rfl)
          subst e13
          exact wpOp_run (.int .i64 (k : Int)) rfl (by kernel_rfl) (exec_move rfl (by kernel_rfl) w3) ⟨_, by kernel_rfl, rfl, Below.refl _ _⟩
        · have e13 : x13 = .bool false := hpre 13 (by kernel_rfl)
          subst e13
          have e22 : x22 = .slice (some ⟨lb, lo, none⟩) ks.length lc := hpre 22 (by kernel_rfl)
          subst e22
          have e23 : x23 = .int .i64 (k : Int) := hpre 23 (by kernel_rfl)
          subst e23
          exact wpOp_run (.pointer (some ⟨lb, lo + k, none⟩)) rfl (by kernel_rfl) (exec_index35 (b := lb) (off := lo) (n := ks.length) (cap := lc) (k := k) rfl (by kernel_rfl) (by kernel_rfl) hkn w3) ⟨_, by kernel_rfl, rfl, Below.refl _ _⟩
        · have e13 : x13 = .bool false := hpre 13 (by kernel_rfl)
          subst e13
          have e24 : x24 = .pointer (some ⟨lb, lo + k, none⟩) := hpre 24 (by kernel_rfl)
          subst e24
          exact wpOp_run (.int .u32 (pg : Int)) rfl (by kernel_rfl) (exec_load 22 rfl (by kernel_rfl) w3 (load27 hcell)) ⟨_, by kernel_rfl, rfl, Below.refl _ _⟩
        · have e13 : x13 = .bool false := hpre 13 (by kernel_rfl)
          subst e13
          have e21 : x21 = .pointer (some ⟨t.m, 0, none⟩) := hpre 21 (by kernel_rfl)
          subst e21
          have e25 : x25 = .int .u32 (pg : Int) := hpre 25 (by kernel_rfl)
          subst e25
          refine wpOp_callR (R := fun u w4 => (∃ a c, u = .slice a d.length c ∧ Row w4 a d c) ∧ Below w3.heap.size w3 w4) 37 #[.pointer (some ⟨t.m, 0, none⟩), .int .u32 (pg : Int), .int .i64 256] rfl (by kernel_rfl) (by kernel_rfl) ((Hid.out HB2 w3 hbw3).mono fun e w4 ⟨a, c, he, hr, hb⟩ => ⟨_, he, ⟨a, c, rfl, hr⟩, hb⟩) ?_
          rintro _ w4 ⟨⟨a, c, rfl, hr⟩, hb⟩
          exact ⟨_, by kernel_rfl, ⟨a, c, rfl, hr⟩, hb⟩
        · have e13 : x13 = .bool false := hpre 13 (by kernel_rfl)
          subst e13
          have f26 : ∃ a c, x26 = .slice a d.length c ∧ Row w3 a d c := hpre 26 (by kernel_rfl)
          obtain ⟨a26, c26, e26, hr26⟩ := f26
          subst e26
          exact wpOp_run (.string ⟨d.toArray⟩) rfl (by kernel_rfl) (exec_str (ao := a26) (c := c26) d rfl (by kernel_rfl) w3 hr26.lies) ⟨_, by kernel_rfl, rfl, Below.refl _ _⟩
        · have e13 : x13 = .bool false := hpre 13 (by kernel_rfl)
          subst e13
          have e20 : x20 = .string ⟨d.toArray⟩ := hpre 20 (by kernel_rfl)
          subst e20
          have e27 : x27 = .string ⟨d.toArray⟩ := hpre 27 (by kernel_rfl)
          subst e27
          exact wpOp_run (.bool false) rfl (by kernel_rfl) (exec_neqS ⟨d.toArray⟩ rfl (by kernel_rfl) (by kernel_rfl) w3) ⟨_, by kernel_rfl, rfl, Below.refl _ _⟩
        · have e13 : x13 = .bool false := hpre 13 (by kernel_rfl)
          subst e13
          have e28 : x28 = .bool false := hpre 28 (by kernel_rfl)
          subst e28
          exact wpOp_run (.bool false) rfl (by kernel_rfl) (by kernel_rfl) ⟨_, by kernel_rfl, rfl, Below.refl _ _⟩
      · intro xs w3 hxs hR hall
        obtain ⟨x0, x1, x2, x3, x4, x5, x6, x7, x8, x9, x10, x11, x12, x13, x14, x15, x16, x17, x18, x19, x20, x21, x22, x23, x24, x25, x26, x27, x28, x29, rfl⟩ := listM30 xs hxs
        have e29 : x29 = .bool false := hall 29 (by omega)
        subst e29
        have HB6 := hidden (bthen (Hid.out HBR) hR)
        have HW6 := hidden ((Hid.out HWD).later hR)
        clear hall hR hxs
        simp only [slotsOn, putAll, List.set_cons_succ, List.set_cons_zero]
        go_wp2
        go_roundw
        case rel => first | exact ⟨k + 1, by omega, by simp, Hid.out HB6, Hid.out HW6⟩ | ((repeat apply Exists.intro); first | exact ⟨⟨k + 1, by omega, by simp, Hid.out HB6, Hid.out HW6⟩, rfl⟩ | exact ⟨⟨k + 1, by omega, by simp, Hid.out HB6, Hid.out HW6⟩, rfl, rfl⟩)
        case measure => simp [intOf]; omega
    · have hk2 : ¬ (k : Int) < (ks.length : Int) := by omega
      clear hbr hwd
      go_wp2
      go_ret
      exact ⟨rfl, Hid.out HBR⟩
end Go.Proofs.Ytpknppicamefgaa

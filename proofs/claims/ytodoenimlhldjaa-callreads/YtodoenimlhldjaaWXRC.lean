/- CallReads: the memory, the call. -/
import Derived.Test.YtodoenimlhldjaaWXRB
import Derived.Test.YtodoenimlhldjaaWXRA
import Derived.Test.YtodoenimlhldjaaWMAU
import Derived.Laws.Slices
import Derived.Laws.Concat
namespace Go.Proofs.Ytodoenimlhldjaa
open Go.ChangeShapes Go.WideShapes Go.ChangeAt Go.RowKit
set_option linter.unusedVariables false
/-- The memory of CallReads. -/
def rdP (bo : Option Addr) : Part4 := ⟨512, zeros, 6, false, bo, 256⟩
theorem zeros_l : zeros.length = 256 := List.length_replicate
structure RS (s : MS) : Prop where
  ks : s.ks = [512]
  pm : s.pm 512 = 6
theorem rd_shape {s : MS} {w : World} {bo : Option Addr} (hm : MemW w s) (h : s.abs = memOf [rdP bo]) : RS s := by
  have hp1 : 1 ≤ (rdP bo).data.length := by show 1 ≤ zeros.length; rw [zeros_l]; decide
  have hmem : ∀ k, k ∈ s.ks ↔ k = 512 := fun k => by
    rw [mem_abs, h, one_some (rdP bo) hp1]
    constructor
    · rintro ⟨j, hj, e⟩
      have hj2 : j < 256 := by
        have h1 : j < zeros.length := hj
        rw [zeros_l] at h1
        exact h1
      rw [e]
      show pageOf (wrapAt 512 j) = 512
      unfold pageOf wrapAt
      omega
    · intro e
      exact ⟨0, by show 0 < zeros.length; rw [zeros_l]; decide, by rw [e]; show 512 = pageOf (wrapAt 512 0); decide⟩
  have hnd := hm.nodup
  have hks : s.ks = [512] := by
    cases hk : s.ks with
    | nil =>
      have := (hmem 512).2 rfl
      rw [hk] at this
      cases this
    | cons x l =>
      rw [hk] at hmem hnd
      have hx : x = 512 := (hmem x).1 List.mem_cons_self
      cases l with
      | nil => rw [hx]
      | cons y l2 =>
        have hy : y = 512 := (hmem y).1 (List.mem_cons_of_mem _ List.mem_cons_self)
        have := (List.nodup_cons.1 hnd).1
        exact absurd (by rw [hx, hy]; exact List.mem_cons_self) this
  refine ⟨hks, ?_⟩
  have h6 := perm_all (s := s) (z := 6) (by rw [h]; exact one_allP (rdP bo)) 512 (by rw [h]; exact (one_some (rdP bo) hp1 _).2 ⟨0, by show 0 < zeros.length; rw [zeros_l]; decide, rfl⟩)
  rw [perm_abs, abs_in (show pageOf 512 ∈ s.ks by rw [hks]; exact List.mem_singleton.2 rfl)] at h6
  exact h6
theorem RS.perm {s : MS} (h : RS s) {a : Nat} (ha : pageOf a = 512) : s.perm a = 6 := by
  rw [perm_abs, ha, abs_in (show 512 ∈ s.ks by rw [h.ks]; exact List.mem_singleton.2 rfl)]
  exact h.pm
def rdS (k : Int) : SV := { stPN 4 8 with R := (((List.replicate 32 (0 : Int)).set 2 4003).set 5 512).set 6 k }
theorem rdS_ok {k : Int} (h0 : 0 ≤ k) (h1 : k < 4294967296) : (rdS k).ok := SV.ok_set (v := { stPN 4 8 with R := ((List.replicate 32 (0 : Int)).set 2 4003).set 5 512 }) (SV.ok_set (v := { stPN 4 8 with R := (List.replicate 32 (0 : Int)).set 2 4003 }) (SV.ok_set (v := stPN 4 8) (pn_ok 4 8 (by decide) (by decide) (by decide) (by decide)) 2 4003 (by decide) (by decide)) 5 512 (by decide) (by decide)) 6 k h0 h1
theorem pokesF_part (f : AM) (a : Nat) (D : List UInt8) (z : Int) (on : Bool) (da : Option Addr) (c : Nat) : ∀ k, pokesF f a D k = partPokes f ⟨a, D, z, on, da, c⟩ k
  | 0 => rfl
  | k + 1 => by
    show apoke (pokesF f a D k) _ _ = apoke (partPokes f _ k) _ _
    rw [pokesF_part f a D z on da c k]
theorem rd_span {s t : MS} {w : World} (hm : MemW w s) (hs : RS s) {D : List UInt8} {N : Nat} (hD : D.length = N) (hN : N ≤ 200) (h : PK s 512 D N t) : t.span 512 N = D := by
  apply List.ext_getElem (by rw [span_len]; exact hD.symm)
  intro i hi1 hi2
  rw [span_len] at hi1
  have hpg : ∀ j, j < D.length → (s.abs (pageOf (wrapAt 512 j))).isSome = true := fun j hj => by
    rw [← mem_abs, hs.ks]
    have : pageOf (wrapAt 512 j) = 512 := by unfold pageOf wrapAt; omega
    rw [this]
    exact List.mem_singleton.2 rfl
  have hg : t.get (wrapAt 512 i) = D.getD i 0 := by
    rw [get_getA, h.abs, pokesF_part s.abs 512 D 0 false none 0]
    exact pokes_get (full_of hm) ⟨512, D, 0, false, none, 0⟩ hpg (by show 512 + D.length ≤ 4294967296; omega) N (by show N ≤ D.length; omega) i hi1
  simp only [MS.span, List.getElem_map, List.getElem_range]
  rw [hg, List.getD_eq_getElem?_getD, List.getElem?_eq_getElem hi2, Option.getD_some]
/-- Between the rounds of CallReads. -/
structure RQ (inp : ByteArray) (l : List Int) (WS : SV) (w0 wr : World) (ns gq : Nat) (t : MS) (g i : Nat) (rd ev : Value) : Prop where
  st : Blk wr ns WS.c 26
  wd : Blk wr gq (cwC inp (g : Int) rd ((min i l.length : Nat) : Int) ev) 38
  rd : Fr wr 0 3 rd l.length (cI l)
  ev : Rw wr 2 ev 0 []
  mem : MemW wr t
  ft : ∀ b, foot t b → w0.heap.size ≤ b
  bel : Below w0.heap.size w0 wr
  sh : RS t
  c : t.c ≤ 4800 + 200 * i
  gs : g ≤ inp.size
/-- How many bytes the round reads. -/
def roundN (k : Nat) (inp : ByteArray) (g i : Nat) (l : List Int) : Nat := (takeN (k : Int) inp (g : Int) ((min i l.length : Nat) : Int) l).toNat
theorem roundN_eq (k : Nat) (inp : ByteArray) (g i : Nat) (l : List Int) : takeN (k : Int) inp (g : Int) ((min i l.length : Nat) : Int) l = ((roundN k inp g i l : Nat) : Int) := by
  have := takeN_range (show (0 : Int) ≤ (k : Int) by omega) inp (g : Int) ((min i l.length : Nat) : Int) l
  unfold roundN
  omega
theorem left_nat {inp : ByteArray} {g : Nat} (hg : g ≤ inp.size) : leftV inp (g : Int) = (inp.size : Int) - (g : Int) := by
  unfold leftV
  rw [if_neg (by omega), if_neg (by omega)]
theorem roundN_in {k : Nat} {inp : ByteArray} {g i : Nat} {l : List Int} (hg : g ≤ inp.size) (hi : i < l.length) : min (min (k : Int) ((inp.size : Int) - (g : Int))) (max (l.getD i 0) 1) = ((roundN k inp g i l : Nat) : Int) := by
  rw [← roundN_eq]
  unfold takeN
  have e : min i l.length = i := by omega
  rw [e, if_pos (by unfold hasB; rw [decide_eq_true (by omega), decide_eq_true (by omega)]; rfl), left_nat hg, Int.toNat_natCast]
  omega
theorem roundN_out {k : Nat} {inp : ByteArray} {g i : Nat} {l : List Int} (hg : g ≤ inp.size) (hi : ¬ i < l.length) : min (k : Int) ((inp.size : Int) - (g : Int)) = ((roundN k inp g i l : Nat) : Int) := by
  rw [← roundN_eq]
  unfold takeN
  have e : min i l.length = l.length := by omega
  rw [e, if_neg (by unfold hasB; rw [decide_eq_false (show ¬ ((l.length : Nat) : Int) < ((l.length : Nat) : Int) by omega), Bool.and_false]; decide), left_nat hg]
theorem takeU_next (i : Nat) (l : List Int) : takeU ((min i l.length : Nat) : Int) l = ((min (i + 1) l.length : Nat) : Int) := by
  unfold takeU
  by_cases hi : i < l.length
  · rw [if_pos (by unfold hasB; rw [decide_eq_true (by omega), decide_eq_true (by omega)]; rfl)]
    omega
  · have e : min i l.length = l.length := by omega
    rw [e, if_neg (by unfold hasB; rw [decide_eq_false (show ¬ ((l.length : Nat) : Int) < ((l.length : Nat) : Int) by omega), Bool.and_false]; decide)]
    omega
theorem reads_call {inp : ByteArray} {l : List Int} {w0 wr : World} {ns gq g i k : Nat} {t : MS} {rd ev : Value} (h : RQ inp l (rdS (k : Int)) w0 wr ns gq t g i rd ev) (hk : 1 ≤ k) (hk2 : k ≤ 200) (hl : l.length ≤ 100) (hin : inp.size ≤ 1000) (hi : i ≤ 108) : Calls Try.prog 13 #[.pointer (some ⟨t.mb, 0, none⟩), .agg (rdS (k : Int)).c, .agg (cwC inp (g : Int) rd ((min i l.length : Nat) : Int) ev)] wr fun x w' => ∃ rd' ev' t', x = .returned (.tuple #[.agg (SV.c (ansV (rdS (k : Int)) ((roundN k inp g i l : Nat) : Int) 0)), .agg (cwC inp ((g : Int) + ((roundN k inp g i l : Nat) : Int)) rd' ((min (i + 1) l.length : Nat) : Int) ev'), .int .i64 0, .int .u32 0]) ∧ Fr w' wr.heap.size 3 rd' l.length (cI l) ∧ Fr w' wr.heap.size 66 ev' 0 [] ∧ Step wr t w' t' ∧ RS t' ∧ t'.mb = t.mb ∧ t'.c ≤ t.c + 200 ∧ t'.span 512 (roundN k inp g i l) = (inp.extract g (g + roundN k inp g i l)).data.toList := by
  have g6 : (rdS (k : Int)).R.getD 6 0 = (k : Int) := rfl
  have g5 : (rdS (k : Int)).R.getD 5 0 = 512 := rfl
  have hok : (rdS (k : Int)).ok := rdS_ok (by omega) (by omega)
  have hno : refV t (rdS (k : Int)) true 2 = 0 := by
    unfold refV
    rw [if_neg (by decide), g6, g5, if_neg (by omega)]
    refine if_pos (mayB_yes fun j hj => ?_)
    rw [Int.toNat_natCast] at hj
    rw [h.sh.perm (show pageOf (wrapAt (512 : Int).toNat j) = 512 by show pageOf (wrapAt 512 j) = 512; unfold pageOf wrapAt; omega)]
    decide
  have hrn := roundN_eq k inp g i l
  have hrg := takeN_range (show (0 : Int) ≤ (k : Int) by omega) inp (g : Int) ((min i l.length : Nat) : Int) l
  rw [hrn, left_nat h.gs] at hrg
  obtain ⟨N, hN⟩ : ∃ N, roundN k inp g i l = N := ⟨_, rfl⟩
  rw [hN] at hrn hrg ⊢
  have hc := call_rd wr t h.mem (rdS (k : Int)) hok inp (g : Int) ((min i l.length : Nat) : Int) rd ev l [] (h.rd.rw (cI_len l)) h.ev (by omega) (by decide) rfl (ansV (rdS (k : Int)) (N : Int) 0) (ansV_len hok.1 _ _) (fun t' => PK t 512 (inp.extract g (g + N)).data.toList N t') (foot t) (fun _ h => h) ((g : Int) + (N : Int)) ((min (i + 1) l.length : Nat) : Int) (fun u rd1 ev1 hb2 hs2 f1 f2 => by
    obtain ⟨gr, _, er, kr⟩ := f1
    subst er
    have hy := read_yes u t (h.mem.later hb2) (by have := h.c; omega) (rdS (k : Int)) hok inp (g : Int) ((min i l.length : Nat) : Int) (some ⟨gr, 0, none⟩) l.length ev1 l (Fr.rw (N := 0) ⟨gr, Nat.zero_le _, rfl, kr⟩ (cI_len l)) f2.one (by omega) (by omega) rfl hno (by rw [g6]; omega)
    rw [g6, hrn, g5, takeU_next, Int.toNat_natCast, Int.toNat_natCast, show ((g : Int) + (N : Int)).toNat = g + N by omega] at hy
    exact hy.mono fun x w' hx => ⟨hx.1, by obtain ⟨t', h1, h2⟩ := hx.2; exact ⟨t', h1, h1.keep, h2⟩⟩)
  refine hc.mono ?_
  rintro x w' ⟨rd1, ev1, e1, f1, f2, t', hst, _, hpk⟩
  refine ⟨rd1, ev1, t', e1, f1, f2, hst, ⟨hpk.ks.trans h.sh.ks, (congrFun hpk.pm 512).trans h.sh.pm⟩, hpk.mb, by have := hpk.c; omega, rd_span h.mem h.sh ?_ (by omega) hpk⟩
  rw [Array.length_toList]
  show (inp.extract g (g + N)).size = N
  rw [ByteArray.size_extract]
  omega
theorem grow_got (inp : ByteArray) (g N : Nat) : inp.extract 0 g ++ (⟨((inp.extract g (g + N)).data.toList).toArray⟩ : ByteArray) = inp.extract 0 (g + N) := by
  rw [show (⟨((inp.extract g (g + N)).data.toList).toArray⟩ : ByteArray) = inp.extract g (g + N) from by rw [Array.toArray_toList]]
  exact (ByteArray.extract_eq_extract_append_extract g (Nat.zero_le _) (Nat.le_add_right _ _)).symm
end Go.Proofs.Ytodoenimlhldjaa
namespace Go.Proofs.Ytodoenimlhldjaa
open Go.ChangeShapes Go.WideShapes Go.ChangeAt Go.RowKit
set_option linter.unusedVariables false
theorem exec_addS {ρ : Operand → Value} {o : Oper} {x y : Operand} {A B : ByteArray} (hop : o.op = .binOp .add 9 x y 9) (hx : ρ x = .string A) (hy : ρ y = .string B) (hs : A.size + B.size ≤ 9223372036854775807) (w : World) : (execOp ρ o).run Try.prog w = .ok (.value (.string (A ++ B))) w := by
  unfold execOp
  rw [hop]
  have h2 : ¬ A.size + B.size > 9223372036854775807 := by omega
  simp [hx, hy, h2, go_sem]
theorem wpList_addS {ops : Array Oper} {rest : List Oper} {o : Oper} {a : Act} {w : World} {Q : Exit → Act → World → Prop} (hgd : o.guard = none) (x y : Operand) (ho : o.op = .binOp .add 9 x y 9) (A B : ByteArray) (hx : a.eval x = .string A) (hy : a.eval y = .string B) (hs : A.size + B.size ≤ 9223372036854775807)
    (h : wpList Try.prog ops Q rest (a.put o.dst (.string (A ++ B))) w) : wpList Try.prog ops Q (o :: rest) a w :=
  Great.wpList_runTo hgd o.dst rfl (.string (A ++ B)) w (exec_addS ho hx hy hs w) h
theorem make_B2 (w : World) : (Instr.makeSlice 50 (.int .i64 256) (.int .i64 256)).run Try.prog w = .ok (.slice (some ⟨w.heap.size, 0, none⟩) 256 256) (w.alloc (.cells (cellsU zeros).toArray 5)) := by kernel_rfl
theorem index_is3 (b off ln lc k : Nat) (hk : k < ln) (u : World) : (Instr.indexAt 27 (.slice (some ⟨b, off, none⟩) ln lc) (.int .i64 (k : Int))).run Try.prog u = .ok (.pointer (some ⟨b, off + k, none⟩)) u := index_is2 b off ln lc k hk u
theorem rw_at2 {w u : World} {lo : Option Addr} {ln lc k : Nat} {zs : List Int} (h : Rw w 1 (.slice lo ln lc) ln (cI zs)) (hl : zs.length = ln) (hk : k < ln) (hb : Below w.heap.size w u) : ∃ b off, lo = some ⟨b, off, none⟩ ∧ u.cell? ⟨b, off + k, none⟩ = some (.int .i64 (zs.getD k 0)) := by
  obtain ⟨_, ao, cap, e, h⟩ := h
  injection e with e1 e2 e3
  subst e1
  rcases h with h | ⟨b, off, e4, hlt, hc⟩
  · omega
  · refine ⟨b, off, e4, (hb.cell (p := ⟨b, off + k, none⟩) hlt).trans (hc k _ ?_)⟩
    unfold cI
    rw [List.getElem?_map, List.getElem?_eq_getElem (by omega), List.getD_eq_getElem?_getD, List.getElem?_eq_getElem (by omega)]
    rfl
set_option maxRecDepth 20000 in
set_option maxHeartbeats 3000000 in
theorem reads_walk (w : World) (inp : ByteArray) (lo : Option Addr) (zs : List Int) (lc : Nat) (hzs : Rw w 1 (.slice lo zs.length lc) zs.length (cI zs)) (hzl : zs.length ≤ 9223372036854775807) (y : Nat) (hy : y < 4294967296) : Calls Try.prog 4 #[.string inp, .slice lo zs.length lc, .int .u32 (y : Int)] w fun e w' => e = .returned (.bool true) ∧ Below w.heap.size w w' := by
  obtain ⟨z, hz⟩ : ∃ z, inp.size = z := ⟨_, rfl⟩
  obtain ⟨ln, hln⟩ : ∃ ln, zs.length = ln := ⟨_, rfl⟩
  have HZ := hidden hz
  have HLN := hidden hln
  have HZS := hidden hzs
  rw [hln] at HZS hzl ⊢
  clear hzs
  by_cases hb1 : 1000 < z
  · have h1 : (1000 : Int) < (z : Int) := by omega
    clear hb1 hln
    go_enter Try.func4, Try.ntmps4
    go_wp2_with (go_at_call 10; refine (awake12_any _).mono ?_; rintro e w1 ⟨rfl, hb⟩; have HB1 := hidden hb; clear hb)
    go_ret
    exact ⟨rfl, HB1.out⟩
  by_cases hb2 : 100 < ln
  · have h1 : ¬ (1000 : Int) < (z : Int) := by omega
    have h2 : (100 : Int) < (ln : Int) := by omega
    clear hb1 hb2 hln
    go_enter Try.func4, Try.ntmps4
    go_wp2_with (go_at_call 10; refine (awake12_any _).mono ?_; rintro e w1 ⟨rfl, hb⟩; have HB1 := hidden hb; clear hb)
    go_ret
    exact ⟨rfl, HB1.out⟩
  have h1 : ¬ (1000 : Int) < (z : Int) := by omega
  have h2 : ¬ (100 : Int) < (ln : Int) := by omega
  have HZB : Hid (z ≤ 1000 ∧ ln ≤ 100) := hidden ⟨by omega, by omega⟩
  have hz0 : (z : Int) ≤ 1000 := by omega
  have hl0 : (ln : Int) ≤ 100 := by omega
  obtain ⟨p, hp⟩ : ∃ p : Nat, ((y : Int)).tmod 200 = (p : Int) := ⟨y % 200, by rw [Int.tmod_eq_emod_of_nonneg (by omega)]; omega⟩
  have hp200 : (p : Int) < 200 := by
    have h := hp
    rw [Int.tmod_eq_emod_of_nonneg (by omega)] at h
    omega
  obtain ⟨k, hk⟩ : ∃ k : Nat, (1 : Int) + (p : Int) = (k : Int) := ⟨1 + p, by omega⟩
  have HK := hidden hk
  have HK2 : Hid (1 ≤ k ∧ k ≤ 200) := hidden ⟨by omega, by omega⟩
  have hk0 : (k : Int) ≤ 200 := by omega
  have hk1 : (0 : Int) ≤ (k : Int) := by omega
  obtain ⟨wa, hwa⟩ : ∃ wa, w.alloc (.cells (cellsU zeros).toArray 5) = wa := ⟨_, rfl⟩
  obtain ⟨gn, hgn⟩ : ∃ gn, w.heap.size = gn := ⟨_, rfl⟩
  have hmk : (Instr.makeSlice 50 (.int .i64 256) (.int .i64 256)).run Try.prog w = .ok (.slice (some ⟨gn, 0, none⟩) 256 256) wa := by rw [← hwa, ← hgn]; exact make_B2 w
  have hra : Row wa (some ⟨gn, 0, none⟩) zeros 256 := by rw [← hwa, ← hgn]; exact row_new w zeros (by intro h; have := zeros_l; rw [h] at this; cases this) (by rw [zeros_l]; decide)
  have hba : Below w.heap.size w wa := by rw [← hwa]; exact below_new w _
  clear hwa
  obtain ⟨wb, hwb⟩ : ∃ wb, wa.alloc (.cells #[.int .u32 512, .slice (some ⟨gn, 0, none⟩) 256 256, .int .i64 6, .bool false] 52) = wb := ⟨_, rfl⟩
  obtain ⟨pn, hpn⟩ : ∃ pn, wa.heap.size = pn := ⟨_, rfl⟩
  have hbb : Below wa.heap.size wa wb := by rw [← hwb]; exact below_new wa _
  have hpb : Pieces wb (some ⟨pn, 0, none⟩) [rdP (some ⟨gn, 0, none⟩)] := by
    have h := piece_new wa 512 (by omega) (some ⟨gn, 0, none⟩) zeros 256 6 false hra
    unfold partC at h
    rw [zeros_l] at h
    rw [← hwb, ← hpn]
    exact h
  have HBB := hidden (hba.trans (hbb.mono hba.size))
  have HME := hidden (memory_any wb (some ⟨pn, 0, none⟩) 1 [rdP (some ⟨gn, 0, none⟩)] hpb (by simp) (fun q hq => by rw [List.mem_singleton.1 hq]; exact (show zeros.length ≤ 600 by rw [zeros_l]; decide)))
  have HBP := hidden (buildPN 4 8)
  clear hra hba hbb hpb hk hb1 hb2 hln
  go_enter Try.func4, Try.ntmps4
  go_upto_region 4 with fail
  rw [HK.out]
  go_upto_region 5 with (first | (go_at_call 11; refine HME.out.mono ?_; rintro e w1 ⟨s, rfl, hown, habs, h64, h32, hts, hcc⟩; have HO := hidden hown; have HSH := hidden (rd_shape hown.mem habs); have HCC := hidden hcc; clear hown habs h64 h32 hts hcc))
  have HW1 := hidden (HBB.out.trans (HO.out.below.mono HBB.out.size))
  have HNEW : Hid (Calls Try.prog 21 #[.agg #[.string inp, .slice lo ln lc, .int .i64 0, .slice none 0 0, .int .i64 0, .string ⟨#[]⟩, .int .i64 0]] w1 fun e w' => ∃ rd1, e = .returned (.agg (cwC inp 0 rd1 0 (.slice none 0 0))) ∧ (cwC inp 0 rd1 0 (.slice none 0 0)).all (·.oneCell') = true ∧ Fr w' 0 3 rd1 zs.length (cI zs) ∧ Below w1.heap.size w1 w') := hidden ((cnew_any w1 #[.string inp, .slice lo ln lc, .int .i64 0, .slice none 0 0, .int .i64 0, .string ⟨#[]⟩, .int .i64 0] inp (.slice lo ln lc) zs rfl rfl rfl (by have h := HZS.out.later HW1.out; rw [← HLN.out] at h ⊢; exact h) (by have := HZB.out; have := HLN.out; omega)).mono fun e w' h => by
    obtain ⟨rd1, he, hf, hb⟩ := h
    exact ⟨rd1, he, cw_one hf.one rfl, hf.mono (Nat.zero_le _), hb⟩)
  go_upto_region 6 with (first
    | (go_at_call 21; refine HNEW.out.mono ?_; rintro e w2 ⟨rd1, rfl, h1, h2, hb⟩; have ONE := hidden h1; have RD := hidden h2; have B2 := hidden hb; clear h1 h2 hb)
    | (refine wpList_allocCw rfl rfl ?_; obtain ⟨gq, hgq⟩ : ∃ g, w2.heap.size = g := ⟨_, rfl⟩; rintro w3 k3 s3 b3; rw [hgq] at k3 s3 b3 ⊢; have K3 := hidden k3; have S3 := hidden s3; have B3 := hidden b3; clear k3 s3 b3)
    | (refine wpList_storeCw rfl rfl _ _ rfl gq zCw (cwC inp 0 rd1 0 (.slice none 0 0)) rfl rfl K3.out rfl rfl ONE.out ?_; rintro w4 k4 o4; have K4 := hidden k4; have B4 := hidden (Below.only B3.out o4 (Nat.le_refl gq)); have S4 : Hid (w4.heap.size = gq + 1) := hidden (o4.size.trans S3.out); clear k4 o4))
  have HGQ := hidden hgq
  have B2S := hidden B2.out.size
  obtain ⟨V0, hV0⟩ : ∃ V0, stPN 4 8 = V0 := ⟨_, rfl⟩
  have HV0 : Hid (V0.R.length = 32) := hidden (by rw [← hV0]; rfl)
  have HVA : Hid ({ V0 with R := ((V0.R.set 2 4003).set 5 512).set 6 (k : Int) } = rdS (k : Int)) := hidden (by rw [← hV0]; rfl)
  have HV2 : Hid ((V0.R.set 2 4003).length = 32) := hidden (by rw [← hV0]; rfl)
  have HV4 : Hid (((V0.R.set 2 4003).set 5 512).length = 32) := hidden (by rw [← hV0]; rfl)
  rw [hV0] at HBP
  have hi2 : ∀ u, (Instr.indexAt 24 (.pointer (some ⟨gq + 1, 0, none⟩)) (.int .i64 2)).run Try.prog u = .ok (.pointer (some ⟨gq + 1, 2, none⟩)) u := fun u => index_reg (gq + 1) 2 (by omega) u
  have hi5 : ∀ u, (Instr.indexAt 24 (.pointer (some ⟨gq + 1, 0, none⟩)) (.int .i64 5)).run Try.prog u = .ok (.pointer (some ⟨gq + 1, 5, none⟩)) u := fun u => index_reg (gq + 1) 5 (by omega) u
  have hi6 : ∀ u, (Instr.indexAt 24 (.pointer (some ⟨gq + 1, 0, none⟩)) (.int .i64 6)).run Try.prog u = .ok (.pointer (some ⟨gq + 1, 6, none⟩)) u := fun u => index_reg (gq + 1) 6 (by omega) u
  have L26 : Hid (2 < 32 ∧ 5 < 32 ∧ 6 < 32) := hidden (by decide)
  clear hV0 HNEW HME hgq
  go_upto_region 7 with (first
    | (refine wpList_buildJ HBP.out rfl rfl ?_)
    | (refine wpList_allocV rfl rfl ?_; rintro w5 k5 s5 b5; rw [S4.out] at k5 s5 b5 ⊢; have K5 := hidden k5; have S5 := hidden s5; have B5 := hidden b5; clear k5 s5 b5)
    | (refine wpList_storeV rfl rfl _ _ rfl (gq + 1) SV.zero V0 rfl rfl K5.out rfl HV0.out ?_; rintro w6 k6 o6; have K6 := hidden k6; have B6 := hidden (Below.only B5.out o6 (Nat.le_refl (gq + 1))); clear k6 o6 K5 B5))
  go_upto_region 9 with (first
    | (refine wpList_setR rfl rfl _ _ rfl (gq + 1) 2 V0 4003 rfl rfl K6.out HV0.out L26.out.1 ?_; rintro w7 k7 o7; have K7 := hidden k7; have B7 := hidden (Below.only B6.out o7 (Nat.le_refl (gq + 1))); clear k7 o7 K6 B6)
    | (refine wpList_setR rfl rfl _ _ rfl (gq + 1) 5 { V0 with R := V0.R.set 2 4003 } 512 rfl rfl K7.out HV2.out L26.out.2.1 ?_; rintro w8 k8 o8; have K8 := hidden k8; have B8 := hidden (Below.only B7.out o8 (Nat.le_refl (gq + 1))); clear k8 o8 K7 B7)
    | (refine wpList_setR rfl rfl _ _ rfl (gq + 1) 6 { V0 with R := (V0.R.set 2 4003).set 5 512 } (k : Int) rfl rfl K8.out HV4.out L26.out.2.2 ?_; rintro w9 k9 o9; rw [HVA.out] at k9; have K9 := hidden k9; have B9 := hidden (Below.only B8.out o9 (Nat.le_refl (gq + 1))); clear k9 o9 K8 B8))
  obtain ⟨mb, hmb⟩ : ∃ mb, s.mb = mb := ⟨_, rfl⟩
  have HMB := hidden hmb
  have HRQ : Hid (RQ inp zs (rdS (k : Int)) w w9 (gq + 1) gq s 0 0 rd1 (.slice none 0 0)) := hidden (by
    have hb49 : Below w4.heap.size w4 w9 := by rw [S4.out]; exact B9.out
    have hg2 : w2.heap.size = gq := HGQ.out
    have hb24 : Below w2.heap.size w2 w4 := by rw [hg2]; exact B4.out
    have hb29 : Below w2.heap.size w2 w9 := hb24.trans (hb49.mono hb24.size)
    have hb19 : Below w1.heap.size w1 w9 := B2.out.trans (hb29.mono B2.out.size)
    refine ⟨K9.out, ?_, RD.out.later hb29, rw_nil w9 2, HO.out.mem.later hb19, fun b hb => Nat.le_trans HBB.out.size (HO.out.foot b hb), HW1.out.trans (hb19.mono HW1.out.size), HSH.out, by have := HCC.out; omega, Nat.zero_le _⟩
    have h := (hb49.block gq (by rw [S4.out]; omega)).trans K4.out
    rw [show ((min 0 zs.length : Nat) : Int) = 0 by simp]
    exact h)
  rw [hmb]
  clear hmb HBP HV0 HVA HV2 HV4 L26 K3 K4 B2 B3 B4 S3 S4 S5 B9 K9 RD ONE HSH HCC HO HBB hi2 hi5 hi6 hwb hpn
  go_wp2
  go_loopw [11, 12] (fun x11 x12 wr => ∃ (g i : Nat) (t : MS) (rd ev : Value) (G : ByteArray), i ≤ ln + 8 ∧ x12 = .int .i64 (i : Int) ∧ x11 = .string G ∧ G = inp.extract 0 g ∧ t.mb = mb ∧ RQ inp zs (rdS (k : Int)) w wr (gq + 1) gq t g i rd ev) (fun _ x12 _ => ln + 8 - (intOf x12).toNat)
  case atStart => exact ⟨0, 0, s, rd1, .slice none 0 0, ⟨#[]⟩, by omega, rfl, rfl, (extract_nil inp 0).symm, HMB.out, HRQ.out⟩
  case round =>
    obtain ⟨g, i, t, rd, ev, G, hi, rfl, rfl, hG, hmbt, hrq⟩ := hrel
    have HR := hidden hrq
    have HGE := hidden hG
    have HMT := hidden hmbt
    have HI := hidden hi
    have hgz : (g : Int) ≤ (z : Int) := by have h := hrq.gs; rw [hz] at h; omega
    have hg0 : (0 : Int) ≤ (g : Int) := by omega
    have hgs : G.size = g := by
      rw [hG, ByteArray.size_extract]
      have h := hrq.gs
      omega
    clear hrq hG hmbt HRQ
    have hi0 : (i : Int) ≤ (ln : Int) + 8 := by omega
    by_cases hlt : i < ln + 8
    case neg =>
      have hl : ¬ (i : Int) < (ln : Int) + 8 := by omega
      have hsl : ∀ u, (Instr.slice 9 (.string inp) none (some (.int .i64 (g : Int))) none).run Try.prog u = .ok (.string G) u := fun u => by
        rw [run_slice_string_h u 9 inp (by kernel_rfl) .i64 (g : Int) hg0 (by have h := HR.out.gs; omega), HGE.out]
        rfl
      have c1 := HR.out.wd.cell (j := 1) rfl
      have HBW := hidden HR.out.bel
      clear hi
      go_wp2_with (go_at_call 10; refine (awake12_any _).mono ?_; rintro e w10 ⟨rfl, hb⟩; have HB1 := hidden hb; clear hb)
      go_ret
      exact ⟨rfl, HBW.out.trans (HB1.out.mono HBW.out.size)⟩
    have hl : (i : Int) < (ln : Int) + 8 := by omega
    have hcall := reads_call HR.out HK2.out.1 HK2.out.2 (by have := HZB.out; have := HLN.out; omega) (by rw [HZ.out]; exact HZB.out.1) (by have := HZB.out; omega)
    have hrin : i < ln → min (min (k : Int) ((z : Int) - (g : Int))) (max (zs.getD i 0) 1) = ((roundN k inp g i zs : Nat) : Int) := fun h => by
      have e := roundN_in (k := k) HR.out.gs (show i < zs.length by rw [HLN.out]; exact h)
      rw [HZ.out] at e
      exact e
    have hrout : ¬ i < ln → min (k : Int) ((z : Int) - (g : Int)) = ((roundN k inp g i zs : Nat) : Int) := fun h => by
      have e := roundN_out (k := k) HR.out.gs (show ¬ i < zs.length by rw [HLN.out]; exact h)
      rw [HZ.out] at e
      exact e
    have hNk : roundN k inp g i zs ≤ 200 ∧ g + roundN k inp g i zs ≤ z := by
      have e := takeN_range (show (0 : Int) ≤ (k : Int) by omega) inp (g : Int) ((min i zs.length : Nat) : Int) zs
      rw [roundN_eq, left_nat HR.out.gs, HZ.out] at e
      have := HK2.out
      have := HR.out.gs
      omega
    obtain ⟨N, hN⟩ : ∃ N, roundN k inp g i zs = N := ⟨_, rfl⟩
    rw [hN] at hcall hrin hrout hNk
    rw [HMT.out] at hcall
    have HNK := hidden hNk
    have hN0 : (N : Int) ≤ 200 := by omega
    have hN1 : (0 : Int) ≤ (N : Int) := by omega
    have HRI := hidden hrin
    have HRO := hidden hrout
    obtain ⟨us, hus⟩ : ∃ us : Nat, min i zs.length = us := ⟨_, rfl⟩
    have HUS := hidden hus
    rw [hus] at hcall
    obtain ⟨WS, hWS⟩ : ∃ WS, rdS (k : Int) = WS := ⟨_, rfl⟩
    have HWS := hidden hWS
    rw [hWS] at hcall
    have HWL : Hid (WS.R.length = 32) := hidden (by rw [← hWS]; rfl)
    have KWS : Hid (Blk wr (gq + 1) WS.c 26) := hidden (by rw [← hWS]; exact HR.out.st)
    have KWD : Hid (Blk wr gq (cwC inp (g : Int) rd (us : Int) ev) 38) := hidden (by rw [← hus]; exact HR.out.wd)
    have HCALL := hidden hcall
    have HVN : Hid ((ansV WS (N : Int) 0).R.length = 32) := hidden (ansV_len HWL.out _ _)
    obtain ⟨VN, hVN⟩ : ∃ VN, ansV WS (N : Int) 0 = VN := ⟨_, rfl⟩
    have HVE := hidden hVN
    rw [hVN] at HCALL HVN
    clear hi hcall hrin hrout hNk hN hus hWS hVN
    go_upto_region 13 with (first
      | (refine wpList_loadV rfl _ rfl (gq + 1) WS rfl KWS.out HWL.out ?_)
      | (refine wpList_loadCw rfl _ rfl gq (cwC inp (g : Int) rd (us : Int) ev) rfl KWD.out rfl ?_)
      | (go_at_call 13; refine HCALL.out.mono ?_; rintro e w11 ⟨rd2, ev2, t2, rfl, hf1, hf2, hst, hsh, hmb2, hc2, hsp⟩; have F1 := hidden (hf1.mono (Nat.zero_le _)); have F2 := hidden (hf2.mono (Nat.zero_le _)); have ST := hidden hst; have SH := hidden hsh; have MB2 := hidden hmb2; have C2 := hidden hc2; have SP2 := hidden hsp; clear hf1 hf2 hst hsh hmb2 hc2 hsp)
      | (refine wpList_allocV rfl rfl ?_; obtain ⟨na, hna⟩ : ∃ na, w11.heap.size = na := ⟨_, rfl⟩; rintro w12 k12 s12 b12; have B12 := hidden b12; rw [hna] at k12 s12 ⊢; have HNA := hidden hna; have K12 := hidden k12; have S12 := hidden s12; clear k12 s12 b12 hna)
      | (refine wpList_allocCw rfl rfl ?_; rintro w13 k13 s13 b13; have B13 := hidden b13; rw [S12.out] at k13 s13 ⊢; have K13 := hidden k13; clear k13 s13 b13)
      | (refine wpList_storeV rfl rfl _ _ rfl na SV.zero VN rfl rfl (K12.out.later B13.out) rfl HVN.out ?_; rintro w14 k14 o14; have K14 := hidden k14; have O14 := hidden o14; clear k14 o14)
      | (refine wpList_storeCw rfl rfl _ _ rfl (na + 1) zCw (cwC inp ((g : Int) + (N : Int)) rd2 ((min (i + 1) zs.length : Nat) : Int) ev2) rfl rfl (K13.out.only O14.out (Nat.succ_ne_self na)) rfl rfl (cw_one F1.out.one F2.out.one) ?_; rintro w15 k15 o15; have K15 := hidden k15; have O15 := hidden o15; clear k15 o15))
    have HB15 : Hid (Below w11.heap.size w11 w15) := hidden (by
      have b13 := B12.out.trans (B13.out.mono B12.out.size)
      exact Below.only (Below.only b13 O14.out (Nat.le_of_eq HNA.out)) O15.out (by rw [HNA.out]; exact Nat.le_succ na))
    have hk14 := K14.out.only O15.out (Nat.ne_of_lt (Nat.lt_succ_self na))
    have c2 : w15.cell? ⟨na, 2, none⟩ = some (.int .u32 (N : Int)) := by
      have h := hk14.cell (SV.getR HVN.out (show 2 < 32 by decide))
      rw [h, ← HVE.out, ← HWS.out]
      rfl
    have c7 : w15.cell? ⟨na, 7, none⟩ = some (.int .u32 0) := by
      have h := hk14.cell (SV.getR HVN.out (show 7 < 32 by decide))
      rw [h, ← HVE.out, ← HWS.out]
      rfl
    have HD : Hid (RQ inp zs WS w w15 (gq + 1) gq t2 g i rd ev → True) := hidden (fun _ => trivial)
    have HM15 := hidden (ST.out.mem.later HB15.out)
    have HF1 := hidden (F1.out.later HB15.out)
    have HE15 : Hid (Rw w15 2 ev2 0 []) := hidden (rw_nil_any (w' := w15) (F2.out.rw rfl))
    have hbw : Below w.heap.size w w11 := HR.out.bel.trans (ST.out.keep.below HR.out.bel.size HR.out.ft)
    have HBW := hidden (hbw.trans (HB15.out.mono hbw.size))
    have keep : ∀ b cs T, Blk wr b cs T → U4 T → Blk w15 b cs T := fun b cs T hb hT => (HB15.out.block b (Nat.lt_of_lt_of_le hb.lt ST.out.keep.size)).trans ((ST.out.keep.block b hb.lt (HR.out.mem.not_u4 hb hT)).trans hb)
    have KS15 := hidden (keep _ _ _ KWS.out (.inl rfl))
    have KQ15 := hidden (keep _ _ _ KWD.out (.inr (.inl rfl)))
    have HFT : Hid (∀ b, foot t2 b → w.heap.size ≤ b) := hidden (fun b hb => (ST.out.grow b hb).elim (HR.out.ft b) fun h => Nat.le_trans HR.out.bel.size h)
    have HCB := hidden (show t2.c ≤ 4800 + 200 * (i + 1) by have := C2.out; have := HR.out.c; omega)
    have HBY := hidden (fun (u : World) (hu : MemW u t2) => mbytes_any u t2 512 (N : Int) hu (by decide))
    have HCL : Hid (cutLen (N : Int) = N) := hidden (by unfold cutLen; omega)
    rw [HCL.out, span_len, MB2.out, SP2.out] at HBY
    obtain ⟨dl, hdl⟩ : ∃ dl, (inp.extract g (g + N)).data.toList = dl := ⟨_, rfl⟩
    have HDL := hidden hdl
    have HDN : Hid (dl.length = N) := hidden (by
      rw [← hdl, Array.length_toList]
      show (inp.extract g (g + N)).size = N
      rw [ByteArray.size_extract]
      have := HNK.out
      have := HZ.out
      omega)
    rw [hdl] at HBY
    have HNA1 : Hid (gq ≠ na + 1) := hidden (by have := KWD.out.lt; have := ST.out.keep.size; have := HNA.out; omega)
    clear hk14 keep hbw hdl K12 K13 K14 O14 O15 B12 B13 S12 F1 F2 HD KWS KWD HCALL SP2 C2
    by_cases hil : i < ln
    · have hili : (i : Int) < (ln : Int) := by omega
      obtain ⟨lb, lof, hlo, hzc⟩ := rw_at2 HZS.out HLN.out hil HBW.out
      subst hlo
      obtain ⟨q, hq⟩ : ∃ q, zs.getD i 0 = q := ⟨_, rfl⟩
      have hmin := HRI.out hil
      rw [hq] at hzc hmin
      have ixz : ∀ u, (Instr.indexAt 27 (.slice (some ⟨lb, lof, none⟩) ln lc) (.int .i64 (i : Int))).run Try.prog u = .ok (.pointer (some ⟨lb, lof + i, none⟩)) u := fun u => index_is3 lb lof ln lc i hil u
      have HMIN : Hid (min (k : Int) (min ((z : Int) - (g : Int)) (max q 1)) = (N : Int)) := hidden (by omega)
      clear hmin hq
      go_upto_region 16 with fail
      try rw [HMIN.out]
      go_upto_region 18 with fail
      have HADD : Hid (G.size + (⟨dl.toArray⟩ : ByteArray).size ≤ 9223372036854775807) := hidden (by have e : (⟨dl.toArray⟩ : ByteArray).size = N := HDN.out; have := HNK.out; rw [e, hgs]; have := HZB.out; omega)
      go_upto_region 19 with (first
        | (go_at_call 22; refine (HBY.out _ HM15.out).mono ?_; rintro e w16 ⟨ao, rfl, hrow, b16⟩; have LI := hidden hrow.lies; have B16 := hidden b16; clear hrow b16)
        | (refine wpList_str rfl _ rfl dl ao N N HDN.out rfl LI.out ?_)
        | (refine wpList_addS rfl _ _ rfl G ⟨dl.toArray⟩ rfl rfl HADD.out ?_))
      go_wp2_with (first
        | (refine wpList_loadCw rfl _ rfl (na + 1) (cwC inp ((g : Int) + (N : Int)) rd2 ((min (i + 1) zs.length : Nat) : Int) ev2) rfl (K15.out.later B16.out) rfl ?_)
        | (refine wpList_storeCw rfl rfl _ _ rfl gq (cwC inp (g : Int) rd (us : Int) ev) (cwC inp ((g : Int) + (N : Int)) rd2 ((min (i + 1) zs.length : Nat) : Int) ev2) rfl rfl (KQ15.out.later B16.out) rfl rfl (cw_one HF1.out.one (Rw.one HE15.out)) ?_; rintro w17 k17 o17; have K17 := hidden k17; have O17 := hidden o17; clear k17 o17))
      go_roundw
      case rel =>
        refine ⟨g + N, i + 1, t2, rd2, ev2, _, by omega, by first | rfl | simp, rfl, ?_, MB2.out, ?_⟩
        · rw [HGE.out, ← HDL.out]
          exact grow_got inp g N
        · have hm16 := HM15.out.later B16.out
          have hk16 := KQ15.out.later B16.out
          refine ⟨?_, ?_, ?_, rw_nil_any (w' := w17) HE15.out, hm16.same fun b hb => O17.out.block b (fun e => by subst e; exact hm16.not_u4 hk16 (.inr (.inl rfl)) hb), HFT.out, ?_, SH.out, HCB.out, ?_⟩
          · have h := (KS15.out.later B16.out).only O17.out (Nat.succ_ne_self gq)
            rw [HWS.out]
            exact h
          · rw [show ((g + N : Nat) : Int) = (g : Int) + (N : Int) by omega]
            exact K17.out
          · obtain ⟨gr, h0, er, kr⟩ := HF1.out.later B16.out
            exact ⟨gr, h0, er, kr.only O17.out (blk_tne kr hk16 (by decide))⟩
          · exact Below.only (HBW.out.trans (B16.out.mono HBW.out.size)) O17.out (by rw [← HGQ.out]; exact Nat.le_trans HW1.out.size B2S.out)
          · have := HNK.out
            have := HZ.out
            omega
      case measure => simp [intOf]; omega
    · have hili : ¬ (i : Int) < (ln : Int) := by omega
      have HMIN := hidden (HRO.out hil)
      go_upto_region 16 with fail
      try rw [HMIN.out]
      go_upto_region 18 with fail
      have HADD : Hid (G.size + (⟨dl.toArray⟩ : ByteArray).size ≤ 9223372036854775807) := hidden (by have e : (⟨dl.toArray⟩ : ByteArray).size = N := HDN.out; have := HNK.out; rw [e, hgs]; have := HZB.out; omega)
      go_upto_region 19 with (first
        | (go_at_call 22; refine (HBY.out _ HM15.out).mono ?_; rintro e w16 ⟨ao, rfl, hrow, b16⟩; have LI := hidden hrow.lies; have B16 := hidden b16; clear hrow b16)
        | (refine wpList_str rfl _ rfl dl ao N N HDN.out rfl LI.out ?_)
        | (refine wpList_addS rfl _ _ rfl G ⟨dl.toArray⟩ rfl rfl HADD.out ?_))
      go_wp2_with (first
        | (refine wpList_loadCw rfl _ rfl (na + 1) (cwC inp ((g : Int) + (N : Int)) rd2 ((min (i + 1) zs.length : Nat) : Int) ev2) rfl (K15.out.later B16.out) rfl ?_)
        | (refine wpList_storeCw rfl rfl _ _ rfl gq (cwC inp (g : Int) rd (us : Int) ev) (cwC inp ((g : Int) + (N : Int)) rd2 ((min (i + 1) zs.length : Nat) : Int) ev2) rfl rfl (KQ15.out.later B16.out) rfl rfl (cw_one HF1.out.one (Rw.one HE15.out)) ?_; rintro w17 k17 o17; have K17 := hidden k17; have O17 := hidden o17; clear k17 o17))
      go_roundw
      case rel =>
        refine ⟨g + N, i + 1, t2, rd2, ev2, _, by omega, by first | rfl | simp, rfl, ?_, MB2.out, ?_⟩
        · rw [HGE.out, ← HDL.out]
          exact grow_got inp g N
        · have hm16 := HM15.out.later B16.out
          have hk16 := KQ15.out.later B16.out
          refine ⟨?_, ?_, ?_, rw_nil_any (w' := w17) HE15.out, hm16.same fun b hb => O17.out.block b (fun e => by subst e; exact hm16.not_u4 hk16 (.inr (.inl rfl)) hb), HFT.out, ?_, SH.out, HCB.out, ?_⟩
          · have h := (KS15.out.later B16.out).only O17.out (Nat.succ_ne_self gq)
            rw [HWS.out]
            exact h
          · rw [show ((g + N : Nat) : Int) = (g : Int) + (N : Int) by omega]
            exact K17.out
          · obtain ⟨gr, h0, er, kr⟩ := HF1.out.later B16.out
            exact ⟨gr, h0, er, kr.only O17.out (blk_tne kr hk16 (by decide))⟩
          · exact Below.only (HBW.out.trans (B16.out.mono HBW.out.size)) O17.out (by rw [← HGQ.out]; exact Nat.le_trans HW1.out.size B2S.out)
          · have := HNK.out
            have := HZ.out
            omega
      case measure => simp [intOf]; omega
end Go.Proofs.Ytodoenimlhldjaa

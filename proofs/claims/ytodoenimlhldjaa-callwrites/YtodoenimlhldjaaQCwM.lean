/- CallWrites, walked. -/
import Derived.Test.YtodoenimlhldjaaQCwL
import Derived.Deep.QuietTactic
import Derived.BigQuiet
namespace Go.Proofs.Ytodoenimlhldjaa
open Go.ChangeShapes Go.WideShapes Go.ChangeAt Go.RowKit
set_option linter.unusedVariables false
theorem cw_one2 {w : World} {rd ev : Value} {m n z N M : Nat} {T U : TypeId} {cs ds : List Value} (h : Fr w N T rd m cs) (h2 : w.ownsRow M U z ev n ds) : (cwC ⟨#[]⟩ 0 rd 0 ev).all (·.oneCell') = true := by
  obtain ⟨g, _, er, _⟩ := h
  obtain ⟨_, ⟨ee, _⟩ | ⟨g2, c2, cur, ee, _⟩⟩ := h2
  · rw [er, ee]; exact cw_one rfl rfl
  · rw [er, ee]; exact cw_one rfl rfl
theorem ev_cells {w : World} {k : Nat} {v : Value} {L : List (Int × ByteArray)} {fd : Int} {D : ByteArray} (h : w.ownsRow 0 66 2 v (k + 1) (cE (L ++ [(fd, D)]))) (hl : L.length = k) : ∃ g cap, v = .slice (some ⟨g, 0, none⟩) (k + 1) cap ∧ w.cell? ⟨g, k * 2, none⟩ = some (.int .u32 fd) ∧ w.cell? ⟨g, k * 2 + 1, none⟩ = some (.string D) := by
  obtain ⟨_, h | ⟨g, cap, cur, e, _, hk, _, _, hcz, htk⟩⟩ := h
  · exact absurd h.2 (by omega)
  · have hg : ∀ j u, j < (k + 1) * 2 → (cE (L ++ [(fd, D)]))[j]? = some u → w.cell? ⟨g, j, none⟩ = some u := fun j u hj hu => Blk.cell hk (by
      rw [← Array.getElem?_toList, ← List.getElem?_take_of_lt hj, htk]
      exact hu)
    have hE : (cE L).length = k * 2 := by rw [cE_len, hl]
    refine ⟨g, cap, e, hg _ _ (by omega) ?_, hg _ _ (by omega) ?_⟩
    · rw [cE_snoc, List.getElem?_append_right (by omega), hE, Nat.sub_self]
      rfl
    · rw [cE_snoc, List.getElem?_append_right (by omega), hE, show k * 2 + 1 - k * 2 = 1 by omega]
      rfl
theorem cut_run (b off dn cap fr kk : Nat) (h1 : fr + kk ≤ dn) (h2 : dn ≤ cap) (h3 : fr < dn) (u : World) : (Instr.sliceAt 50 (.slice (some ⟨b, off, none⟩) dn cap) (some (.int .i64 (fr : Int))) (some (.int .i64 ((fr : Int) + (kk : Int)))) none).run Try.prog u = .ok (.slice (some ⟨b, off + fr, none⟩) kk (cap - fr)) u := by
  have hs : (Try.prog.info? 5).map (·.size) = some 1 := by kernel_rfl
  rw [run_sliceAt_slice u 50 _ _ _ _ (by kernel_rfl), run_slice_lh u 50 _ dn cap (by kernel_rfl) .i64 .i64 (fr : Int) ((fr : Int) + (kk : Int)) (by omega) (by omega) (by omega)]
  cases hq : Try.prog.info? 5 with
  | none => simp [hq] at hs
  | some i =>
    have hs2 : i.size = 1 := by simpa [hq] using hs
    have e1 : ((fr : Int) + (kk : Int)).toNat - fr = kk := by omega
    have e2 : ¬ cap = fr := by omega
    simp [sizeOf, typeInfo, hq, hs2, sliced, Addr.add_lit, e1, e2, go_sem]
theorem index_ev (b n cap k : Nat) (hk : k < n) (u : World) : (Instr.indexAt 28 (.slice (some ⟨b, 0, none⟩) n cap) (.int .i64 (k : Int))).run Try.prog u = .ok (.pointer (some ⟨b, k * 2, none⟩)) u := by
  have hs : (Try.prog.info? 66).map (·.size) = some 2 := by kernel_rfl
  cases hq : Try.prog.info? 66 with
  | none => simp [hq] at hs
  | some i =>
    have hs2 : i.size = 2 := by simpa [hq] using hs
    simp [Instr.indexAt, run_underlying Try.underlying28, sizeOf, typeInfo, hq, hs2, hk, Addr.add_lit, go_sem]
theorem lies_cut {w : World} {b off : Nat} {da : List UInt8} {fr kk : Nat} (h : Lies w (some ⟨b, off, none⟩) da) (hk : fr + kk ≤ da.length) : Lies w (some ⟨b, off + fr, none⟩) ((da.drop fr).take kk) := by
  rcases h with h | ⟨b2, o2, e, hc⟩
  · left
    subst h
    simp
  · injection e with e
    injection e with e1 e2
    subst e1 e2
    refine .inr ⟨_, _, rfl, fun j hj => ?_⟩
    have hj2 : j < kk := by simp at hj; omega
    have h1 := hc (fr + j) (by omega)
    rw [Nat.add_assoc, h1]
    simp [List.getD_eq_getElem?_getD, List.getElem?_take_of_lt hj2, List.getElem?_drop]
/-- What the round looks at. -/
structure WC (w : World) (g g2 ge k : Nat) (kk fd : Int) (D : ByteArray) (ev : Value) : Prop where
  c2 : w.cell? ⟨g, 2, none⟩ = some (.int .u32 kk)
  c7 : w.cell? ⟨g, 7, none⟩ = some (.int .u32 0)
  ce : w.cell? ⟨g2, 4, none⟩ = some ev
  d0 : w.cell? ⟨ge, k * 2, none⟩ = some (.int .u32 fd)
  d1 : w.cell? ⟨ge, k * 2 + 1, none⟩ = some (.string D)
theorem own_slice {w : World} {N z m : Nat} {T : TypeId} {v : Value} {cs : List Value} (h : w.ownsRow N T z v m cs) : ∃ ao cap, v = .slice ao m cap := by
  obtain ⟨_, ⟨e, e2⟩ | ⟨g, cap, _, e, _⟩⟩ := h
  · exact ⟨none, 0, by rw [e, e2]⟩
  · exact ⟨_, cap, e⟩
theorem rw_at {w u : World} {lo : Option Addr} {ln lc k : Nat} {zs : List Int} (h : Rw w 1 (.slice lo ln lc) ln (cI zs)) (hl : zs.length = ln) (hk : k < ln) (hb : Below w.heap.size w u) : ∃ b off z, lo = some ⟨b, off, none⟩ ∧ u.cell? ⟨b, off + k, none⟩ = some (.int .i64 z) := by
  obtain ⟨_, ao, cap, e, h⟩ := h
  injection e with e1 e2 e3
  subst e1
  rcases h with h | ⟨b, off, e4, hlt, hc⟩
  · omega
  · refine ⟨b, off, zs.getD k 0, e4, (hb.cell (p := ⟨b, off + k, none⟩) hlt).trans (hc k _ ?_)⟩
    unfold cI
    rw [List.getElem?_map, List.getElem?_eq_getElem (by omega), List.getD_eq_getElem?_getD, List.getElem?_eq_getElem (by omega)]
    rfl
theorem index_is (b off ln lc k : Nat) (hk : k < ln) (u : World) : (Instr.indexAt 27 (.slice (some ⟨b, off, none⟩) ln lc) (.int .i64 (k : Int))).run Try.prog u = .ok (.pointer (some ⟨b, off + k, none⟩)) u := by
  have hs : (Try.prog.info? 3).map (·.size) = some 1 := by kernel_rfl
  cases hq : Try.prog.info? 3 with
  | none => simp [hq] at hs
  | some i =>
    have hs2 : i.size = 1 := by simpa [hq] using hs
    simp [Instr.indexAt, run_underlying Try.underlying27, sizeOf, typeInfo, hq, hs2, hk, Addr.add_lit, go_sem]
set_option maxRecDepth 20000 in
set_option maxHeartbeats 3000000 in
theorem writes_walk (w : World) (bo : Option Addr) (da : List UInt8) (cap : Nat) (hda : Row w bo da cap) (lo : Option Addr) (zs : List Int) (lc : Nat) (hzs : Rw w 1 (.slice lo zs.length lc) zs.length (cI zs)) (hzl : zs.length ≤ 9223372036854775807) : Calls Try.prog 7 #[.slice bo da.length cap, .slice lo zs.length lc] w fun e w' => e = .returned (.bool true) ∧ Below w.heap.size w w' := by
  obtain ⟨dn, hdn⟩ : ∃ dn, da.length = dn := ⟨_, rfl⟩
  obtain ⟨ln, hln⟩ : ∃ ln, zs.length = ln := ⟨_, rfl⟩
  have HDN := hidden hdn
  have HLN := hidden hln
  rw [hdn, hln]
  have HDA := hidden hda
  have HZS := hidden hzs
  rw [hln] at HZS hzl
  have HZL := hidden hzl
  clear hda hzs hzl
  by_cases hbig : 200 < dn
  · have h200 : (200 : Int) < (dn : Int) := by omega
    clear hdn hln
    go_enter Try.func7, Try.ntmps7
    go_wp2_with (go_at_call 10; refine (awake12_any _).mono ?_; rintro e w1 ⟨rfl, hb⟩; have HB1 := hidden hb; clear hb)
    go_ret
    exact ⟨rfl, HB1.out⟩
  by_cases hzero : dn = 0
  · subst hzero
    clear hdn hln
    go_enter Try.func7, Try.ntmps7
    go_wp2_with (go_at_call 10; refine (awake12_any _).mono ?_; rintro e w1 ⟨rfl, hb⟩; have HB1 := hidden hb; clear hb)
    go_ret
    exact ⟨rfl, HB1.out⟩
  obtain ⟨b0, o0, hbo⟩ : ∃ b0 o0, bo = some ⟨b0, o0, none⟩ := by
    rcases HDA.out.lies with h | ⟨b0, o0, e, _⟩
    · rw [h] at hdn; simp at hdn; omega
    · exact ⟨b0, o0, e⟩
  subst hbo
  have HCAP : Hid (dn ≤ cap) := hidden (by rw [← hdn]; exact HDA.out.len)
  have h200 : ¬ (200 : Int) < (dn : Int) := by omega
  have h00 : ¬ dn = 0 := hzero
  have HD2 : Hid (dn ≤ 200 ∧ 1 ≤ dn) := hidden ⟨by omega, by omega⟩
  obtain ⟨wb, hwb⟩ : ∃ wb, w.alloc (.cells #[.int .u32 1024, .slice (some ⟨b0, o0, none⟩) dn cap, .int .i64 4, .bool false] 52) = wb := ⟨_, rfl⟩
  obtain ⟨pn, hpn⟩ : ∃ pn, w.heap.size = pn := ⟨_, rfl⟩
  have hpb : Pieces wb (some ⟨pn, 0, none⟩) [wrP da (some ⟨b0, o0, none⟩) cap] := by rw [← hwb, ← hpn, ← hdn]; exact piece_new w 1024 (by omega) (some ⟨b0, o0, none⟩) da cap 4 false HDA.out
  have HBB : Hid (Below w.heap.size w wb) := hidden (by rw [← hwb]; exact below_new w _)
  have HME := hidden (memory_any wb (some ⟨pn, 0, none⟩) 1 [wrP da (some ⟨b0, o0, none⟩) cap] hpb (by simp) (by simp [wrP]; omega))
  clear hpb hdn hln hbig hzero
  go_enter Try.func7, Try.ntmps7
  go_upto_region 4 with (first | (go_at_call 11; refine HME.out.mono ?_; rintro e w1 ⟨s, rfl, hown, habs, h64, h32, hts, hcc⟩; have HO := hidden hown; have HAB := hidden habs; clear hown habs h64 h32 hts hcc))
  have HNEW : Hid (Calls Try.prog 21 #[.agg #[.string ⟨#[]⟩, .slice none 0 0, .int .i64 0, .slice none 0 0, .int .i64 0, .string ⟨#[]⟩, .int .i64 0]] w1 fun e w' => ∃ rd1, e = .returned (.agg (cwC ⟨#[]⟩ 0 rd1 0 (.slice none 0 0))) ∧ (cwC ⟨#[]⟩ 0 rd1 0 (.slice none 0 0)).all (·.oneCell') = true ∧ Rw w' 1 rd1 0 [] ∧ Below w1.heap.size w1 w') := hidden ((cnew_any w1 zSc ⟨#[]⟩ (.slice none 0 0) [] rfl rfl rfl (rw_nil w1 1) (by decide)).mono fun e w' h => by
    obtain ⟨rd1, he, hf, hb⟩ := h
    exact ⟨rd1, he, cw_one hf.one rfl, hf.rw (cI_len []), hb⟩)
  go_upto_region 5 with (first
    | (go_at_call 21; refine HNEW.out.mono ?_; rintro e w2 ⟨rd1, rfl, h1, h2, hb⟩; have ONE := hidden h1; have RD := hidden h2; have B2 := hidden hb; clear h1 h2 hb)
    | (refine wpList_allocCw rfl rfl ?_; obtain ⟨gq, hgq⟩ : ∃ g, w2.heap.size = g := ⟨_, rfl⟩; rintro w3 k3 s3 b3; rw [hgq] at k3 s3 ⊢; have K3 := hidden k3; have B3 := hidden b3; clear k3 s3 b3)
    | (refine wpList_storeCw rfl rfl _ _ rfl gq zCw (cwC ⟨#[]⟩ 0 rd1 0 (.slice none 0 0)) rfl rfl K3.out rfl rfl ONE.out ?_; rintro w4 k4 o4; have K4 := hidden k4; have B4 := hidden (Below.only B3.out o4 (Nat.le_of_eq hgq)); clear k4 o4))
  have HWI : Hid (WI w2 w4 gq 0 rd1 (.slice none 0 0) []) := hidden ⟨K4.out, rw_nil_any RD.out, World.ownsRow_nil w4 0 66 2, rfl, B4.out⟩
  have HMW := hidden (HO.out.mem.later B2.out)
  have HW2 := hidden (show Below w.heap.size w w2 from HBB.out.trans ((HO.out.below.mono HBB.out.size).trans (B2.out.mono (Nat.le_trans HBB.out.size HO.out.below.size))))
  obtain ⟨mb, hmb⟩ : ∃ mb, s.mb = mb := ⟨_, rfl⟩
  have HMB := hidden hmb
  rw [hmb]
  have HGQ := hidden hgq
  clear HNEW HME HO B2 K3 B3 K4 B4 RD ONE hwb hpn hmb hgq HBB
  go_wp2
  go_loopw [7, 8] (fun x7 x8 wr => ∃ (k : Nat) (rd ev : Value) (L : List (Int × ByteArray)), k ≤ 20 ∧ x7 = .int .i64 (k : Int) ∧ x8 = .int .i64 (k : Int) ∧ WI w2 wr gq k rd ev L) (fun _ x8 _ => 20 - (intOf x8).toNat)
  case atStart => exact ⟨0, rd1, .slice none 0 0, [], by omega, rfl, rfl, HWI.out⟩
  case round =>
    obtain ⟨k, rd, ev, L, hk, rfl, rfl, hwi⟩ := hrel
    have HI := hidden hwi
    have HK := hidden hk
    obtain ⟨eo, ec, hev⟩ := own_slice hwi.ev
    have ce : wr.cell? ⟨gq, 4, none⟩ = some (.slice eo k ec) := by rw [← hev]; exact hwi.c.cell rfl
    have HEV := hidden hev
    clear hwi hev
    have HWR := hidden (HW2.out.trans (HI.out.bel.mono HW2.out.size))
    by_cases h1 : (k : Int) < (ln : Int)
    case neg =>
      clear hk
      go_wp2_with (go_at_call 10; refine (awake12_any _).mono ?_; rintro e w5 ⟨rfl, hb⟩; have HB1 := hidden hb; clear hb)
      go_ret
      exact ⟨rfl, HWR.out.trans (HB1.out.mono HWR.out.size)⟩
    by_cases h2 : (k : Int) < 20
    case neg =>
      clear hk
      go_wp2_with (go_at_call 10; refine (awake12_any _).mono ?_; rintro e w5 ⟨rfl, hb⟩; have HB1 := hidden hb; clear hb)
      go_ret
      exact ⟨rfl, HWR.out.trans (HB1.out.mono HWR.out.size)⟩
    have hkl : k < ln := by omega
    obtain ⟨lb, lof, z, hlo, hz⟩ := rw_at HZS.out HLN.out hkl HWR.out
    subst hlo
    have HPA := hidden (fun (y : Int) (u : World) => place_any y (dn : Int) (by have := HD2.out; omega) (by have := HD2.out; omega) u)
    have ixz : ∀ u, (Instr.indexAt 27 (.slice (some ⟨lb, lof, none⟩) ln lc) (.int .i64 (k : Int))).run Try.prog u = .ok (.pointer (some ⟨lb, lof + k, none⟩)) u := fun u => index_is lb lof ln lc k hkl u
    go_upto_region 10 with (first | (go_at_call 23; refine (HPA.out _ _).mono ?_; rintro e w9 ⟨rfl, hww⟩; rw [hww]; clear hww w9))
    obtain ⟨fr, hfr⟩ : ∃ fr : Nat, z % (dn : Int) = (fr : Int) := ⟨(z % (dn : Int)).toNat, by have := Int.emod_nonneg z (show (dn : Int) ≠ 0 by omega); omega⟩
    have hfl : (fr : Int) < (dn : Int) := by have := Int.emod_lt_of_pos z (show (0 : Int) < (dn : Int) by omega); omega
    rw [hfr]
    clear hfr HPA
    have HPB := hidden (fun (y : Int) (u : World) => place_any y ((dn : Int) - (fr : Int) + 1) (by omega) (by omega) u)
    go_upto_region 11 with (first | (go_at_call 23; refine (HPB.out _ _).mono ?_; rintro e w9 ⟨rfl, hww⟩; rw [hww]; clear hww w9))
    generalize wrap64 (z.tdiv 256) = y
    obtain ⟨kk, hkk⟩ : ∃ kk : Nat, y % ((dn : Int) - (fr : Int) + 1) = (kk : Int) := ⟨(y % ((dn : Int) - (fr : Int) + 1)).toNat, by have := Int.emod_nonneg y (show (dn : Int) - (fr : Int) + 1 ≠ 0 by omega); omega⟩
    have hkb : (kk : Int) ≤ (dn : Int) - (fr : Int) := by have := Int.emod_lt_of_pos y (show (0 : Int) < (dn : Int) - (fr : Int) + 1 by omega); omega
    rw [hkk]
    clear hkk HPB
    obtain ⟨p2, hp2⟩ : ∃ p2, (k : Int).tmod 2 = p2 := ⟨_, rfl⟩
    have hp4 : p2 = (k : Int) % 2 := hp2.symm.trans (Int.tmod_eq_emod_of_nonneg (by omega))
    have hp3 : p2 = 0 ∨ p2 = 1 := by omega
    have hp0 : 0 ≤ p2 := by omega
    have hp1 : p2 ≤ 1 := by omega
    have HP3 := hidden hp3
    clear hp4
    obtain ⟨ns, hns⟩ : ∃ ns, wr.heap.size = ns := ⟨_, rfl⟩
    have HNS := hidden hns
    have hi2 : ∀ u, (Instr.indexAt 24 (.pointer (some ⟨ns, 0, none⟩)) (.int .i64 2)).run Try.prog u = .ok (.pointer (some ⟨ns, 2, none⟩)) u := fun u => index_reg ns 2 (by omega) u
    have hi4 : ∀ u, (Instr.indexAt 24 (.pointer (some ⟨ns, 0, none⟩)) (.int .i64 4)).run Try.prog u = .ok (.pointer (some ⟨ns, 4, none⟩)) u := fun u => index_reg ns 4 (by omega) u
    have hi5 : ∀ u, (Instr.indexAt 24 (.pointer (some ⟨ns, 0, none⟩)) (.int .i64 5)).run Try.prog u = .ok (.pointer (some ⟨ns, 5, none⟩)) u := fun u => index_reg ns 5 (by omega) u
    have hi6 : ∀ u, (Instr.indexAt 24 (.pointer (some ⟨ns, 0, none⟩)) (.int .i64 6)).run Try.prog u = .ok (.pointer (some ⟨ns, 6, none⟩)) u := fun u => index_reg ns 6 (by omega) u
    have L26 : Hid (2 < 32 ∧ 4 < 32 ∧ 5 < 32 ∧ 6 < 32) := hidden (by decide)
    have HBP := hidden (buildPN 4 8)
    obtain ⟨V0, hV0⟩ : ∃ V0, stPN 4 8 = V0 := ⟨_, rfl⟩
    have HV0 : Hid (V0.R.length = 32) := hidden (by rw [← hV0]; rfl)
    have HVA : Hid (∀ fd a k : Int, { V0 with R := (((V0.R.set 2 4004).set 4 fd).set 5 a).set 6 k } = wrS fd a k) := hidden (by rw [← hV0]; intros; rfl)
    have HV2 : Hid ((V0.R.set 2 4004).length = 32) := hidden (by rw [← hV0]; rfl)
    have HV4 : Hid (∀ fd : Int, ((V0.R.set 2 4004).set 4 fd).length = 32) := hidden (by rw [← hV0]; intros; rfl)
    have HV5 : Hid (∀ fd a : Int, (((V0.R.set 2 4004).set 4 fd).set 5 a).length = 32) := hidden (by rw [← hV0]; intros; rfl)
    rw [hV0] at HBP
    clear hV0 hp3 hns
    go_upto_region 12 with (first
      | (refine wpList_buildJ HBP.out rfl rfl ?_)
      | (refine wpList_allocV rfl rfl ?_; rintro w5 k5 s5 b5; rw [HNS.out] at k5 s5 b5 ⊢; have K5 := hidden k5; have B5 := hidden b5; clear k5 s5 b5)
      | (refine wpList_storeV rfl rfl _ _ rfl ns SV.zero V0 rfl rfl K5.out rfl HV0.out ?_; rintro w6 k6 o6; have K6 := hidden k6; have B6 := hidden (Below.only B5.out o6 (Nat.le_refl ns)); clear k6 o6 K5 B5))
    go_upto_region 13 with (first
      | (refine wpList_setR rfl rfl _ _ rfl ns 2 V0 4004 rfl rfl K6.out HV0.out L26.out.1 ?_; rintro w7 k7 o7; have K7 := hidden k7; have B7 := hidden (Below.only B6.out o7 (Nat.le_refl ns)); clear k7 o7)
      | (refine wpList_setR rfl rfl _ _ rfl ns 4 { V0 with R := V0.R.set 2 4004 } (1 + p2) rfl rfl K7.out HV2.out L26.out.2.1 ?_; rintro w8 k8 o8; have K8 := hidden k8; have B8 := hidden (Below.only B7.out o8 (Nat.le_refl ns)); clear k8 o8)
      | (refine wpList_setR rfl rfl _ _ rfl ns 5 { V0 with R := (V0.R.set 2 4004).set 4 (1 + p2) } (1024 + (fr : Int)) rfl rfl K8.out (HV4.out _) L26.out.2.2.1 ?_; rintro w9 k9 o9; have K9 := hidden k9; have B9 := hidden (Below.only B8.out o9 (Nat.le_refl ns)); clear k9 o9)
      | (refine wpList_setR rfl rfl _ _ rfl ns 6 { V0 with R := ((V0.R.set 2 4004).set 4 (1 + p2)).set 5 (1024 + (fr : Int)) } (kk : Int) rfl rfl K9.out (HV5.out _ _) L26.out.2.2.2 ?_; rintro w10 k10 o10; rw [HVA.out] at k10; have K10 := hidden k10; have B10 := hidden (Below.only B9.out o10 (Nat.le_refl ns)); clear k10 o10))
    have HB10 := hidden (show Below wr.heap.size wr w10 from by rw [HNS.out]; exact B10.out)
    have KQ := hidden (HI.out.c.later HB10.out)
    obtain ⟨D, hD⟩ : ∃ D, (⟨((da.drop fr).take kk).toArray⟩ : ByteArray) = D := ⟨_, rfl⟩
    have HD := hidden hD
    have HFK : Hid (fr + kk ≤ da.length) := hidden (by rw [HDN.out]; omega)
    have HKU : Hid (L.length = k) := hidden HI.out.len
    have hcl := wr_call HMW.out HI.out HAB.out (by rw [HDN.out]; exact HD2.out.1) HFK.out (by intro h; have h1 := HDN.out; rw [h] at h1; have := HD2.out; simp at h1; omega) HK.out (1 + p2) (by have := HP3.out; omega) w10 HB10.out
    rw [show ((1024 + fr : Nat) : Int) = 1024 + (fr : Int) by omega, hD, HMB.out] at hcl
    obtain ⟨WS, hWS⟩ : ∃ WS, wrS (1 + p2) (1024 + (fr : Int)) (kk : Int) = WS := ⟨_, rfl⟩
    have HWL : Hid (WS.R.length = 32) := hidden (by rw [← hWS]; rfl)
    rw [hWS] at K10 hcl
    have HCL := hidden hcl
    have HN0 := hidden (show wr.heap.size ≤ w10.heap.size from HB10.out.size)
    clear hcl hWS hD HV0 HVA HV2 HV4 HV5 HBP L26 K6 K7 K8 K9 B6 B7 B8 B9 B10
    go_upto_region 14 with (first
      | (refine wpList_loadV rfl _ rfl ns WS rfl K10.out HWL.out ?_)
      | (refine wpList_loadCw rfl _ rfl gq (cwC ⟨#[]⟩ 0 rd 0 ev) rfl KQ.out rfl ?_)
      | (go_at_call 13; refine HCL.out.mono ?_; rintro e w11 ⟨V, rd2, ev2, rfl, hwv, hf2, ho2, hb2⟩; have WVH := hidden hwv; have F2 := hidden hf2; have O2 := hidden ho2; have B11 := hidden (HB10.out.trans (hb2.mono HN0.out)); clear hwv hf2 ho2 hb2)
      | (refine wpList_allocV rfl rfl ?_; obtain ⟨na, hna⟩ : ∃ na, w11.heap.size = na := ⟨_, rfl⟩; rintro w12 k12 s12 b12; have B12 := hidden b12; rw [hna] at k12 s12 ⊢; have HNA := hidden hna; have K12 := hidden k12; have S12 := hidden s12; clear k12 s12 b12 hna)
      | (refine wpList_allocCw rfl rfl ?_; rintro w13 k13 s13 b13; have B13 := hidden b13; rw [S12.out] at k13 s13 ⊢; have K13 := hidden k13; clear k13 s13 b13)
      | (refine wpList_storeV rfl rfl _ _ rfl na SV.zero V rfl rfl (K12.out.later B13.out) rfl WVH.out.len ?_; rintro w14 k14 o14; have K14 := hidden k14; have O14 := hidden o14; clear k14 o14)
      | (refine wpList_storeCw rfl rfl _ _ rfl (na + 1) zCw (cwC ⟨#[]⟩ 0 rd2 0 ev2) rfl rfl (K13.out.only O14.out (Nat.succ_ne_self na)) rfl rfl (cw_one2 F2.out O2.out) ?_; rintro w15 k15 o15; have K15 := hidden k15; have O15 := hidden o15; clear k15 o15))
    have O5 := own_only (own_only (own_later (own_later O2.out B12.out) B13.out) O14.out (K12.out.later B13.out) (by decide)) O15.out (K13.out.only O14.out (Nat.succ_ne_self na)) (by decide)
    have hone := cw_one2 F2.out O2.out
    obtain ⟨ge, ec2, hev2, d0, d1⟩ := ev_cells O5 HKU.out
    subst hev2
    have ONE2 := hidden hone
    have OW5 := hidden O5
    have hk14 := K14.out.only O15.out (Nat.ne_of_lt (Nat.lt_succ_self na))
    have c2 : w15.cell? ⟨na, 2, none⟩ = some (.int .u32 (kk : Int)) := by rw [← WVH.out.r2]; exact hk14.cell (SV.getR WVH.out.len (by omega))
    have c7 : w15.cell? ⟨na, 7, none⟩ = some (.int .u32 0) := by rw [← WVH.out.r7]; exact hk14.cell (SV.getR WVH.out.len (by omega))
    have c4 : w15.cell? ⟨na + 1, 4, none⟩ = some (.slice (some ⟨ge, 0, none⟩) (k + 1) ec2) := K15.out.cell rfl
    have HNW := hidden (show wr.heap.size ≤ na from by rw [← HNA.out]; exact B11.out.size)
    have B15 := hidden (Below.only (Below.only ((B11.out.trans (B12.out.mono B11.out.size)).trans (B13.out.mono (Nat.le_trans B11.out.size B12.out.size))) O14.out HNW.out) O15.out (Nat.le_succ_of_le HNW.out))
    have HRD := hidden (rw_nil_any (w' := w15) (F2.out.rw (cI_len [])))
    have KQ5 := hidden ((B15.out.block gq HI.out.c.lt).trans HI.out.c)
    have hlen : ((da.drop fr).take kk).length = kk := by have := HFK.out; simp; omega
    have HLI := hidden (lies_cut ((HDA.out.later (HWR.out.trans (B15.out.mono HWR.out.size))).lies) HFK.out)
    have hcv : ∀ n, (convert 50 9 (.slice (some ⟨b0, o0 + fr, none⟩) kk (cap - fr))).run Try.prog (w15.drewN n) = .ok (.string D) (w15.drewN n) := fun n => by
      have h := run_str (w15.drewN n) (some ⟨b0, o0 + fr, none⟩) ((da.drop fr).take kk) (cap - fr) (HLI.out.later (below_drewN (Below.refl _ _) n))
      rw [hlen, HD.out] at h
      exact h
    have hfk : fr + kk ≤ dn := by have := HFK.out; rw [HDN.out] at this; exact this
    have hsl : ∀ u, (Instr.sliceAt 50 (.slice (some ⟨b0, o0, none⟩) dn cap) (some (.int .i64 (fr : Int))) (some (.int .i64 ((fr : Int) + (kk : Int)))) none).run Try.prog u = .ok (.slice (some ⟨b0, o0 + fr, none⟩) kk (cap - fr)) u := fun u => cut_run b0 o0 dn cap fr kk hfk HCAP.out (by omega) u
    have hie : ∀ u, (Instr.indexAt 28 (.slice (some ⟨ge, 0, none⟩) (k + 1) ec2) (.int .i64 (k : Int))).run Try.prog u = .ok (.pointer (some ⟨ge, k * 2, none⟩)) u := fun u => index_ev ge (k + 1) ec2 k (by omega) u
    have hj2 : ∀ u, (Instr.indexAt 24 (.pointer (some ⟨na, 0, none⟩)) (.int .i64 2)).run Try.prog u = .ok (.pointer (some ⟨na, 2, none⟩)) u := fun u => index_reg na 2 (by omega) u
    have hj7 : ∀ u, (Instr.indexAt 24 (.pointer (some ⟨na, 0, none⟩)) (.int .i64 7)).run Try.prog u = .ok (.pointer (some ⟨na, 7, none⟩)) u := fun u => index_reg na 7 (by omega) u
    clear O5 hone hk14 hlen hfk hi2 hi4 hi5 hi6 ce hz ixz F2 O2 K12 S12 B12 B13 K13 K14 O14 O15 HCL KQ K10
    go_upto_region 15 with (first | (refine wpList_loadCw rfl _ rfl (na + 1) (cwC ⟨#[]⟩ 0 rd2 0 (.slice (some ⟨ge, 0, none⟩) (k + 1) ec2)) rfl K15.out rfl ?_))
    go_quiet (fail)
    go_wp2_with (first
      | (refine wpList_loadCw rfl _ rfl (na + 1) (cwC ⟨#[]⟩ 0 rd2 0 (.slice (some ⟨ge, 0, none⟩) (k + 1) ec2)) rfl K15.out rfl ?_)
      | (refine wpList_storeCw rfl rfl _ _ rfl gq (cwC ⟨#[]⟩ 0 rd 0 ev) (cwC ⟨#[]⟩ 0 rd2 0 (.slice (some ⟨ge, 0, none⟩) (k + 1) ec2)) rfl rfl KQ5.out rfl rfl ONE2.out ?_; rintro w16 k16 o16; have K16 := hidden k16; have O16 := hidden o16; clear k16 o16))
    go_roundw
    case rel => exact ⟨k + 1, rd2, .slice (some ⟨ge, 0, none⟩) (k + 1) ec2, L ++ [(1 + p2, D)], by omega, by first | rfl | simp, by first | rfl | simp, K16.out, rw_nil_any HRD.out, own_only (own_later OW5.out (below_drewN (Below.refl _ _) nq)) O16.out (show Blk (w15.drewN nq) gq _ 38 from KQ5.out) (by decide), by simp [HKU.out], Below.only (below_drewN (HI.out.bel.trans (B15.out.mono HI.out.bel.size)) nq) O16.out (Nat.le_of_eq HGQ.out)⟩
    case measure => simp [intOf]; omega
end Go.Proofs.Ytodoenimlhldjaa

/- StepLinks, walked (one of six). -/
import Derived.Test.YtobnocioefchlaaPMXX
namespace Go.Proofs.Ytobnocioefchlaa
open Go.ChangeShapes Go.WideShapes Go.ChangeAt Go.RowKit
set_option linter.unusedVariables false
set_option maxRecDepth 20000 in
set_option maxHeartbeats 8000000 in
theorem links_0f (op dd : Int) (x : Int) (h0 : 0 ≤ x) (h1 : x < 4294967296) (hk : op % 3 = 0) (hb : x < 2147483648) (W : World) : Calls Try.prog 6 #[.int .i64 op, .int .u32 x, .int .i64 dd] W fun e w' => e = .returned (.bool true) ∧ Below W.heap.size W w' := by
  obtain ⟨n, hn⟩ : ∃ n, W.heap.size = n := ⟨_, rfl⟩
  obtain ⟨q, hq, hq1⟩ : ∃ q : Nat, dd % 31 = (q : Int) ∧ q ≤ 30 := ⟨(dd % 31).toNat, by omega, by omega⟩
  obtain ⟨rd, hrd, hr1, hr2⟩ : ∃ rd : Nat, rd = 1 + q ∧ 1 ≤ rd ∧ rd < 32 := ⟨1 + q, rfl, by omega, by omega⟩
  have HP1 := hidden (fun u => place_any op 3 (by omega) (by omega) u)
  have HP2 := hidden (fun u => place_any dd 31 (by omega) (by omega) u)
  rw [hk] at HP1
  rw [hq] at HP2
  obtain ⟨W1, hW1⟩ : ∃ W1, wordK 27 5 0 rd 0 0 = W1 := ⟨_, rfl⟩
  have hw1 : wordK 27 5 0 rd 0 0 < 4294967296 := by rw [word_l28 rd hr2]; simp [mkW]; omega
  have HA := hidden (fun u => word00_any 28 27 5 0 rd 0 0 rfl (by omega) (by omega) (by omega) (by omega) (by omega) (by omega) hw1 u)
  rw [hW1] at HA hw1
  obtain ⟨W2, hW2⟩ : ∃ W2, wordK 65 5 0 0 0 64 = W2 := ⟨_, rfl⟩
  have hw2 : wordK 65 5 0 0 0 64 < 4294967296 := by decide
  have HB := hidden (fun u => word00_any 66 65 5 0 0 0 64 rfl (by omega) (by omega) (by omega) (by omega) (by omega) (by omega) hw2 u)
  rw [hW2] at HB hw2
  obtain ⟨W3, hW3⟩ : ∃ W3, wordK 66 5 0 0 0 64 = W3 := ⟨_, rfl⟩
  have hw3 : wordK 66 5 0 0 0 64 < 4294967296 := by decide
  have HC := hidden (fun u => word00_any 67 66 5 0 0 0 64 rfl (by omega) (by omega) (by omega) (by omega) (by omega) (by omega) hw3 u)
  rw [hW3] at HC hw3
  have HWS : Hid ([W1] = [wordK 27 5 0 rd 0 0]) := hidden (by rw [← hW1])
  have HCO := hidden (fun (u : World) (g : Nat) (h : Blk u g #[.int .u32 (W1 : Int)] 23) => code_any [W1] g 1 (by intro x hx; simp at hx; omega) (by simp) u h)
  have HAW := hidden awake11_any
  have HS1 : Hid (∀ (s : MS) (u : World), MemW u s → s.c + 4 ≤ 1099511627776 → ∀ (ao : Option Addr) (c : Nat), s.abs = memOf [codeP 1024 [W1] 5 false ao c] → Calls Try.prog 10 #[.pointer (some ⟨s.mb, 0, none⟩), .agg (lkV x).c] u fun e w' => e = .returned (.tuple #[.agg (lkS x x rd).c, .int .i64 0, .agg (faultC 0 0 false 0)]) ∧ ∃ s', Step u s w' s') := hidden (fun s u hm hc ao c ha => lk_call (W := W1) h0 h1 hw1 (by rw [← hW1]; exact ins_l28 rd hr2) (lk_28 x rd hr1 hr2) u hm hc ha)
  have HF1 := hidden (lkS_facts x x rd (by omega) (by omega))
  have HBP := hidden (buildPN 1024 1028)
  have HL0 : Hid ((stPN 1024 1028).R.length = 32) := hidden rfl
  have HLK : Hid ({ stPN 1024 1028 with R := (stPN 1024 1028).R.set 5 x } = lkV x) := hidden rfl
  have HL1 : Hid ((lkV x).R.length = 32) := hidden (lkV_ok x h0 h1).1
  generalize lkS x x rd = J at HS1 HF1
  generalize lkV x = V1 at HS1 HLK HL1
  generalize stPN 1024 1028 = V0 at HBP HL0 HLK
  have HR : Hid (1 ≤ rd ∧ rd < 32) := hidden ⟨hr1, hr2⟩
  have hidx := index3_0
  have hadd : (1 : Int) + (q : Int) = (rd : Int) := by omega
  clear hW1 hW2 hW3 hw1 hw2 hw3 hk hq hb hrd hr1 hr2 h0 h1 HWS
  go_enter Try.func6, Try.ntmps6
  go_wp2_with (first
    | (go_at_call 18; refine (HP1.out _).mono ?_; rintro e w3 ⟨rfl, hww⟩; rw [hww]; clear hww w3 HP1)
    | (go_at_call 18; refine (HP2.out _).mono ?_; rintro e w3 ⟨rfl, hww⟩; rw [hww]; clear hww w3 HP2)
    | (go_at_call 16; refine (HA.out _).mono ?_; rintro e w3 ⟨rfl, b3⟩; rw [hn] at b3; have B3 := hidden b3; have N3 : Hid (n ≤ w3.heap.size) := hidden (by have := b3.size; omega); clear b3 HA)
    | (go_at_call 16; refine (HB.out _).mono ?_; rintro e w4 ⟨rfl, b4⟩; have B4 := hidden (B3.out.trans (b4.mono N3.out)); have N4 : Hid (n ≤ w4.heap.size) := hidden (Nat.le_trans N3.out b4.size); clear b4 HB B3)
    | (go_at_call 16; refine (HC.out _).mono ?_; rintro e w5 ⟨rfl, b5⟩; have B5 := hidden (B4.out.trans (b5.mono N4.out)); have N5 : Hid (n ≤ w5.heap.size) := hidden (Nat.le_trans N4.out b5.size); clear b5 HC B4)
    | (go_at_call 17; refine (HCO.out _ _ (Blk.new w5 #[.int .u32 (W1 : Int)] 23)).mono ?_; rintro e w6 ⟨⟨ao, c, rfl, hr⟩, b6⟩; have b56 := (below_new w5 (.cells #[.int .u32 (W1 : Int)] 23)).trans (b6.mono (below_new w5 _).size); have B6 := hidden (B5.out.trans (b56.mono N5.out)); have N6 : Hid (n ≤ w6.heap.size) := hidden (Nat.le_trans N5.out b56.size); have ME := hidden (memory_code w6 1024 (by omega) [W1] (by simp) 5 ao c hr); clear b6 b56 B5 hr)
    | (go_at_call 9; refine ME.out.mono ?_; rintro e w7 ⟨s, rfl, ho, habs, hc⟩; have PM := hidden (JA.of B6.out N6.out ho); have AB := hidden habs; have CC : Hid (s.c + 4 ≤ 1099511627776) := hidden (by omega); clear ho habs hc B6 ME)
    | (refine wpList_buildJ HBP.out rfl rfl ?_)
    | (refine wpList_allocV rfl rfl ?_; rintro w8 k8 s8 b8; obtain ⟨g, hg⟩ : ∃ g, w7.heap.size = g := ⟨_, rfl⟩; have Q := hidden (PM.out.later b8); have NF := hidden (PM.out.free hg); rw [hg] at k8 s8 ⊢; have K8 := hidden k8; have hix : ∀ u, (Instr.indexAt 24 (.pointer (some ⟨g, 0, none⟩)) (.int .i64 5)).run Try.prog u = .ok (.pointer (some ⟨g, 5, none⟩)) u := (fun u => index_reg g 5 (by omega) u); clear k8 s8 b8 hg PM)
    | (have hx := K8; clear hx; refine wpList_storeV rfl rfl _ _ rfl g SV.zero V0 rfl rfl K8.out rfl HL0.out ?_; rintro w9 k9 o9; have Q2 := hidden (Q.out.only o9 NF.out.1 NF.out.2); have K9 := hidden k9; clear k9 o9 Q K8)
    | (have hx := K9; clear hx; refine wpList_setR rfl rfl _ _ rfl g 5 V0 x rfl rfl K9.out HL0.out (by omega) ?_; rintro w10 k10 o10; have Q3 := hidden (Q2.out.only o10 NF.out.1 NF.out.2); rw [HLK.out] at k10; have K10 := hidden k10; clear k10 o10 Q2 K9)
    | (have hx := K10; clear hx; refine wpList_loadV rfl _ rfl g V1 rfl K10.out HL1.out ?_)
    | (go_at_call 10; refine (HS1.out s _ Q3.out.mem CC.out ao c AB.out).mono ?_; rintro e w11 ⟨rfl, s', st11⟩; have Q4 := hidden (Q3.out.step st11); clear Q3 st11 HS1 K10 hix)
    | (refine wpList_allocV rfl rfl ?_; rintro w12 k1 s1 b1; obtain ⟨g2, hg⟩ : ∃ g2, w11.heap.size = g2 := ⟨_, rfl⟩; have B1a := hidden b1; have HGa := hidden hg; rw [hg] at k1 s1 ⊢; have K1a := hidden k1; have S1a := hidden s1; clear k1 s1 b1 hg)
    | (have hx := K1a; clear hx; refine wpList_allocFa rfl rfl ?_; rintro w13 k2 s2 b2; have K2a := hidden (K1a.out.later b2); have B2a := hidden (B1a.out.trans (b2.mono B1a.out.size)); rw [S1a.out] at k2 ⊢; have F2a := hidden k2; clear k2 s2 b2 K1a B1a)
    | (have hx := K2a; clear hx; refine wpList_storeV rfl rfl _ _ rfl g2 SV.zero J rfl rfl K2a.out rfl HF1.out.1 ?_; rintro w14 k3 o3; have K3a := hidden k3; have F3a := hidden (F2a.out.only o3 (by omega)); have B3a := hidden (Below.only B2a.out o3 (by rw [HGa.out]; exact Nat.le_refl _)); clear k3 o3 K2a F2a B2a)
    | (have hx := F3a; clear hx; refine wpList_storeFa rfl rfl _ _ rfl (g2 + 1) zFa (faultC 0 0 false 0) rfl rfl F3a.out rfl rfl (by kernel_rfl) ?_; rintro w15 k4 o4; have P9 := hidden (Q4.out.later (Below.only B3a.out o4 (by rw [HGa.out]; omega))); obtain ⟨aR, a34, a35, a36⟩ := LC.of (K3a.out.only o4 (by omega)) HF1.out HR.out.2; have hix2 : ∀ u, (Instr.indexAt 24 (.pointer (some ⟨g2, 0, none⟩)) (.int .i64 (rd : Int))).run Try.prog u = .ok (.pointer (some ⟨g2, rd, none⟩)) u := (fun u => index_reg g2 rd HR.out.2 u); clear k4 o4 K3a F3a B3a Q4)
    | (go_at_call 8; refine (HAW.out _).mono ?_; rintro e w16 ⟨rfl, b9⟩; have B9 := hidden (P9.out.later b9).bel; clear b9))
  go_ret
  exact ⟨rfl, by rw [hn]; exact B9.out⟩
end Go.Proofs.Ytobnocioefchlaa
namespace Go.Proofs.Ytobnocioefchlaa
open Go.ChangeShapes Go.WideShapes Go.ChangeAt Go.RowKit
set_option linter.unusedVariables false
set_option maxRecDepth 20000 in
set_option maxHeartbeats 8000000 in
theorem links_0t (op dd : Int) (x : Int) (h0 : 0 ≤ x) (h1 : x < 4294967296) (hk : op % 3 = 0) (hb : 2147483648 ≤ x) (W : World) : Calls Try.prog 6 #[.int .i64 op, .int .u32 x, .int .i64 dd] W fun e w' => e = .returned (.bool true) ∧ Below W.heap.size W w' := by
  obtain ⟨n, hn⟩ : ∃ n, W.heap.size = n := ⟨_, rfl⟩
  obtain ⟨q, hq, hq1⟩ : ∃ q : Nat, dd % 31 = (q : Int) ∧ q ≤ 30 := ⟨(dd % 31).toNat, by omega, by omega⟩
  obtain ⟨rd, hrd, hr1, hr2⟩ : ∃ rd : Nat, rd = 1 + q ∧ 1 ≤ rd ∧ rd < 32 := ⟨1 + q, rfl, by omega, by omega⟩
  have HP1 := hidden (fun u => place_any op 3 (by omega) (by omega) u)
  have HP2 := hidden (fun u => place_any dd 31 (by omega) (by omega) u)
  rw [hk] at HP1
  rw [hq] at HP2
  obtain ⟨W1, hW1⟩ : ∃ W1, wordK 27 5 0 rd 0 0 = W1 := ⟨_, rfl⟩
  have hw1 : wordK 27 5 0 rd 0 0 < 4294967296 := by rw [word_l28 rd hr2]; simp [mkW]; omega
  have HA := hidden (fun u => word00_any 28 27 5 0 rd 0 0 rfl (by omega) (by omega) (by omega) (by omega) (by omega) (by omega) hw1 u)
  rw [hW1] at HA hw1
  obtain ⟨W2, hW2⟩ : ∃ W2, wordK 65 5 0 0 0 64 = W2 := ⟨_, rfl⟩
  have hw2 : wordK 65 5 0 0 0 64 < 4294967296 := by decide
  have HB := hidden (fun u => word00_any 66 65 5 0 0 0 64 rfl (by omega) (by omega) (by omega) (by omega) (by omega) (by omega) hw2 u)
  rw [hW2] at HB hw2
  obtain ⟨W3, hW3⟩ : ∃ W3, wordK 66 5 0 0 0 64 = W3 := ⟨_, rfl⟩
  have hw3 : wordK 66 5 0 0 0 64 < 4294967296 := by decide
  have HC := hidden (fun u => word00_any 67 66 5 0 0 0 64 rfl (by omega) (by omega) (by omega) (by omega) (by omega) (by omega) hw3 u)
  rw [hW3] at HC hw3
  have HWS : Hid ([W1] = [wordK 27 5 0 rd 0 0]) := hidden (by rw [← hW1])
  have HCO := hidden (fun (u : World) (g : Nat) (h : Blk u g #[.int .u32 (W1 : Int)] 23) => code_any [W1] g 1 (by intro x hx; simp at hx; omega) (by simp) u h)
  have HAW := hidden awake11_any
  have HS1 : Hid (∀ (s : MS) (u : World), MemW u s → s.c + 4 ≤ 1099511627776 → ∀ (ao : Option Addr) (c : Nat), s.abs = memOf [codeP 1024 [W1] 5 false ao c] → Calls Try.prog 10 #[.pointer (some ⟨s.mb, 0, none⟩), .agg (lkV x).c] u fun e w' => e = .returned (.tuple #[.agg (lkS x x rd).c, .int .i64 0, .agg (faultC 0 0 false 0)]) ∧ ∃ s', Step u s w' s') := hidden (fun s u hm hc ao c ha => lk_call (W := W1) h0 h1 hw1 (by rw [← hW1]; exact ins_l28 rd hr2) (lk_28 x rd hr1 hr2) u hm hc ha)
  have HF1 := hidden (lkS_facts x x rd (by omega) (by omega))
  have HBP := hidden (buildPN 1024 1028)
  have HL0 : Hid ((stPN 1024 1028).R.length = 32) := hidden rfl
  have HLK : Hid ({ stPN 1024 1028 with R := (stPN 1024 1028).R.set 5 x } = lkV x) := hidden rfl
  have HL1 : Hid ((lkV x).R.length = 32) := hidden (lkV_ok x h0 h1).1
  generalize lkS x x rd = J at HS1 HF1
  generalize lkV x = V1 at HS1 HLK HL1
  generalize stPN 1024 1028 = V0 at HBP HL0 HLK
  have HR : Hid (1 ≤ rd ∧ rd < 32) := hidden ⟨hr1, hr2⟩
  have hidx := index3_0
  have hadd : (1 : Int) + (q : Int) = (rd : Int) := by omega
  clear hW1 hW2 hW3 hw1 hw2 hw3 hk hq hb hrd hr1 hr2 h0 h1 HWS
  go_enter Try.func6, Try.ntmps6
  go_wp2_with (first
    | (go_at_call 18; refine (HP1.out _).mono ?_; rintro e w3 ⟨rfl, hww⟩; rw [hww]; clear hww w3 HP1)
    | (go_at_call 18; refine (HP2.out _).mono ?_; rintro e w3 ⟨rfl, hww⟩; rw [hww]; clear hww w3 HP2)
    | (go_at_call 16; refine (HA.out _).mono ?_; rintro e w3 ⟨rfl, b3⟩; rw [hn] at b3; have B3 := hidden b3; have N3 : Hid (n ≤ w3.heap.size) := hidden (by have := b3.size; omega); clear b3 HA)
    | (go_at_call 16; refine (HB.out _).mono ?_; rintro e w4 ⟨rfl, b4⟩; have B4 := hidden (B3.out.trans (b4.mono N3.out)); have N4 : Hid (n ≤ w4.heap.size) := hidden (Nat.le_trans N3.out b4.size); clear b4 HB B3)
    | (go_at_call 16; refine (HC.out _).mono ?_; rintro e w5 ⟨rfl, b5⟩; have B5 := hidden (B4.out.trans (b5.mono N4.out)); have N5 : Hid (n ≤ w5.heap.size) := hidden (Nat.le_trans N4.out b5.size); clear b5 HC B4)
    | (go_at_call 17; refine (HCO.out _ _ (Blk.new w5 #[.int .u32 (W1 : Int)] 23)).mono ?_; rintro e w6 ⟨⟨ao, c, rfl, hr⟩, b6⟩; have b56 := (below_new w5 (.cells #[.int .u32 (W1 : Int)] 23)).trans (b6.mono (below_new w5 _).size); have B6 := hidden (B5.out.trans (b56.mono N5.out)); have N6 : Hid (n ≤ w6.heap.size) := hidden (Nat.le_trans N5.out b56.size); have ME := hidden (memory_code w6 1024 (by omega) [W1] (by simp) 5 ao c hr); clear b6 b56 B5 hr)
    | (go_at_call 9; refine ME.out.mono ?_; rintro e w7 ⟨s, rfl, ho, habs, hc⟩; have PM := hidden (JA.of B6.out N6.out ho); have AB := hidden habs; have CC : Hid (s.c + 4 ≤ 1099511627776) := hidden (by omega); clear ho habs hc B6 ME)
    | (refine wpList_buildJ HBP.out rfl rfl ?_)
    | (refine wpList_allocV rfl rfl ?_; rintro w8 k8 s8 b8; obtain ⟨g, hg⟩ : ∃ g, w7.heap.size = g := ⟨_, rfl⟩; have Q := hidden (PM.out.later b8); have NF := hidden (PM.out.free hg); rw [hg] at k8 s8 ⊢; have K8 := hidden k8; have hix : ∀ u, (Instr.indexAt 24 (.pointer (some ⟨g, 0, none⟩)) (.int .i64 5)).run Try.prog u = .ok (.pointer (some ⟨g, 5, none⟩)) u := (fun u => index_reg g 5 (by omega) u); clear k8 s8 b8 hg PM)
    | (have hx := K8; clear hx; refine wpList_storeV rfl rfl _ _ rfl g SV.zero V0 rfl rfl K8.out rfl HL0.out ?_; rintro w9 k9 o9; have Q2 := hidden (Q.out.only o9 NF.out.1 NF.out.2); have K9 := hidden k9; clear k9 o9 Q K8)
    | (have hx := K9; clear hx; refine wpList_setR rfl rfl _ _ rfl g 5 V0 x rfl rfl K9.out HL0.out (by omega) ?_; rintro w10 k10 o10; have Q3 := hidden (Q2.out.only o10 NF.out.1 NF.out.2); rw [HLK.out] at k10; have K10 := hidden k10; clear k10 o10 Q2 K9)
    | (have hx := K10; clear hx; refine wpList_loadV rfl _ rfl g V1 rfl K10.out HL1.out ?_)
    | (go_at_call 10; refine (HS1.out s _ Q3.out.mem CC.out ao c AB.out).mono ?_; rintro e w11 ⟨rfl, s', st11⟩; have Q4 := hidden (Q3.out.step st11); clear Q3 st11 HS1 K10 hix)
    | (refine wpList_allocV rfl rfl ?_; rintro w12 k1 s1 b1; obtain ⟨g2, hg⟩ : ∃ g2, w11.heap.size = g2 := ⟨_, rfl⟩; have B1a := hidden b1; have HGa := hidden hg; rw [hg] at k1 s1 ⊢; have K1a := hidden k1; have S1a := hidden s1; clear k1 s1 b1 hg)
    | (have hx := K1a; clear hx; refine wpList_allocFa rfl rfl ?_; rintro w13 k2 s2 b2; have K2a := hidden (K1a.out.later b2); have B2a := hidden (B1a.out.trans (b2.mono B1a.out.size)); rw [S1a.out] at k2 ⊢; have F2a := hidden k2; clear k2 s2 b2 K1a B1a)
    | (have hx := K2a; clear hx; refine wpList_storeV rfl rfl _ _ rfl g2 SV.zero J rfl rfl K2a.out rfl HF1.out.1 ?_; rintro w14 k3 o3; have K3a := hidden k3; have F3a := hidden (F2a.out.only o3 (by omega)); have B3a := hidden (Below.only B2a.out o3 (by rw [HGa.out]; exact Nat.le_refl _)); clear k3 o3 K2a F2a B2a)
    | (have hx := F3a; clear hx; refine wpList_storeFa rfl rfl _ _ rfl (g2 + 1) zFa (faultC 0 0 false 0) rfl rfl F3a.out rfl rfl (by kernel_rfl) ?_; rintro w15 k4 o4; have P9 := hidden (Q4.out.later (Below.only B3a.out o4 (by rw [HGa.out]; omega))); obtain ⟨aR, a34, a35, a36⟩ := LC.of (K3a.out.only o4 (by omega)) HF1.out HR.out.2; have hix2 : ∀ u, (Instr.indexAt 24 (.pointer (some ⟨g2, 0, none⟩)) (.int .i64 (rd : Int))).run Try.prog u = .ok (.pointer (some ⟨g2, rd, none⟩)) u := (fun u => index_reg g2 rd HR.out.2 u); clear k4 o4 K3a F3a B3a Q4)
    | (go_at_call 8; refine (HAW.out _).mono ?_; rintro e w16 ⟨rfl, b9⟩; have B9 := hidden (P9.out.later b9).bel; clear b9))
  go_ret
  exact ⟨rfl, by rw [hn]; exact B9.out⟩
end Go.Proofs.Ytobnocioefchlaa
namespace Go.Proofs.Ytobnocioefchlaa
open Go.ChangeShapes Go.WideShapes Go.ChangeAt Go.RowKit
set_option linter.unusedVariables false
set_option maxRecDepth 20000 in
set_option maxHeartbeats 8000000 in
theorem links_1f (op dd : Int) (x : Int) (h0 : 0 ≤ x) (h1 : x < 4294967296) (hk : op % 3 = 1) (hb : x < 2147483648) (W : World) : Calls Try.prog 6 #[.int .i64 op, .int .u32 x, .int .i64 dd] W fun e w' => e = .returned (.bool true) ∧ Below W.heap.size W w' := by
  obtain ⟨n, hn⟩ : ∃ n, W.heap.size = n := ⟨_, rfl⟩
  obtain ⟨q, hq, hq1⟩ : ∃ q : Nat, dd % 31 = (q : Int) ∧ q ≤ 30 := ⟨(dd % 31).toNat, by omega, by omega⟩
  obtain ⟨rd, hrd, hr1, hr2⟩ : ∃ rd : Nat, rd = 1 + q ∧ 1 ≤ rd ∧ rd < 32 := ⟨1 + q, rfl, by omega, by omega⟩
  have HP1 := hidden (fun u => place_any op 3 (by omega) (by omega) u)
  have HP2 := hidden (fun u => place_any dd 31 (by omega) (by omega) u)
  rw [hk] at HP1
  rw [hq] at HP2
  obtain ⟨W1, hW1⟩ : ∃ W1, wordK 27 5 0 rd 0 0 = W1 := ⟨_, rfl⟩
  have hw1 : wordK 27 5 0 rd 0 0 < 4294967296 := by rw [word_l28 rd hr2]; simp [mkW]; omega
  have HA := hidden (fun u => word00_any 28 27 5 0 rd 0 0 rfl (by omega) (by omega) (by omega) (by omega) (by omega) (by omega) hw1 u)
  rw [hW1] at HA hw1
  obtain ⟨W2, hW2⟩ : ∃ W2, wordK 65 5 0 0 0 64 = W2 := ⟨_, rfl⟩
  have hw2 : wordK 65 5 0 0 0 64 < 4294967296 := by decide
  have HB := hidden (fun u => word00_any 66 65 5 0 0 0 64 rfl (by omega) (by omega) (by omega) (by omega) (by omega) (by omega) hw2 u)
  rw [hW2] at HB hw2
  obtain ⟨W3, hW3⟩ : ∃ W3, wordK 66 5 0 0 0 64 = W3 := ⟨_, rfl⟩
  have hw3 : wordK 66 5 0 0 0 64 < 4294967296 := by decide
  have HC := hidden (fun u => word00_any 67 66 5 0 0 0 64 rfl (by omega) (by omega) (by omega) (by omega) (by omega) (by omega) hw3 u)
  rw [hW3] at HC hw3
  have HWS : Hid ([W2] = [wordK 65 5 0 0 0 64]) := hidden (by rw [← hW2])
  have HCO := hidden (fun (u : World) (g : Nat) (h : Blk u g #[.int .u32 (W2 : Int)] 23) => code_any [W2] g 1 (by intro x hx; simp at hx; omega) (by simp) u h)
  have HAW := hidden awake11_any
  have HS1 : Hid (∀ (s : MS) (u : World), MemW u s → s.c + 4 ≤ 1099511627776 → ∀ (ao : Option Addr) (c : Nat), s.abs = memOf [codeP 1024 [W2] 5 false ao c] → Calls Try.prog 10 #[.pointer (some ⟨s.mb, 0, none⟩), .agg (lkV x).c] u fun e w' => e = .returned (.tuple #[.agg (lkS x 1032 31).c, .int .i64 0, .agg (faultC 0 0 false 0)]) ∧ ∃ s', Step u s w' s') := hidden (fun s u hm hc ao c ha => lk_call (W := W2) h0 h1 hw2 (by rw [← hW2]; exact ins_l66) (fun s => lk_66 x s false (by rw [take_66]; simp [lt32, sg]; omega)) u hm hc ha)
  have HF1 := hidden (lkS_facts x 1032 31 (by omega) (by omega))
  have HBP := hidden (buildPN 1024 1028)
  have HL0 : Hid ((stPN 1024 1028).R.length = 32) := hidden rfl
  have HLK : Hid ({ stPN 1024 1028 with R := (stPN 1024 1028).R.set 5 x } = lkV x) := hidden rfl
  have HL1 : Hid ((lkV x).R.length = 32) := hidden (lkV_ok x h0 h1).1
  generalize lkS x 1032 31 = J at HS1 HF1
  generalize lkV x = V1 at HS1 HLK HL1
  generalize stPN 1024 1028 = V0 at HBP HL0 HLK
  have HR : Hid (1 ≤ rd ∧ rd < 32) := hidden ⟨hr1, hr2⟩
  have hidx := index3_1
  have hd : (x / 2147483648 == 1) = false := by first | exact beq_iff_eq.2 (by omega) | exact beq_eq_false_iff_ne.2 (by omega)
  have hd1 : ¬ x / 2147483648 = 1 := by omega
  have hadd : (1 : Int) + (q : Int) = (rd : Int) := by omega
  clear hW1 hW2 hW3 hw1 hw2 hw3 hk hq hb hrd hr1 hr2 h0 h1 HWS
  go_enter Try.func6, Try.ntmps6
  go_wp2_with (first
    | (go_at_call 18; refine (HP1.out _).mono ?_; rintro e w3 ⟨rfl, hww⟩; rw [hww]; clear hww w3 HP1)
    | (go_at_call 18; refine (HP2.out _).mono ?_; rintro e w3 ⟨rfl, hww⟩; rw [hww]; clear hww w3 HP2)
    | (go_at_call 16; refine (HA.out _).mono ?_; rintro e w3 ⟨rfl, b3⟩; rw [hn] at b3; have B3 := hidden b3; have N3 : Hid (n ≤ w3.heap.size) := hidden (by have := b3.size; omega); clear b3 HA)
    | (go_at_call 16; refine (HB.out _).mono ?_; rintro e w4 ⟨rfl, b4⟩; have B4 := hidden (B3.out.trans (b4.mono N3.out)); have N4 : Hid (n ≤ w4.heap.size) := hidden (Nat.le_trans N3.out b4.size); clear b4 HB B3)
    | (go_at_call 16; refine (HC.out _).mono ?_; rintro e w5 ⟨rfl, b5⟩; have B5 := hidden (B4.out.trans (b5.mono N4.out)); have N5 : Hid (n ≤ w5.heap.size) := hidden (Nat.le_trans N4.out b5.size); clear b5 HC B4)
    | (go_at_call 17; refine (HCO.out _ _ (Blk.new w5 #[.int .u32 (W2 : Int)] 23)).mono ?_; rintro e w6 ⟨⟨ao, c, rfl, hr⟩, b6⟩; have b56 := (below_new w5 (.cells #[.int .u32 (W2 : Int)] 23)).trans (b6.mono (below_new w5 _).size); have B6 := hidden (B5.out.trans (b56.mono N5.out)); have N6 : Hid (n ≤ w6.heap.size) := hidden (Nat.le_trans N5.out b56.size); have ME := hidden (memory_code w6 1024 (by omega) [W2] (by simp) 5 ao c hr); clear b6 b56 B5 hr)
    | (go_at_call 9; refine ME.out.mono ?_; rintro e w7 ⟨s, rfl, ho, habs, hc⟩; have PM := hidden (JA.of B6.out N6.out ho); have AB := hidden habs; have CC : Hid (s.c + 4 ≤ 1099511627776) := hidden (by omega); clear ho habs hc B6 ME)
    | (refine wpList_buildJ HBP.out rfl rfl ?_)
    | (refine wpList_allocV rfl rfl ?_; rintro w8 k8 s8 b8; obtain ⟨g, hg⟩ : ∃ g, w7.heap.size = g := ⟨_, rfl⟩; have Q := hidden (PM.out.later b8); have NF := hidden (PM.out.free hg); rw [hg] at k8 s8 ⊢; have K8 := hidden k8; have hix : ∀ u, (Instr.indexAt 24 (.pointer (some ⟨g, 0, none⟩)) (.int .i64 5)).run Try.prog u = .ok (.pointer (some ⟨g, 5, none⟩)) u := (fun u => index_reg g 5 (by omega) u); clear k8 s8 b8 hg PM)
    | (have hx := K8; clear hx; refine wpList_storeV rfl rfl _ _ rfl g SV.zero V0 rfl rfl K8.out rfl HL0.out ?_; rintro w9 k9 o9; have Q2 := hidden (Q.out.only o9 NF.out.1 NF.out.2); have K9 := hidden k9; clear k9 o9 Q K8)
    | (have hx := K9; clear hx; refine wpList_setR rfl rfl _ _ rfl g 5 V0 x rfl rfl K9.out HL0.out (by omega) ?_; rintro w10 k10 o10; have Q3 := hidden (Q2.out.only o10 NF.out.1 NF.out.2); rw [HLK.out] at k10; have K10 := hidden k10; clear k10 o10 Q2 K9)
    | (have hx := K10; clear hx; refine wpList_loadV rfl _ rfl g V1 rfl K10.out HL1.out ?_)
    | (go_at_call 10; refine (HS1.out s _ Q3.out.mem CC.out ao c AB.out).mono ?_; rintro e w11 ⟨rfl, s', st11⟩; have Q4 := hidden (Q3.out.step st11); clear Q3 st11 HS1 K10 hix)
    | (refine wpList_allocV rfl rfl ?_; rintro w12 k1 s1 b1; obtain ⟨g2, hg⟩ : ∃ g2, w11.heap.size = g2 := ⟨_, rfl⟩; have B1a := hidden b1; have HGa := hidden hg; rw [hg] at k1 s1 ⊢; have K1a := hidden k1; have S1a := hidden s1; clear k1 s1 b1 hg)
    | (have hx := K1a; clear hx; refine wpList_allocFa rfl rfl ?_; rintro w13 k2 s2 b2; have K2a := hidden (K1a.out.later b2); have B2a := hidden (B1a.out.trans (b2.mono B1a.out.size)); rw [S1a.out] at k2 ⊢; have F2a := hidden k2; clear k2 s2 b2 K1a B1a)
    | (have hx := K2a; clear hx; refine wpList_storeV rfl rfl _ _ rfl g2 SV.zero J rfl rfl K2a.out rfl HF1.out.1 ?_; rintro w14 k3 o3; have K3a := hidden k3; have F3a := hidden (F2a.out.only o3 (by omega)); have B3a := hidden (Below.only B2a.out o3 (by rw [HGa.out]; exact Nat.le_refl _)); clear k3 o3 K2a F2a B2a)
    | (have hx := F3a; clear hx; refine wpList_storeFa rfl rfl _ _ rfl (g2 + 1) zFa (faultC 0 0 false 0) rfl rfl F3a.out rfl rfl (by kernel_rfl) ?_; rintro w15 k4 o4; have P9 := hidden (Q4.out.later (Below.only B3a.out o4 (by rw [HGa.out]; omega))); obtain ⟨aR, a34, a35, a36⟩ := LC.of (K3a.out.only o4 (by omega)) HF1.out (by omega); have hix2 : ∀ u, (Instr.indexAt 24 (.pointer (some ⟨g2, 0, none⟩)) (.int .i64 31)).run Try.prog u = .ok (.pointer (some ⟨g2, 31, none⟩)) u := (fun u => index_reg g2 31 (by omega) u); clear k4 o4 K3a F3a B3a Q4)
    | (go_at_call 8; refine (HAW.out _).mono ?_; rintro e w16 ⟨rfl, b9⟩; have B9 := hidden (P9.out.later b9).bel; clear b9))
  go_ret
  exact ⟨rfl, by rw [hn]; exact B9.out⟩
end Go.Proofs.Ytobnocioefchlaa

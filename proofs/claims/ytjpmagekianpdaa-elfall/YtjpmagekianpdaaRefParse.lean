/- Chapter 6's own Parse. -/
import Derived.Test.YtjpmagekianpdaaRefParseA
namespace Go.Proofs.Ytjpmagekianpdaa
open Go.ChangeShapes Go.WideShapes Go.ChangeAt Go.RowKit
set_option linter.unusedVariables false
set_option maxRecDepth 20000 in
set_option maxHeartbeats 8000000 in
theorem rparse_any (w : World) (ao : Option Addr) (l : List UInt8) (cap : Nat) (h : Row w ao l cap) (hl : l.length ≤ 20000) : Calls Try.prog 12 #[.slice ao l.length cap] w fun e w' => ∃ ao' cap', e = .returned (.tuple #[.agg #[.int .u32 ((parseE l).1 : Int), .slice ao' (parseE l).2.1.length cap'], .int .i64 ((parseE l).2.2 : Int)]) ∧ Segs w' ao' (parseE l).2.1 ∧ (parseE l).2.1.length ≤ cap' ∧ cap' ≤ 9223372036854775807 ∧ Below w.heap.size w w' := by
  have hb0 := below_new w (.cells #[.int .u32 0, .slice none 0 0] 26)
  have HBX := hidden hb0
  have HZX := hidden (Blk.new w #[.int .u32 0, .slice none 0 0] 26)
  have H24 : Hid (Calls Try.prog 24 #[.slice ao l.length cap] (w.alloc (.cells #[.int .u32 0, .slice none 0 0] 26)) fun e w' => e = .returned (.int .i64 (refHead l : Int)) ∧ w' = w.alloc (.cells #[.int .u32 0, .slice none 0 0] 26)) := rheader_any _ ao l cap (h.later hb0) hl
  have hcap := h.len
  by_cases h1 : refHead l = 0
  case neg =>
    rw [ref_bad h1]
    simp only
    have k1 : ¬ ((refHead l : Nat) : Int) = 0 := by omega
    generalize refHead l = c at H24 k1
    clear h hb0
    obtain ⟨z0, z1, hzl, hzf⟩ := zero26 (Hid.out HZX)
    go_enter Try.func12, Try.ntmps12
    go_wp2_with (go_at_call 24; with_reducible refine (Hid.out H24).mono ?_; rintro e w4 ⟨rfl, hww⟩; rw [hww]; clear hww w4)
    exact bodyPost_ret (v := .tuple #[.agg #[.int .u32 0, .slice none 0 0], .int .i64 (c : Int)]) (by simp [results, Try.results12, go_sem, z0, z1]) rfl ⟨none, 0, rfl, .inl rfl, by simp, by omega, Hid.out HBX⟩
  obtain ⟨hh, ht⟩ := ref_good h1
  rw [h1] at H24
  have h52 : 52 ≤ l.length := by
    have h1 := hh
    unfold headE at h1
    by_cases a : 16384 < l.length
    · rw [if_pos a] at h1; simp at h1
    · rw [if_neg a] at h1
      by_cases b : l.length < 52
      · rw [if_pos b] at h1; simp at h1
      · omega
  have hn8 : w16 l 44 ≤ 8 := by
    have := ht
    unfold tableE at this
    rw [Bool.and_eq_true] at this
    simpa using this.1
  have htab : w16 l 44 = 0 ∨ w32 l 28 + 32 * w16 l 44 ≤ l.length := by
    have := ht
    unfold tableE at this
    rw [Bool.and_eq_true, Bool.or_eq_true, Bool.and_eq_true] at this
    rcases this.2 with a | a
    · exact .inl (by simpa using a)
    · exact .inr (by simpa using a.2)
  have hpar : ∀ x, segsE l (w16 l 44) (w32 l 28) [] = x → parseE l = match x with | none => (0, [], 10) | some segs => if checkE (w32 l 24) segs ≠ 0 then (0, [], checkE (w32 l 24) segs) else (w32 l 24, segs, 0) := by
    rintro x rfl
    unfold parseE
    rw [if_neg (by rw [hh]; simp), if_neg (by rw [ht]; simp)]
    cases segsE l (w16 l 44) (w32 l 28) [] <;> rfl
  have HPAR := hidden hpar
  have HROW := hidden h
  have HW24 : Hid (∀ u, Below w.heap.size w u → Calls Try.prog 25 #[.slice ao l.length cap, .int .i64 24] u fun e w' => e = .returned (.int .u32 (w32 l 24 : Int)) ∧ w' = u) := fun u hb => rword_any u ao l cap 24 (h.later hb) (by omega) hl
  have HW24b := hidden (Hid.out HW24 _ hb0)
  have HW44 : Hid (∀ u, Below w.heap.size w u → Calls Try.prog 26 #[.slice ao l.length cap, .int .i64 44] u fun e w' => e = .returned (.int .i64 (w16 l 44 : Int)) ∧ w' = u) := fun u hb => rh_any u ao l cap 44 (h.later hb) (by omega) hl
  have HW28 : Hid (∀ u, Below w.heap.size w u → Calls Try.prog 27 #[.slice ao l.length cap, .int .i64 28] u fun e w' => e = .returned (.int .i64 (w32 l 28 : Int)) ∧ w' = u) := fun u hb => rw_any u ao l cap 28 (h.later hb) (by omega) hl
  have HWK : Hid (∀ (u : World) (k : Nat) (z : Int), z = (k : Int) → Below w.heap.size w u → k + 3 < l.length → Calls Try.prog 27 #[.slice ao l.length cap, .int .i64 z] u fun e w' => e = .returned (.int .i64 (w32 l k : Int)) ∧ w' = u) := fun u k z hz hb hk => by subst hz; exact rw_any u ao l cap k (h.later hb) hk hl
  have hent := w32_lt l 24
  have hp0 := w32_lt l 28
  generalize w16 l 44 = n at *
  generalize w32 l 28 = p0 at *
  generalize w32 l 24 = ent at *
  clear h hpar hh ht h1
  have hbA : Below w.heap.size w ((w.alloc (.cells #[.int .u32 0, .slice none 0 0] 26)).alloc (.cells #[.int .u32 (ent : Int), .slice none 0 0] 26)) := bthen hb0 (below_new _ _)
  have HST0 : Hid (Inv12 w l ent n p0 (.int .i64 0) ((w.alloc (.cells #[.int .u32 0, .slice none 0 0] 26)).alloc (.cells #[.int .u32 (ent : Int), .slice none 0 0] 26))) := by
    have hF := Blk.new (w.alloc (.cells #[.int .u32 0, .slice none 0 0] 26)) #[.int .u32 (ent : Int), .slice none 0 0] 26
    rw [World.size_alloc] at hF
    exact inv12 0 [] (.slice none 0 0) rfl (by omega) (World.ownsRow_nil _ _ _ _) (by simp) (by simp) (by simp) ((Hid.out HZX).later (below_new _ _)) hF hbA
  clear hb0 hbA HBX HZX
  go_enter Try.func12, Try.ntmps12
  go_wp2_with (first | (go_at_call 24; with_reducible refine (Hid.out H24).mono ?_; rintro e w4 ⟨rfl, hww⟩; rw [hww]; clear hww w4) | (go_at_call 25; with_reducible refine (Hid.out HW24b).mono ?_; rintro e w4 ⟨rfl, hww⟩; rw [hww]; clear hww w4))
  go_loopw [6] (fun x6 wr => Inv12 w l ent n p0 x6 wr) (fun x6 _ => n - (intOf x6).toNat)
  case atStart => exact Hid.out HST0
  case round =>
    obtain ⟨k, acc, v, hkn, rfl, ho, hal, hfits, hseg0, hZ, hF, hbel⟩ := hrel
    have HBX := hidden hbel
    have HZX := hidden hZ
    have H26 := hidden (Hid.out HW44 wr hbel)
    obtain ⟨sa, sc, rfl, hsg, hsl, hsm⟩ := ho.segs hfits
    by_cases hk : k < n
    · have hk2 : (k : Int) < (n : Int) := by omega
      have hlen : p0 + 32 * n ≤ l.length := by rcases htab with a | a <;> omega
      obtain ⟨P, hP⟩ : ∃ P, P = p0 + 32 * k := ⟨_, rfl⟩
      have hPP : (p0 : Int) + 32 * (k : Int) = (P : Int) := by omega
      have hPl : P + 32 ≤ l.length := by omega
      rw [← hP] at hseg0
      have H28w := hidden (Hid.out HW28 wr hbel)
      have HX1 := hidden (Hid.out HWK wr P (P : Int) rfl hbel (by omega))
      have HFR := hidden (Hid.out HWK wr (P + 4) ((P : Int) + 4) (by omega) hbel (by omega))
      have HNN := hidden (Hid.out HWK wr (P + 16) ((P : Int) + 16) (by omega) hbel (by omega))
      have HSZ := hidden (Hid.out HWK wr (P + 20) ((P : Int) + 20) (by omega) hbel (by omega))
      have HAT := hidden (Hid.out HWK wr (P + 8) ((P : Int) + 8) (by omega) hbel (by omega))
      have HPM : Hid (∀ u, Below w.heap.size w u → Calls Try.prog 27 #[.slice ao l.length cap, .int .i64 ((P + 24 : Nat) : Int)] u fun e w' => e = .returned (.int .i64 (w32 l (P + 24) : Int)) ∧ w' = u) := fun u hb => Hid.out HWK u (P + 24) _ rfl hb (by omega)
      rw [show n - k = (n - (k + 1)) + 1 by omega, segsE, show P + 32 = p0 + 32 * (k + 1) by omega] at hseg0
      have HSEG0 := hidden hseg0
      have HK1 : Hid (n - (k + 1) < n - k) := by show _ < _; omega
      have HFITS := hidden hfits
      have HO := hidden ho
      have HF := hidden hF
      clear hfits ho hF hsg hbel hZ hseg0 htab hlen
      by_cases hx1 : w32 l P = 1
      case neg =>
        have HNX : Hid (segsE l n p0 [] = segsE l (n - (k + 1)) (p0 + 32 * (k + 1)) acc) := (Hid.out HSEG0).trans (if_pos hx1)
        have q1 : ¬ ((w32 l P : Nat) : Int) = 1 := by omega
        have hxl := w32_lt l P
        clear hP hx1
        generalize w32 l P = x1 at HX1 q1 hxl
        go_wp2_with (first | (go_at_call 26; with_reducible refine (Hid.out H26).mono ?_; rintro e w4 ⟨rfl, hww⟩; rw [hww]; clear hww w4) | (go_at_call 27; first | (with_reducible refine (Hid.out H28w).mono ?_; rintro e w4 ⟨rfl, hww⟩; rw [hww]; clear hww w4) | (with_reducible refine (Hid.out HX1).mono ?_; rintro e w4 ⟨rfl, hww⟩; rw [hww]; clear hww w4) | (with_reducible refine (Hid.out HFR).mono ?_; rintro e w4 ⟨rfl, hww⟩; rw [hww]; clear hww w4) | (with_reducible refine (Hid.out HNN).mono ?_; rintro e w4 ⟨rfl, hww⟩; rw [hww]; clear hww w4) | (with_reducible refine (Hid.out HSZ).mono ?_; rintro e w4 ⟨rfl, hww⟩; rw [hww]; clear hww w4) | (with_reducible refine (Hid.out HAT).mono ?_; rintro e w4 ⟨rfl, hww⟩; rw [hww]; clear hww w4)) | (go_at_call 28; with_reducible refine (Hid.out HWI).mono ?_; rintro e w4 ⟨rfl, hww⟩; rw [hww]; clear hww w4))
        go_roundw
        case rel => exact inv12 (k + 1) acc _ (by simp) (by omega) (Hid.out HO) (by omega) (Hid.out HFITS) (Hid.out HNX) (Hid.out HZX) (Hid.out HF) (Hid.out HBX)
        case measure => simp [intOf]; omega
      have HSEG1 := hidden ((Hid.out HSEG0).trans (if_neg (fun e => e hx1)))
      rw [hx1] at HX1
      have hfrl := w32_lt l (P + 4)
      have hnnl := w32_lt l (P + 16)
      have hszl := w32_lt l (P + 20)
      have hatl := w32_lt l (P + 8)
      have HWI : Hid (Calls Try.prog 28 #[.slice ao l.length cap, .int .i64 (w32 l (P + 4) : Int), .int .i64 (w32 l (P + 16) : Int)] wr fun e w' => e = .returned (.bool (decide (w32 l (P + 4) + w32 l (P + 16) ≤ l.length))) ∧ w' = wr) := within_any wr ao l.length cap _ _ hl
      have HSEG : Hid (segAt l P = ⟨w32 l (P + 8), (l.drop (w32 l (P + 4))).take (w32 l (P + 16)), w32 l (P + 20), ((w32 l (P + 24) % 8 : Nat) : Int)⟩) := rfl
      have HOKE : Hid (segOk l P = (decide (w32 l (P + 4) + w32 l (P + 16) ≤ l.length) && fitsB (segAt l P))) := rfl
      have hbadp : segOk l P = false → parseE l = (0, [], 10) := fun hb => by
        have := (Hid.out HSEG1).trans (if_pos hb)
        exact Hid.out HPAR none this
      clear hP hx1
      generalize w32 l (P + 4) = fr at *
      generalize w32 l (P + 16) = nn at *
      generalize w32 l (P + 20) = sz at *
      generalize w32 l (P + 8) = at_ at *
      generalize w32 l (P + 24) = pm at *
      by_cases hwi : fr + nn ≤ l.length
      case neg =>
        rw [decide_eq_false hwi] at HWI
        have HBAD : Hid (parseE l = (0, [], 10)) := hbadp (by
          rw [Hid.out HOKE, decide_eq_false hwi, Bool.false_and])
        clear hbadp
        obtain ⟨z0, z1, hzl, hzf⟩ := zero26 (Hid.out HZX)
        go_wp2_with (first | (go_at_call 26; with_reducible refine (Hid.out H26).mono ?_; rintro e w4 ⟨rfl, hww⟩; rw [hww]; clear hww w4) | (go_at_call 27; first | (with_reducible refine (Hid.out H28w).mono ?_; rintro e w4 ⟨rfl, hww⟩; rw [hww]; clear hww w4) | (with_reducible refine (Hid.out HX1).mono ?_; rintro e w4 ⟨rfl, hww⟩; rw [hww]; clear hww w4) | (with_reducible refine (Hid.out HFR).mono ?_; rintro e w4 ⟨rfl, hww⟩; rw [hww]; clear hww w4) | (with_reducible refine (Hid.out HNN).mono ?_; rintro e w4 ⟨rfl, hww⟩; rw [hww]; clear hww w4) | (with_reducible refine (Hid.out HSZ).mono ?_; rintro e w4 ⟨rfl, hww⟩; rw [hww]; clear hww w4) | (with_reducible refine (Hid.out HAT).mono ?_; rintro e w4 ⟨rfl, hww⟩; rw [hww]; clear hww w4)) | (go_at_call 28; with_reducible refine (Hid.out HWI).mono ?_; rintro e w4 ⟨rfl, hww⟩; rw [hww]; clear hww w4))
        have hf : Blk _ w.heap.size _ 26 := (Hid.out HZX).set2 (a' := .int .u32 0) (b' := .slice none 0 0)
        have hbf := below_set2 (a' := .int .u32 0) (b' := .slice none 0 0) (g := w.heap.size) (Hid.out HBX) (Nat.le_refl _)
        generalize World.setCell _ _ _ = wf at hf hbf ⊢
        have f0 : wf.cell? ⟨w.heap.size, 0, none⟩ = some (.int .u32 0) := hf.cell rfl
        have f1 : wf.cell? ⟨w.heap.size, 1, none⟩ = some (.slice none 0 0) := hf.cell rfl
        exact bodyPost_ret (v := .tuple #[.agg #[.int .u32 0, .slice none 0 0], .int .i64 10]) (by simp [results, Try.results12, go_sem, f0, f1]) rfl (by rw [Hid.out HBAD]; exact ⟨none, 0, rfl, .inl rfl, by simp, by omega, hbf⟩)
      rw [decide_eq_true hwi] at HWI HOKE
      have hdl : ((l.drop fr).take nn).length = nn := by simp; omega
      have HDL := hidden hdl
      have c0 : (fr : Int) + (nn : Int) ≤ (l.length : Int) := by omega
      by_cases hns : nn ≤ sz
      case neg =>
        have c1 : (sz : Int) < (nn : Int) := by omega
        have HBAD : Hid (parseE l = (0, [], 10)) := hbadp (by
          rw [Hid.out HOKE, Bool.true_and, Hid.out HSEG]; simp only [fitsB, Hid.out HDL]; rw [decide_eq_false hns]; simp)
        clear hbadp
        obtain ⟨z0, z1, hzl, hzf⟩ := zero26 (Hid.out HZX)
        go_wp2_with (first | (go_at_call 26; with_reducible refine (Hid.out H26).mono ?_; rintro e w4 ⟨rfl, hww⟩; rw [hww]; clear hww w4) | (go_at_call 27; first | (with_reducible refine (Hid.out H28w).mono ?_; rintro e w4 ⟨rfl, hww⟩; rw [hww]; clear hww w4) | (with_reducible refine (Hid.out HX1).mono ?_; rintro e w4 ⟨rfl, hww⟩; rw [hww]; clear hww w4) | (with_reducible refine (Hid.out HFR).mono ?_; rintro e w4 ⟨rfl, hww⟩; rw [hww]; clear hww w4) | (with_reducible refine (Hid.out HNN).mono ?_; rintro e w4 ⟨rfl, hww⟩; rw [hww]; clear hww w4) | (with_reducible refine (Hid.out HSZ).mono ?_; rintro e w4 ⟨rfl, hww⟩; rw [hww]; clear hww w4) | (with_reducible refine (Hid.out HAT).mono ?_; rintro e w4 ⟨rfl, hww⟩; rw [hww]; clear hww w4)) | (go_at_call 28; with_reducible refine (Hid.out HWI).mono ?_; rintro e w4 ⟨rfl, hww⟩; rw [hww]; clear hww w4))
        have hf : Blk _ w.heap.size _ 26 := (Hid.out HZX).set2 (a' := .int .u32 0) (b' := .slice none 0 0)
        have hbf := below_set2 (a' := .int .u32 0) (b' := .slice none 0 0) (g := w.heap.size) (Hid.out HBX) (Nat.le_refl _)
        generalize World.setCell _ _ _ = wf at hf hbf ⊢
        have f0 : wf.cell? ⟨w.heap.size, 0, none⟩ = some (.int .u32 0) := hf.cell rfl
        have f1 : wf.cell? ⟨w.heap.size, 1, none⟩ = some (.slice none 0 0) := hf.cell rfl
        exact bodyPost_ret (v := .tuple #[.agg #[.int .u32 0, .slice none 0 0], .int .i64 10]) (by simp [results, Try.results12, go_sem, f0, f1]) rfl (by rw [Hid.out HBAD]; exact ⟨none, 0, rfl, .inl rfl, by simp, by omega, hbf⟩)
      have c1 : ¬ (sz : Int) < (nn : Int) := by omega
      by_cases hsm2 : sz ≤ 16384
      case neg =>
        have c2 : (16384 : Int) < (sz : Int) := by omega
        have HBAD : Hid (parseE l = (0, [], 10)) := hbadp (by
          rw [Hid.out HOKE, Bool.true_and, Hid.out HSEG]; simp only [fitsB, Hid.out HDL]; rw [decide_eq_false hsm2]; simp)
        clear hbadp
        obtain ⟨z0, z1, hzl, hzf⟩ := zero26 (Hid.out HZX)
        go_wp2_with (first | (go_at_call 26; with_reducible refine (Hid.out H26).mono ?_; rintro e w4 ⟨rfl, hww⟩; rw [hww]; clear hww w4) | (go_at_call 27; first | (with_reducible refine (Hid.out H28w).mono ?_; rintro e w4 ⟨rfl, hww⟩; rw [hww]; clear hww w4) | (with_reducible refine (Hid.out HX1).mono ?_; rintro e w4 ⟨rfl, hww⟩; rw [hww]; clear hww w4) | (with_reducible refine (Hid.out HFR).mono ?_; rintro e w4 ⟨rfl, hww⟩; rw [hww]; clear hww w4) | (with_reducible refine (Hid.out HNN).mono ?_; rintro e w4 ⟨rfl, hww⟩; rw [hww]; clear hww w4) | (with_reducible refine (Hid.out HSZ).mono ?_; rintro e w4 ⟨rfl, hww⟩; rw [hww]; clear hww w4) | (with_reducible refine (Hid.out HAT).mono ?_; rintro e w4 ⟨rfl, hww⟩; rw [hww]; clear hww w4)) | (go_at_call 28; with_reducible refine (Hid.out HWI).mono ?_; rintro e w4 ⟨rfl, hww⟩; rw [hww]; clear hww w4))
        have hf : Blk _ w.heap.size _ 26 := (Hid.out HZX).set2 (a' := .int .u32 0) (b' := .slice none 0 0)
        have hbf := below_set2 (a' := .int .u32 0) (b' := .slice none 0 0) (g := w.heap.size) (Hid.out HBX) (Nat.le_refl _)
        generalize World.setCell _ _ _ = wf at hf hbf ⊢
        have f0 : wf.cell? ⟨w.heap.size, 0, none⟩ = some (.int .u32 0) := hf.cell rfl
        have f1 : wf.cell? ⟨w.heap.size, 1, none⟩ = some (.slice none 0 0) := hf.cell rfl
        exact bodyPost_ret (v := .tuple #[.agg #[.int .u32 0, .slice none 0 0], .int .i64 10]) (by simp [results, Try.results12, go_sem, f0, f1]) rfl (by rw [Hid.out HBAD]; exact ⟨none, 0, rfl, .inl rfl, by simp, by omega, hbf⟩)
      have c2 : ¬ (16384 : Int) < (sz : Int) := by omega
      by_cases hend : at_ + sz ≤ 2147483648
      case neg =>
        have c3 : (2147483648 : Int) < (at_ : Int) + (sz : Int) := by omega
        have HBAD : Hid (parseE l = (0, [], 10)) := hbadp (by
          rw [Hid.out HOKE, Bool.true_and, Hid.out HSEG]; simp only [fitsB, Hid.out HDL]; rw [decide_eq_false hend]; simp)
        clear hbadp
        obtain ⟨z0, z1, hzl, hzf⟩ := zero26 (Hid.out HZX)
        go_wp2_with (first | (go_at_call 26; with_reducible refine (Hid.out H26).mono ?_; rintro e w4 ⟨rfl, hww⟩; rw [hww]; clear hww w4) | (go_at_call 27; first | (with_reducible refine (Hid.out H28w).mono ?_; rintro e w4 ⟨rfl, hww⟩; rw [hww]; clear hww w4) | (with_reducible refine (Hid.out HX1).mono ?_; rintro e w4 ⟨rfl, hww⟩; rw [hww]; clear hww w4) | (with_reducible refine (Hid.out HFR).mono ?_; rintro e w4 ⟨rfl, hww⟩; rw [hww]; clear hww w4) | (with_reducible refine (Hid.out HNN).mono ?_; rintro e w4 ⟨rfl, hww⟩; rw [hww]; clear hww w4) | (with_reducible refine (Hid.out HSZ).mono ?_; rintro e w4 ⟨rfl, hww⟩; rw [hww]; clear hww w4) | (with_reducible refine (Hid.out HAT).mono ?_; rintro e w4 ⟨rfl, hww⟩; rw [hww]; clear hww w4)) | (go_at_call 28; with_reducible refine (Hid.out HWI).mono ?_; rintro e w4 ⟨rfl, hww⟩; rw [hww]; clear hww w4))
        have hf : Blk _ w.heap.size _ 26 := (Hid.out HZX).set2 (a' := .int .u32 0) (b' := .slice none 0 0)
        have hbf := below_set2 (a' := .int .u32 0) (b' := .slice none 0 0) (g := w.heap.size) (Hid.out HBX) (Nat.le_refl _)
        generalize World.setCell _ _ _ = wf at hf hbf ⊢
        have f0 : wf.cell? ⟨w.heap.size, 0, none⟩ = some (.int .u32 0) := hf.cell rfl
        have f1 : wf.cell? ⟨w.heap.size, 1, none⟩ = some (.slice none 0 0) := hf.cell rfl
        exact bodyPost_ret (v := .tuple #[.agg #[.int .u32 0, .slice none 0 0], .int .i64 10]) (by simp [results, Try.results12, go_sem, f0, f1]) rfl (by rw [Hid.out HBAD]; exact ⟨none, 0, rfl, .inl rfl, by simp, by omega, hbf⟩)
      have c3 : ¬ (2147483648 : Int) < (at_ : Int) + (sz : Int) := by omega
      have hokt : segOk l P = true := by
        rw [Hid.out HOKE, Bool.true_and, Hid.out HSEG]
        simp only [fitsB, Hid.out HDL]
        rw [decide_eq_true hns, decide_eq_true hsm2, decide_eq_true hend]
        rfl
      have HSEG2 := hidden ((Hid.out HSEG1).trans (if_neg (by rw [hokt]; simp)))
      clear hbadp hokt
      by_cases hs0 : sz = 0
      · have HNX : Hid (segsE l n p0 [] = segsE l (n - (k + 1)) (p0 + 32 * (k + 1)) acc) := (Hid.out HSEG2).trans (if_pos (by rw [Hid.out HSEG]; exact hs0))
        have c4 : ¬ (0 : Int) < (sz : Int) := by omega
        clear hs0
        go_wp2_with (first | (go_at_call 26; with_reducible refine (Hid.out H26).mono ?_; rintro e w4 ⟨rfl, hww⟩; rw [hww]; clear hww w4) | (go_at_call 27; first | (with_reducible refine (Hid.out H28w).mono ?_; rintro e w4 ⟨rfl, hww⟩; rw [hww]; clear hww w4) | (with_reducible refine (Hid.out HX1).mono ?_; rintro e w4 ⟨rfl, hww⟩; rw [hww]; clear hww w4) | (with_reducible refine (Hid.out HFR).mono ?_; rintro e w4 ⟨rfl, hww⟩; rw [hww]; clear hww w4) | (with_reducible refine (Hid.out HNN).mono ?_; rintro e w4 ⟨rfl, hww⟩; rw [hww]; clear hww w4) | (with_reducible refine (Hid.out HSZ).mono ?_; rintro e w4 ⟨rfl, hww⟩; rw [hww]; clear hww w4) | (with_reducible refine (Hid.out HAT).mono ?_; rintro e w4 ⟨rfl, hww⟩; rw [hww]; clear hww w4)) | (go_at_call 28; with_reducible refine (Hid.out HWI).mono ?_; rintro e w4 ⟨rfl, hww⟩; rw [hww]; clear hww w4))
        go_roundw
        case rel => exact inv12 (k + 1) acc _ (by simp) (by omega) (Hid.out HO) (by omega) (Hid.out HFITS) (Hid.out HNX) (Hid.out HZX) (Hid.out HF) (Hid.out HBX)
        case measure => simp [intOf]; omega
      · have HNX : Hid (segsE l n p0 [] = segsE l (n - (k + 1)) (p0 + 32 * (k + 1)) (acc ++ [segAt l P])) := (Hid.out HSEG2).trans (if_neg (by rw [Hid.out HSEG]; exact hs0))
        rw [Hid.out HSEG] at HNX
        have c4 : (0 : Int) < (sz : Int) := by omega
        obtain ⟨aq, cq, hcut, hlies⟩ := sliced_row (Hid.out HROW) fr nn hwi
        obtain ⟨d, hd⟩ : ∃ d, d = (l.drop fr).take nn := ⟨_, rfl⟩
        rw [← hd] at hcut hlies hdl HNX
        have HCUT := hidden hcut
        have HLIES := hidden hlies
        have HFX : Hid (Fit ⟨at_, d, sz, ((pm % 8 : Nat) : Int)⟩) := ⟨hatl, hszl, by show d.length ≤ _; omega⟩
        obtain ⟨base, hbase⟩ : ∃ base, base = w.heap.size := ⟨_, rfl⟩
        have hbw : w.heap.size ≤ wr.heap.size := (Hid.out HBX).size
        have HBEL := HBX
        have hfn20 : fr + nn ≤ 20000 := by omega
        have hfncap : fr + nn ≤ cap := by omega
        have hPl2 : P ≤ 20000 := by omega
        have HNE := hidden (outs_ne26 (Hid.out HO) (Hid.out HF))
        clear hd hcut hlies hs0 HDL hdl HSEG HOKE HSEG0 HSEG1 HSEG2 hbase base
        go_wp2_with (first | (go_at_call 26; with_reducible refine (Hid.out H26).mono ?_; rintro e w4 ⟨rfl, hww⟩; rw [hww]; clear hww w4) | (go_at_call 27; first | (with_reducible refine (Hid.out H28w).mono ?_; rintro e w4 ⟨rfl, hww⟩; rw [hww]; clear hww w4) | (with_reducible refine (Hid.out HX1).mono ?_; rintro e w4 ⟨rfl, hww⟩; rw [hww]; clear hww w4) | (with_reducible refine (Hid.out HFR).mono ?_; rintro e w4 ⟨rfl, hww⟩; rw [hww]; clear hww w4) | (with_reducible refine (Hid.out HNN).mono ?_; rintro e w4 ⟨rfl, hww⟩; rw [hww]; clear hww w4) | (with_reducible refine (Hid.out HSZ).mono ?_; rintro e w4 ⟨rfl, hww⟩; rw [hww]; clear hww w4) | (with_reducible refine (Hid.out HAT).mono ?_; rintro e w4 ⟨rfl, hww⟩; rw [hww]; clear hww w4)) | (go_at_call 28; with_reducible refine (Hid.out HWI).mono ?_; rintro e w4 ⟨rfl, hww⟩; rw [hww]; clear hww w4))
        refine wp_region_by (later_rm w.heap.size (Value.slice sa acc.length sc)) (fun j u x => if j = 20 then RM w.heap.size (Value.slice sa acc.length sc) u x else Below u.heap.size u x) (rmP_of w.heap.size (Value.slice sa acc.length sc)) 22 [76, 77, 78, 79, 80, 81, 82, 83, 84, 85, 86, 87, 88, 89, 90, 91, 92, 93, 94, 95, 96, 97] (fun i' xs' w' => phiRp (w.heap.size + 1) l.length cap cq at_ fr nn sz P pm w.heap.size ao aq d acc (Value.slice sa acc.length sc) i' (xs'.getD i' undef) w') (by kernel_rfl) (by kernel_rfl) rfl ?_ ?_ ?_
        · intro i' j v' xs w1 w2 hwt hnej hp hRj
          have hg' : (xs.set j v').getD i' undef = xs.getD i' undef := by rw [List.getD_eq_getElem?_getD, List.getElem?_set_ne (fun e => hnej e.symm), ← List.getD_eq_getElem?_getD]
          show phiRp (w.heap.size + 1) l.length cap cq at_ fr nn sz P pm w.heap.size ao aq d acc (Value.slice sa acc.length sc) i' ((xs.set j v').getD i' undef) w2
          rw [hg']
          exact phiRp_mono (w.heap.size + 1) l.length cap cq at_ fr nn sz P pm w.heap.size ao aq d acc (Value.slice sa acc.length sc) i' j _ w1 w2 hp hRj (fun e => hnej e)
        · intro j hj xs w3 hxs hR hpre
          obtain ⟨x0, x1, x2, x3, x4, x5, x6, x7, x8, x9, x10, x11, x12, x13, x14, x15, x16, x17, x18, x19, x20, x21, rfl⟩ := listP22 xs hxs
          have hnf3 : w3.cell? ⟨w.heap.size + 1, 1, none⟩ = some (Value.slice sa acc.length sc) := (hR.blk (Hid.out HF) (Hid.out HNE)).cell rfl
          have hb3 : Below w.heap.size w w3 := bel_rm (Hid.out HBEL) hR (Hid.out HO)
          have hlies3 := (Hid.out HLIES).later hb3
          have hnew3 : some w3.heap.size ≠ (Value.slice sa acc.length sc).ownBlock := fun e => absurd ((Hid.out HO).lt _ e.symm).2 (Nat.not_lt.2 hR.grown.size)
          rcases (show j = 0 ∨ j = 1 ∨ j = 2 ∨ j = 3 ∨ j = 4 ∨ j = 5 ∨ j = 6 ∨ j = 7 ∨ j = 8 ∨ j = 9 ∨ j = 10 ∨ j = 11 ∨ j = 12 ∨ j = 13 ∨ j = 14 ∨ j = 15 ∨ j = 16 ∨ j = 17 ∨ j = 18 ∨ j = 19 ∨ j = 20 ∨ j = 21 by omega) with rfl | rfl | rfl | rfl | rfl | rfl | rfl | rfl | rfl | rfl | rfl | rfl | rfl | rfl | rfl | rfl | rfl | rfl | rfl | rfl | rfl | rfl
          · exact wpOp_run (.pointer (some ⟨w.heap.size + 1, 1, none⟩)) rfl (by kernel_rfl) (by kernel_rfl) ⟨_, by kernel_rfl, rfl, belowP_if (by decide) (Below.refl _ _)⟩
          · have e0 : x0 = .pointer (some ⟨w.heap.size + 1, 1, none⟩) := hpre 0 (by kernel_rfl)
            subst e0
            exact wpOp_run ((Value.slice sa acc.length sc)) rfl (by kernel_rfl) (exec_load 24 rfl (by kernel_rfl) w3 (load24 hnf3)) ⟨_, by kernel_rfl, rfl, belowP_if (by decide) (Below.refl _ _)⟩
          · exact wpOp_run (.int .i64 (at_ : Int)) rfl (by kernel_rfl) (exec_move rfl (by kernel_rfl) w3) ⟨_, by kernel_rfl, rfl, belowP_if (by decide) (Below.refl _ _)⟩
          · have e2 : x2 = .int .i64 (at_ : Int) := hpre 2 (by kernel_rfl)
            subst e2
            exact wpOp_run (.int .u32 (at_ : Int)) rfl (by kernel_rfl) (exec_conv23 rfl (by kernel_rfl) hatl w3) ⟨_, by kernel_rfl, rfl, belowP_if (by decide) (Below.refl _ _)⟩
          · exact wpOp_run (.slice ao l.length cap) rfl (by kernel_rfl) (exec_move rfl (by kernel_rfl) w3) ⟨_, by kernel_rfl, rfl, belowP_if (by decide) (Below.refl _ _)⟩
          · exact wpOp_run (.int .i64 (fr : Int)) rfl (by kernel_rfl) (exec_move rfl (by kernel_rfl) w3) ⟨_, by kernel_rfl, rfl, belowP_if (by decide) (Below.refl _ _)⟩
          · exact wpOp_run (.int .i64 (fr : Int)) rfl (by kernel_rfl) (exec_move rfl (by kernel_rfl) w3) ⟨_, by kernel_rfl, rfl, belowP_if (by decide) (Below.refl _ _)⟩
          · exact wpOp_run (.int .i64 (nn : Int)) rfl (by kernel_rfl) (exec_move rfl (by kernel_rfl) w3) ⟨_, by kernel_rfl, rfl, belowP_if (by decide) (Below.refl _ _)⟩
          · have e6 : x6 = .int .i64 (fr : Int) := hpre 6 (by kernel_rfl)
            subst e6
            have e7 : x7 = .int .i64 (nn : Int) := hpre 7 (by kernel_rfl)
            subst e7
            exact wpOp_run (.int .i64 ((fr + nn : Nat) : Int)) rfl (by kernel_rfl) (exec_addN rfl (by kernel_rfl) (by kernel_rfl) hfn20 w3) ⟨_, by kernel_rfl, rfl, belowP_if (by decide) (Below.refl _ _)⟩
          · have e4 : x4 = .slice ao l.length cap := hpre 4 (by kernel_rfl)
            subst e4
            have e5 : x5 = .int .i64 (fr : Int) := hpre 5 (by kernel_rfl)
            subst e5
            have e8 : x8 = .int .i64 ((fr + nn : Nat) : Int) := hpre 8 (by kernel_rfl)
            subst e8
            exact wpOp_run (.slice aq d.length cq) rfl (by kernel_rfl) ((exec_cutN (Ln := l.length) rfl (by kernel_rfl) (by kernel_rfl) (by kernel_rfl) hfncap w3).trans (by rw [Hid.out HCUT])) ⟨_, by kernel_rfl, rfl, belowP_if (by decide) (Below.refl _ _)⟩
          · have e9 : x9 = .slice aq d.length cq := hpre 9 (by kernel_rfl)
            subst e9
            exact wpOp_run (.string ⟨d.toArray⟩) rfl (by kernel_rfl) (exec_str (c := cq) d rfl (by kernel_rfl) w3 hlies3) ⟨_, by kernel_rfl, rfl, belowP_if (by decide) (Below.refl _ _)⟩
          · exact wpOp_run (.int .i64 (sz : Int)) rfl (by kernel_rfl) (exec_move rfl (by kernel_rfl) w3) ⟨_, by kernel_rfl, rfl, belowP_if (by decide) (Below.refl _ _)⟩
          · have e11 : x11 = .int .i64 (sz : Int) := hpre 11 (by kernel_rfl)
            subst e11
            exact wpOp_run (.int .u32 (sz : Int)) rfl (by kernel_rfl) (exec_conv23 rfl (by kernel_rfl) hszl w3) ⟨_, by kernel_rfl, rfl, belowP_if (by decide) (Below.refl _ _)⟩
          · exact wpOp_run (.slice ao l.length cap) rfl (by kernel_rfl) (exec_move rfl (by kernel_rfl) w3) ⟨_, by kernel_rfl, rfl, belowP_if (by decide) (Below.refl _ _)⟩
          · exact wpOp_run (.int .i64 (P : Int)) rfl (by kernel_rfl) (exec_move rfl (by kernel_rfl) w3) ⟨_, by kernel_rfl, rfl, belowP_if (by decide) (Below.refl _ _)⟩
          · have e14 : x14 = .int .i64 (P : Int) := hpre 14 (by kernel_rfl)
            subst e14
            exact wpOp_run (.int .i64 ((P + 24 : Nat) : Int)) rfl (by kernel_rfl) (exec_add24 rfl ⟨by kernel_rfl, by kernel_rfl⟩ hPl2 w3) ⟨_, by kernel_rfl, rfl, belowP_if (by decide) (Below.refl _ _)⟩
          · have e13 : x13 = .slice ao l.length cap := hpre 13 (by kernel_rfl)
            subst e13
            have e15 : x15 = .int .i64 ((P + 24 : Nat) : Int) := hpre 15 (by kernel_rfl)
            subst e15
            refine wpOp_callR (R := fun u w4 => u = .int .i64 (pm : Int) ∧ Below w3.heap.size w3 w4) 27 #[.slice ao l.length cap, .int .i64 ((P + 24 : Nat) : Int)] rfl (by kernel_rfl) (by kernel_rfl) ((Hid.out HPM w3 hb3).mono fun e w4 ⟨he, hb⟩ => ⟨_, he, rfl, by rw [hb]; exact Below.refl _ _⟩) ?_
            rintro u w4 ⟨hu, hb4⟩
            exact ⟨_, by kernel_rfl, hu, belowP_if (by decide) hb4⟩
          · have e16 : x16 = .int .i64 (pm : Int) := hpre 16 (by kernel_rfl)
            subst e16
            exact wpOp_run (.int .i64 ((pm % 8 : Nat) : Int)) rfl (by kernel_rfl) (exec_and7N rfl ⟨by kernel_rfl, by kernel_rfl⟩ w3) ⟨_, by kernel_rfl, rfl, belowP_if (by decide) (Below.refl _ _)⟩
          · have e3 : x3 = .int .u32 (at_ : Int) := hpre 3 (by kernel_rfl)
            subst e3
            have e10 : x10 = .string ⟨d.toArray⟩ := hpre 10 (by kernel_rfl)
            subst e10
            have e12 : x12 = .int .u32 (sz : Int) := hpre 12 (by kernel_rfl)
            subst e12
            have e17 : x17 = .int .i64 ((pm % 8 : Nat) : Int) := hpre 17 (by kernel_rfl)
            subst e17
            exact wpOp_run (.agg #[.int .u32 (at_ : Int), .string ⟨d.toArray⟩, .int .u32 (sz : Int), .int .i64 ((pm % 8 : Nat) : Int)]) rfl (by kernel_rfl) (exec_build 43 rfl (by kernel_rfl) w3 (build43 _ _ _ _ w3)) ⟨_, by kernel_rfl, rfl, belowP_if (by decide) (Below.refl _ _)⟩
          · have e18 : x18 = .agg #[.int .u32 (at_ : Int), .string ⟨d.toArray⟩, .int .u32 (sz : Int), .int .i64 ((pm % 8 : Nat) : Int)] := hpre 18 (by kernel_rfl)
            subst e18
            exact wpOp_run (.slice (some ⟨w3.heap.size, 0, none⟩) 1 1) rfl (by kernel_rfl) (exec_bslice rfl (by kernel_rfl) w3) ⟨_, by kernel_rfl, ⟨w3.heap.size, rfl, hnew3, Blk.new w3 _ 43⟩, belowP_if (by decide) (below_new w3 _)⟩
          · have f19 : ∃ q, x19 = .slice (some ⟨q, 0, none⟩) 1 1 ∧ some q ≠ (Value.slice sa acc.length sc).ownBlock ∧ Blk w3 q #[.int .u32 (at_ : Int), .string ⟨d.toArray⟩, .int .u32 (sz : Int), .int .i64 ((pm % 8 : Nat) : Int)] 43 := hpre 19 (by kernel_rfl)
            obtain ⟨q19, e19, hne19, hq19⟩ := f19
            subst e19
            have e1 : x1 = .slice sa acc.length sc := hpre 1 (by kernel_rfl)
            subst e1
            obtain ⟨v5, w5, hrun, ho5, hrm⟩ := run_moreK (s := ⟨at_, d, sz, ((pm % 8 : Nat) : Int)⟩) (hR.keep _ (Hid.out HO)) (Nat.le_trans hbw hR.grown.size) hq19 (by omega)
            exact wpOp_run v5 rfl (by kernel_rfl) (exec_app rfl (by kernel_rfl) (by kernel_rfl) hrun) ⟨_, by kernel_rfl, ho5, hrm⟩
          · exact wpOp_run (.pointer (some ⟨w.heap.size + 1, 1, none⟩)) rfl (by kernel_rfl) (by kernel_rfl) ⟨_, by kernel_rfl, rfl, belowP_if (by decide) (Below.refl _ _)⟩
        · intro xs w3 hxs hR hall
          obtain ⟨x0, x1, x2, x3, x4, x5, x6, x7, x8, x9, x10, x11, x12, x13, x14, x15, x16, x17, x18, x19, x20, x21, rfl⟩ := listP22 xs hxs
          have e0 : x0 = .pointer (some ⟨w.heap.size + 1, 1, none⟩) := hall 0 (by omega)
          subst e0
          have e2 : x2 = .int .i64 (at_ : Int) := hall 2 (by omega)
          subst e2
          have e3 : x3 = .int .u32 (at_ : Int) := hall 3 (by omega)
          subst e3
          have e4 : x4 = .slice ao l.length cap := hall 4 (by omega)
          subst e4
          have e5 : x5 = .int .i64 (fr : Int) := hall 5 (by omega)
          subst e5
          have e6 : x6 = .int .i64 (fr : Int) := hall 6 (by omega)
          subst e6
          have e7 : x7 = .int .i64 (nn : Int) := hall 7 (by omega)
          subst e7
          have e8 : x8 = .int .i64 ((fr + nn : Nat) : Int) := hall 8 (by omega)
          subst e8
          have e9 : x9 = .slice aq d.length cq := hall 9 (by omega)
          subst e9
          have e10 : x10 = .string ⟨d.toArray⟩ := hall 10 (by omega)
          subst e10
          have e11 : x11 = .int .i64 (sz : Int) := hall 11 (by omega)
          subst e11
          have e12 : x12 = .int .u32 (sz : Int) := hall 12 (by omega)
          subst e12
          have e13 : x13 = .slice ao l.length cap := hall 13 (by omega)
          subst e13
          have e14 : x14 = .int .i64 (P : Int) := hall 14 (by omega)
          subst e14
          have e15 : x15 = .int .i64 ((P + 24 : Nat) : Int) := hall 15 (by omega)
          subst e15
          have e16 : x16 = .int .i64 (pm : Int) := hall 16 (by omega)
          subst e16
          have e17 : x17 = .int .i64 ((pm % 8 : Nat) : Int) := hall 17 (by omega)
          subst e17
          have e18 : x18 = .agg #[.int .u32 (at_ : Int), .string ⟨d.toArray⟩, .int .u32 (sz : Int), .int .i64 ((pm % 8 : Nat) : Int)] := hall 18 (by omega)
          subst e18
          have f19 : ∃ q, x19 = .slice (some ⟨q, 0, none⟩) 1 1 ∧ some q ≠ (Value.slice sa acc.length sc).ownBlock ∧ Blk w3 q #[.int .u32 (at_ : Int), .string ⟨d.toArray⟩, .int .u32 (sz : Int), .int .i64 ((pm % 8 : Nat) : Int)] 43 := hall 19 (by omega)
          obtain ⟨q19, e19, hne19, hq19⟩ := f19
          subst e19
          have e21 : x21 = .pointer (some ⟨w.heap.size + 1, 1, none⟩) := hall 21 (by omega)
          subst e21
          have hout : OutS w3 w.heap.size x20 (acc ++ [⟨at_, d, sz, ((pm % 8 : Nat) : Int)⟩]) := hall 20 (by omega)
          have e1 : x1 = .slice sa acc.length sc := hall 1 (by omega)
          subst e1
          obtain ⟨oa, oc, hx20⟩ := outs_shape hout
          rw [List.length_append, List.length_singleton] at hx20
          subst hx20
          have hnf5 := hR.blk (Hid.out HF) (Hid.out HNE)
          have hb5 : Below w.heap.size w w3 := bel_rm (Hid.out HBX) hR (Hid.out HO)
          have hz5 := hR.blk (Hid.out HZX) (outs_ne26 (Hid.out HO) (Hid.out HZX))
          obtain ⟨f0, f1, hfl, hff⟩ := file_facts hnf5
          have HU : Hid (OutS (w3.setCell ⟨w.heap.size + 1, 1, none⟩ (.slice oa (acc.length + 1) oc)) w.heap.size (.slice oa (acc.length + 1) oc) (acc ++ [⟨at_, d, sz, ((pm % 8 : Nat) : Int)⟩]) ∧ Blk (w3.setCell ⟨w.heap.size + 1, 1, none⟩ (.slice oa (acc.length + 1) oc)) (w.heap.size + 1) #[.int .u32 (ent : Int), (.slice oa (acc.length + 1) oc)] 26 ∧ Below w.heap.size w (w3.setCell ⟨w.heap.size + 1, 1, none⟩ (.slice oa (acc.length + 1) oc)) ∧ Blk (w3.setCell ⟨w.heap.size + 1, 1, none⟩ (.slice oa (acc.length + 1) oc)) w.heap.size #[.int .u32 0, .slice none 0 0] 26) :=
            ⟨outs_set hout hnf5, heap_setCell_same _ (w.heap.size + 1) 1 _ _ _ hnf5, hb5.setCell (p := ⟨w.heap.size + 1, 1, none⟩) (Nat.le_succ _) _, (Below.heap_setCell _ _ _ _ (show w.heap.size ≠ w.heap.size + 1 from Nat.ne_of_lt (Nat.lt_succ_self _))).trans hz5⟩
          clear hall hR hxs hout hnf5 hq19 hne19 hb5 hz5
          simp only [slotsOn, putAll, List.set_cons_succ, List.set_cons_zero, List.drop_succ_cons, List.drop_zero]
          go_wp2
          go_roundw
          case rel => exact inv12 (k + 1) (acc ++ [⟨at_, d, sz, ((pm % 8 : Nat) : Int)⟩]) _ (by simp) (by omega) (Hid.out HU).1 (by rw [List.length_append, List.length_singleton]; omega) (fits_snoc (Hid.out HFITS) (Hid.out HFX)) (Hid.out HNX) (Hid.out HU).2.2.2 (Hid.out HU).2.1 (Hid.out HU).2.2.1
          case measure => simp [intOf]; omega
    · have hk2 : ¬ (k : Int) < (n : Int) := by omega
      obtain rfl : k = n := by omega
      rw [Nat.sub_self, segsE] at hseg0
      have hp := Hid.out HPAR _ hseg0
      simp only at hp
      have H17 := hidden (rcheck_any wr sa sc ent acc hsg hsl hsm hent)
      have HSG := hidden hsg
      have HF := hidden hF
      obtain ⟨g0, g1, hgl, hgf⟩ := file_facts hF
      clear ho hfits hseg0 hZ hF hbel hsg htab
      by_cases h4 : checkE ent acc = 0
      case neg =>
        rw [if_pos h4] at hp
        have HP := hidden hp
        have k4 : ¬ ((checkE ent acc : Nat) : Int) = 0 := by omega
        clear hp h4
        generalize checkE ent acc = c at H17 k4 HP
        go_wp2_with (first | (go_at_call 26; with_reducible refine (Hid.out H26).mono ?_; rintro e w4 ⟨rfl, hww⟩; rw [hww]; clear hww w4) | (go_at_call 17; with_reducible refine (Hid.out H17).mono ?_; rintro e we ⟨rfl, hb⟩; have HBY := hidden (bthen (Hid.out HBX) hb); have HZY := hidden (Blk.later (Hid.out HZX) hb); obtain ⟨z0, z1, hzl, hzf⟩ := zero26 (Hid.out HZY); clear hb))
        have hf : Blk _ w.heap.size _ 26 := (Hid.out HZY).set2 (a' := .int .u32 0) (b' := .slice none 0 0)
        have hbf := below_set2 (a' := .int .u32 0) (b' := .slice none 0 0) (g := w.heap.size) (Hid.out HBY) (Nat.le_refl _)
        generalize World.setCell _ _ _ = wf at hf hbf ⊢
        have f0 : wf.cell? ⟨w.heap.size, 0, none⟩ = some (.int .u32 0) := hf.cell rfl
        have f1 : wf.cell? ⟨w.heap.size, 1, none⟩ = some (.slice none 0 0) := hf.cell rfl
        exact bodyPost_ret (v := .tuple #[.agg #[.int .u32 0, .slice none 0 0], .int .i64 (c : Int)]) (by simp [results, Try.results12, go_sem, f0, f1]) rfl (by rw [Hid.out HP]; exact ⟨none, 0, rfl, .inl rfl, by simp, by omega, hbf⟩)
      rw [if_neg (by rw [h4]; simp)] at hp
      have HP := hidden hp
      rw [h4] at H17
      clear hp h4
      go_wp2_with (first | (go_at_call 26; with_reducible refine (Hid.out H26).mono ?_; rintro e w4 ⟨rfl, hww⟩; rw [hww]; clear hww w4) | (go_at_call 17; with_reducible refine (Hid.out H17).mono ?_; rintro e we ⟨rfl, hb⟩; have HBY := hidden (bthen (Hid.out HBX) hb); have HZY := hidden (Blk.later (Hid.out HZX) hb); have HSY := hidden (Segs.later (Hid.out HSG) hb); obtain ⟨z0, z1, hzl, hzf⟩ := zero26 (Hid.out HZY); have HFY := Blk.later (Hid.out HF) hb; obtain ⟨y0, y1, hyl, hyf⟩ := file_facts HFY; clear hb HFY))
      have hf : Blk _ w.heap.size _ 26 := (Hid.out HZY).set2 (a' := .int .u32 (ent : Int)) (b' := .slice sa acc.length sc)
      have hbf := below_set2 (a' := .int .u32 (ent : Int)) (b' := .slice sa acc.length sc) (g := w.heap.size) (Hid.out HBY) (Nat.le_refl _)
      have hsf := ((Hid.out HSY).set (j := 0) (v := .int .u32 (ent : Int)) (segs_ne (Hid.out HSY) (Hid.out HZY))).set (j := 1) (v := .slice sa acc.length sc) (segs_ne (Hid.out HSY) (Hid.out HZY))
      generalize World.setCell _ _ _ = wf at hf hbf hsf ⊢
      have f0 : wf.cell? ⟨w.heap.size, 0, none⟩ = some (.int .u32 (ent : Int)) := hf.cell rfl
      have f1 : wf.cell? ⟨w.heap.size, 1, none⟩ = some (.slice sa acc.length sc) := hf.cell rfl
      exact bodyPost_ret (v := .tuple #[.agg #[.int .u32 (ent : Int), .slice sa acc.length sc], .int .i64 0]) (by simp [results, Try.results12, go_sem, f0, f1]) rfl (by rw [Hid.out HP]; exact ⟨sa, sc, rfl, hsf, hsl, hsm, hbf⟩)
end Go.Proofs.Ytjpmagekianpdaa

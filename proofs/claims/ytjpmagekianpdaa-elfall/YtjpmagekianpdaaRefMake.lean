/- Chapter 6's own Make. -/
import Derived.Test.YtjpmagekianpdaaRefBytes
import Derived.Test.YtjpmagekianpdaaRefCheck
namespace Go.Proofs.Ytjpmagekianpdaa
open Go.ChangeShapes Go.WideShapes Go.ChangeAt Go.RowKit
set_option linter.unusedVariables false
set_option maxRecDepth 20000 in
set_option maxHeartbeats 4000000 in
theorem rmake_any (w : World) (ao : Option Addr) (cap ent : Nat) (l : List Sg) (h : Segs w ao l) (hcap : l.length ≤ cap) (hmax : cap ≤ 9223372036854775807) (he : ent < 4294967296) : Calls Try.prog 14 #[.agg #[.int .u32 (ent : Int), .slice ao l.length cap]] w fun e w' => ∃ v', e = .returned (.tuple #[v', .int .i64 ((makeE ent l).2 : Int)]) ∧ Out w' w.heap.size v' (makeE ent l).1 ∧ Below w.heap.size w w' := by
  have hb0 : Below w.heap.size w (w.alloc (.cells #[.int .u32 (ent : Int), .slice ao l.length cap] 26)) := below_new w _
  have hg0 := Blk.new w #[.int .u32 (ent : Int), .slice ao l.length cap] 26
  have H17 : Hid (Calls Try.prog 17 #[.agg #[.int .u32 (ent : Int), .slice ao l.length cap]] (w.alloc (.cells #[.int .u32 (ent : Int), .slice ao l.length cap] 26)) fun e w' => e = .returned (.int .i64 (checkE ent l : Int)) ∧ Below w.heap.size w w' ∧ Blk w' w.heap.size #[.int .u32 (ent : Int), .slice ao l.length cap] 26) := by
    refine (rcheck_any _ ao cap ent l (h.later hb0) hcap hmax he).mono ?_
    rintro e w' ⟨h1, h2⟩
    exact ⟨h1, bthen hb0 h2, hg0.later h2⟩
  have H := hidden h
  clear h hb0 hg0
  by_cases hc : checkE ent l = 0
  case neg =>
    have HE : Hid (makeE ent l = ([], checkE ent l)) := by
      show makeE ent l = _
      unfold makeE
      rw [if_pos hc]
    rw [Hid.out HE]
    simp only
    have hc2 : ¬ ((checkE ent l : Nat) : Int) = 0 := by omega
    generalize checkE ent l = c at H17 hc2
    go_enter Try.func14, Try.ntmps14
    go_wp2_with (go_at_call 17; with_reducible refine (Hid.out H17).mono ?_; rintro e w1 ⟨rfl, hb1, hg1⟩; have HB1 := hidden hb1; clear hb1 hg1)
    go_ret2
    exact ⟨_, rfl, out_nil _ _, Hid.out HB1⟩
  rw [hc] at H17
  obtain ⟨h8, hok, _, _⟩ := check_zero hc
  have HM : Hid (makeE ent l = if 16384 < (fileB ent l).length then ([], 2) else (fileB ent l, 0)) := by
    show makeE ent l = _
    unfold makeE
    rw [if_neg (by omega)]
  have H31 : Hid (∀ w1, Below w.heap.size w w1 → Calls Try.prog 31 #[.agg #[.int .u32 (ent : Int), .slice ao l.length cap]] w1 fun e w' => ∃ ao' c', e = .returned (.slice ao' (fileB ent l).length c') ∧ Out w' w.heap.size (.slice ao' (fileB ent l).length c') (fileB ent l) ∧ Below w.heap.size w w') := by
    intro w1 hb1
    refine (rbytes_any w1 ao cap ent l ((Hid.out H).later hb1) hcap hmax he h8 hok).mono ?_
    rintro e w' ⟨v', h1, h2, h3⟩
    obtain ⟨ao', c', rfl, _⟩ := h2.row
    exact ⟨ao', c', h1, h2.mono hb1.size, bthen hb1 h3⟩
  have hfl := fileB_len ent l
  have hdl := datas_len hok l.length (Nat.le_refl _)
  rw [List.take_length] at hdl
  have hfm : (fileB ent l).length ≤ 200000 := by omega
  clear hok hfl hdl
  obtain ⟨F, hF⟩ : ∃ F, F = fileB ent l := ⟨_, rfl⟩
  rw [← hF] at HM H31 hfm
  clear hF
  by_cases hbig : 16384 < F.length
  · have hbig2 : (16384 : Int) < (F.length : Int) := by omega
    rw [if_pos hbig] at HM
    rw [Hid.out HM]
    simp only
    go_enter Try.func14, Try.ntmps14
    go_wp2_with (first | (go_at_call 17; with_reducible refine (Hid.out H17).mono ?_; rintro e w1 ⟨rfl, hb1, hg1⟩; have hlt1 := Blk.lt hg1; have f0 : w1.cell? ⟨w.heap.size, 0, none⟩ = some (.int .u32 (ent : Int)) := Blk.cell hg1 rfl; have f1 : w1.cell? ⟨w.heap.size, 1, none⟩ = some (.slice ao l.length cap) := Blk.cell hg1 rfl; have HC := hidden (Hid.out H31 w1 hb1); clear hb1 hg1) | (go_at_call 31; with_reducible refine (Hid.out HC).mono ?_; rintro e w2 ⟨ao', c', rfl, ho2, hb2⟩; have HB2 := hidden hb2; clear ho2 hb2))
    go_ret2
    exact ⟨_, rfl, out_nil _ _, Hid.out HB2⟩
  · have hbig2 : ¬ (16384 : Int) < (F.length : Int) := by omega
    rw [if_neg hbig] at HM
    rw [Hid.out HM]
    simp only
    go_enter Try.func14, Try.ntmps14
    go_wp2_with (first | (go_at_call 17; with_reducible refine (Hid.out H17).mono ?_; rintro e w1 ⟨rfl, hb1, hg1⟩; have hlt1 := Blk.lt hg1; have f0 : w1.cell? ⟨w.heap.size, 0, none⟩ = some (.int .u32 (ent : Int)) := Blk.cell hg1 rfl; have f1 : w1.cell? ⟨w.heap.size, 1, none⟩ = some (.slice ao l.length cap) := Blk.cell hg1 rfl; have HC := hidden (Hid.out H31 w1 hb1); clear hb1 hg1) | (go_at_call 31; with_reducible refine (Hid.out HC).mono ?_; rintro e w2 ⟨ao', c', rfl, ho2, hb2⟩; have HB2 := hidden hb2; have HO2 := hidden ho2; clear ho2 hb2))
    go_ret2
    exact ⟨_, rfl, Hid.out HO2, Hid.out HB2⟩
end Go.Proofs.Ytjpmagekianpdaa

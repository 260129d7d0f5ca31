/- ElfBack, walked. -/
import Derived.Test.YtjpmagekianpdaaSame
namespace Go.Proofs.Ytjpmagekianpdaa
open Go.ChangeShapes Go.WideShapes Go.ChangeAt Go.RowKit
set_option linter.unusedVariables false
theorem make_ok {e : Nat} {l : List Sg} (h : (makeE e l).2 = 0) : checkE e l = 0 ∧ (fileB e l).length ≤ 16384 ∧ (makeE e l).1 = fileB e l := by
  unfold makeE at h ⊢
  by_cases a : checkE e l = 0
  · rw [if_neg (by rw [a]; simp)] at h ⊢
    by_cases b : 16384 < (fileB e l).length
    · rw [if_pos b] at h; simp at h
    · rw [if_neg b]
      exact ⟨a, by omega, rfl⟩
  · rw [if_pos a] at h
    exact absurd h a
theorem make_bad {e : Nat} {l : List Sg} (h : (makeE e l).2 ≠ 0) : (makeE e l).1 = [] := by
  unfold makeE at h ⊢
  by_cases a : checkE e l = 0
  · rw [if_neg (by rw [a]; simp)] at h ⊢
    by_cases b : 16384 < (fileB e l).length
    · rw [if_pos b]
    · rw [if_neg b] at h; simp at h
  · rw [if_pos a]
set_option maxRecDepth 20000 in
set_option maxHeartbeats 2000000 in
theorem back_walk (w : World) (ao : Option Addr) (cap ent : Nat) (l : List Sg) (h : Segs w ao l) (hcap : l.length ≤ cap) (hmax : cap ≤ 9223372036854775807) (he : ent < 4294967296) : Calls Try.prog 4 #[.agg #[.int .u32 (ent : Int), .slice ao l.length cap]] w fun e w' => e = .returned (.bool true) ∧ Below w.heap.size w w' := by
  have hb0 := below_new w (.cells #[.int .u32 (ent : Int), .slice ao l.length cap] 26)
  have HF := hidden (Blk.new w #[.int .u32 (ent : Int), .slice ao l.length cap] 26)
  have HS := hidden h
  have HB0 := hidden hb0
  have H8 := hidden (few_any _ ao cap ent l (h.later hb0) hcap hmax)
  have H13 : Hid (∀ w1, Below w.heap.size w w1 → Calls Try.prog 13 #[.agg #[.int .u32 (ent : Int), .slice ao l.length cap]] w1 fun e w' => ∃ va vc, e = .returned (.tuple #[.slice va (makeE ent l).1.length vc, .int .i64 ((makeE ent l).2 : Int)]) ∧ Row w' va (makeE ent l).1 vc ∧ Below w1.heap.size w1 w') := by
    intro w1 hb
    refine (make_any w1 ao cap ent l (h.later hb) hcap hmax he).mono ?_
    rintro e w' ⟨v, h1, h2, h3⟩
    obtain ⟨va, vc, rfl, hr⟩ := h2.row
    exact ⟨va, vc, h1, hr, h3⟩
  clear h hb0
  cases hfew : fewB l
  · rw [hfew] at H8
    clear hfew
    go_enter Try.func4, Try.ntmps4
    go_wp2_with (first | (go_at_call 8; with_reducible refine (Hid.out H8).mono ?_; rintro e wa ⟨rfl, hb⟩; have HA := hidden (bthen (Hid.out HB0) hb); clear hb) | (go_at_call 9; with_reducible refine (awake_any _).mono ?_; rintro e wb ⟨rfl, hb⟩; have HB := hidden (bthen (Hid.out HA) hb); clear hb))
    go_ret
    exact ⟨rfl, Hid.out HB⟩
  rw [hfew] at H8
  clear hfew
  by_cases hm : (makeE ent l).2 = 0
  case neg =>
    rw [make_bad hm] at H13
    have hm2 : ¬ (((makeE ent l).2 : Nat) : Int) = 0 := by omega
    generalize (makeE ent l).2 = c at H13 hm2
    clear hm
    go_enter Try.func4, Try.ntmps4
    go_wp2_with (first | (go_at_call 8; with_reducible refine (Hid.out H8).mono ?_; rintro e wa ⟨rfl, hb⟩; have HA := hidden (bthen (Hid.out HB0) hb); have hfa := Blk.later (Hid.out HF) hb; have c0 : wa.cell? ⟨w.heap.size, 0, none⟩ = some (.int .u32 (ent : Int)) := Blk.cell hfa rfl; have c1 : wa.cell? ⟨w.heap.size, 1, none⟩ = some (.slice ao l.length cap) := Blk.cell hfa rfl; have hfl := Blk.lt hfa; clear hb hfa) | (go_at_call 13; with_reducible refine (Hid.out H13 wa (Hid.out HA)).mono ?_; rintro e wb ⟨va, vc, rfl, hr, hb⟩; have HB := hidden (bthen (Hid.out HA) hb); clear hb hr) | (go_at_call 9; with_reducible refine (awake_any _).mono ?_; rintro e wc ⟨rfl, hb⟩; have HC := hidden (bthen (Hid.out HB) hb); clear hb))
    go_ret
    exact ⟨rfl, Hid.out HC⟩
  obtain ⟨m1, m2, m3⟩ := make_ok hm
  rw [m3, hm] at H13
  have hpb := parse_back he m1 m2
  have H10 : Hid (∀ w1 va vc, Row w1 va (fileB ent l) vc → Calls Try.prog 10 #[.slice va (fileB ent l).length vc] w1 fun e w' => ∃ pa pc, e = .returned (.tuple #[.agg #[.int .u32 (ent : Int), .slice pa l.length pc], .int .i64 0]) ∧ Segs w' pa l ∧ l.length ≤ pc ∧ pc ≤ 9223372036854775807 ∧ Below w1.heap.size w1 w') := by
    intro w1 va vc hr
    have := parse_any w1 va (fileB ent l) vc hr (by omega)
    rw [hpb] at this
    exact this
  have H15 : Hid (∀ w1 pa pc, Segs w1 pa l → Segs w1 ao l → l.length ≤ pc → pc ≤ 9223372036854775807 → Calls Try.prog 15 #[.agg #[.int .u32 (ent : Int), .slice pa l.length pc], .agg #[.int .u32 (ent : Int), .slice ao l.length cap]] w1 fun e w' => e = .returned (.bool true) ∧ Below w1.heap.size w1 w') := fun w1 pa pc h1 h2 h3 h4 => same_any w1 pa ao pc cap ent l h1 h2 h3 hcap h4 hmax
  clear hm m1 m2 m3 hpb
  go_enter Try.func4, Try.ntmps4
  go_wp2_with (first | (go_at_call 8; with_reducible refine (Hid.out H8).mono ?_; rintro e wa ⟨rfl, hb⟩; have HA := hidden (bthen (Hid.out HB0) hb); have hfa := Blk.later (Hid.out HF) hb; have HFA := hidden hfa; have c0 : wa.cell? ⟨w.heap.size, 0, none⟩ = some (.int .u32 (ent : Int)) := Blk.cell hfa rfl; have c1 : wa.cell? ⟨w.heap.size, 1, none⟩ = some (.slice ao l.length cap) := Blk.cell hfa rfl; have hfl := Blk.lt hfa; clear hb hfa) | (go_at_call 13; with_reducible refine (Hid.out H13 wa (Hid.out HA)).mono ?_; rintro e wb ⟨va, vc, rfl, hr, hb⟩; have HB := hidden (bthen (Hid.out HA) hb); have HFB := hidden (Blk.later (Hid.out HFA) hb); have HRB := hidden hr; clear hb hr) | (go_at_call 10; with_reducible refine (Hid.out H10 wb va vc (Hid.out HRB)).mono ?_; rintro e wc ⟨pa, pc, rfl, hsg, hpl, hpm, hb⟩; have hx := below_new wc (.cells #[.int .u32 (ent : Int), .slice pa l.length pc] 26); have HC := hidden (bthen (bthen (Hid.out HB) hb) hx); have hfc := Blk.later (Hid.out HFB) hb; have d0 : wc.cell? ⟨w.heap.size, 0, none⟩ = some (.int .u32 (ent : Int)) := Blk.cell hfc rfl; have d1 : wc.cell? ⟨w.heap.size, 1, none⟩ = some (.slice ao l.length cap) := Blk.cell hfc rfl; have hfd := Blk.lt hfc; have H15b := hidden (Hid.out H15 _ pa pc (Segs.later hsg hx) (Segs.later (Hid.out HS) (bthen (bthen (Hid.out HB) hb) hx)) hpl hpm); clear hb hfc hx hsg) | (go_at_call 15; with_reducible refine (Hid.out H15b).mono ?_; rintro e wd ⟨rfl, hb⟩; have HD := hidden (bthen (Hid.out HC) hb); clear hb) | (go_at_call 9; with_reducible refine (awake_any _).mono ?_; rintro e we ⟨rfl, hb⟩; have HE := hidden (bthen (Hid.out HD) hb); clear hb))
  go_ret
  exact ⟨rfl, Hid.out HE⟩
end Go.Proofs.Ytjpmagekianpdaa

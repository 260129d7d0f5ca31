/- The library's sort of words: what holds in its round. -/
import Derived.Test.YtodoenimlhldjaaBMAM
import Derived.Deep.Cut
import Derived.Deep.CutRange
import Derived.Test.YtodoenimlhldjaaBMAT
import Derived.Test.YtodoenimlhldjaaBMAG
import Derived.Test.YtodoenimlhldjaaBMAH
namespace Go.Proofs.Ytodoenimlhldjaa
open Go.ChangeShapes Go.WideShapes Go.ChangeAt Go.RowKit
set_option linter.unusedVariables false
def Low (m : List Nat) (a b : Nat) : Prop := 0 < a → ∀ p, a ≤ p → p < b → m.getD (a - 1) 0 ≤ m.getD p 0
/-- Within [A, B) all but what lies in [a, b) is in its place. -/
def Ord (m : List Nat) (A B a b : Nat) : Prop := ∀ p q, A ≤ p → p < q → q < B → (p < a ∨ b ≤ q) → m.getD p 0 ≤ m.getD q 0
structure Pq (w wx : World) (g : Nat) (d m : List Nat) (tl : List Value) (A B a b : Nat) : Prop where
  row : Srow wx g m tl
  tur : Turned d m A B
  ord : Ord m A B a b
  low : Low m a b
  keep : Keep (· = g) w wx
theorem Pq.len {w wx : World} {g A B a b : Nat} {d m : List Nat} {tl : List Value} (h : Pq w wx g d m tl A B a b) : m.length = d.length := h.tur.len
theorem Keep.thru {g : Nat} {u v w : World} (h : Keep (· = g) u v) (k : Keep (· = g) v w) : Keep (· = g) u w := h.trans k fun _ _ e => e
theorem Pq.turned {w wx wy : World} {g A B a b : Nat} {d m k : List Nat} {tl : List Value} (h : Pq w wx g d m tl A B a b) (hr : Srow wy g k tl) (ht : Turned m k a b) (hk : Keep (· = g) wx wy) (h1 : A ≤ a) (h2 : a ≤ b) (h3 : b ≤ B) (h4 : B ≤ d.length) : Pq w wy g d k tl A B a b := by
  have hl := h.len
  refine ⟨hr, h.tur.trans (ht.wide h1 h3), fun p q hp hpq hq hor => ?_, fun ha p hp hpb => ?_, h.keep.thru hk⟩
  · rcases hor with hpa | hqb
    · rw [ht.out p (by omega)]
      by_cases hin : a ≤ q ∧ q < b
      · exact ht.all h2 (by omega) (fun x => m.getD p 0 ≤ x) (fun j j1 j2 => h.ord p j hp (by omega) (by omega) (.inl hpa)) q hin.1 hin.2
      · rw [ht.out q (by omega)]
        exact h.ord p q hp hpq hq (.inl hpa)
    · rw [ht.out q (by omega)]
      by_cases hin : a ≤ p ∧ p < b
      · exact ht.all h2 (by omega) (fun x => x ≤ m.getD q 0) (fun j j1 j2 => h.ord j q (by omega) (by omega) hq (.inr hqb)) p hin.1 hin.2
      · rw [ht.out p (by omega)]
        exact h.ord p q hp hpq hq (.inr hqb)
  · rw [ht.out (a - 1) (by omega)]
    exact ht.all h2 (by omega) (fun x => m.getD (a - 1) 0 ≤ x) (fun j j1 j2 => h.low ha j j1 j2) p hp hpb
theorem Pq.done {w wx : World} {g A B a b : Nat} {d m : List Nat} {tl : List Value} (h : Pq w wx g d m tl A B a b) (hs : SortedOn m a b) : SortedOn m A B := by
  intro p q hp hpq hq
  by_cases hin : p < a ∨ b ≤ q
  · exact h.ord p q hp hpq hq hin
  · exact hs p q (by omega) hpq (by omega)
/-- Behind partitionEqual. -/
theorem Pq.equal {w wx : World} {g A B a b i j : Nat} {d m : List Nat} {tl : List Value} (h : Pq w wx g d m tl A B a b) (ha : 0 < a) (hv : m.getD a 0 ≤ m.getD (a - 1) 0) (hp : PEq m a b i j) (h1 : A ≤ a) (hai : a < i) (hib : i ≤ b) (h3 : b ≤ B) : Pq w wx g d m tl A B i b := by
  have hlow : ∀ p q, a ≤ p → p < i → a ≤ q → q < b → m.getD p 0 ≤ m.getD q 0 := fun p q p1 p2 q1 q2 => Nat.le_trans (hp.low p p1 p2) (Nat.le_trans hv (h.low ha q q1 q2))
  refine ⟨h.row, h.tur, fun p q hp1 hpq hq hor => ?_, fun _ p hp1 hp2 => hlow (i - 1) p (by omega) (by omega) (by omega) hp2, h.keep⟩
  by_cases hin : p < a ∨ b ≤ q
  · exact h.ord p q hp1 hpq hq hin
  · exact hlow p q (by omega) (by omega) (by omega) (by omega)
/-- Behind partition and the sort of the left part. -/
theorem Pq.left {w wx wy : World} {g A B a b j : Nat} {d m k : List Nat} {tl : List Value} (h : Pq w wx g d m tl A B a b) (hm : Mid m a b j) (hr : Srow wy g k tl) (ht : Turned m k a j) (hs : SortedOn k a j) (hk : Keep (· = g) wx wy) (h1 : A ≤ a) (haj : a ≤ j) (hjb : j < b) (h3 : b ≤ B) (h4 : B ≤ d.length) : Pq w wy g d k tl A B (j + 1) b := by
  have hl := h.len
  have hP := h.turned hr (ht.wide (Nat.le_refl _) (Nat.le_of_lt hjb)) hk h1 (by omega) h3 h4
  have hj : k.getD j 0 = m.getD j 0 := ht.out j (by omega)
  have hhi : ∀ q, j < q → q < b → k.getD j 0 ≤ k.getD q 0 := fun q q1 q2 => by rw [hj, ht.out q (by omega)]; exact hm.high q q1 q2
  have hlo : ∀ p, a ≤ p → p < j → k.getD p 0 ≤ k.getD j 0 := fun p p1 p2 => by
    rw [hj]
    exact ht.all haj (by omega) (fun x => x ≤ m.getD j 0) (fun i i1 i2 => hm.low i i1 i2) p p1 p2
  refine ⟨hr, hP.tur, fun p q hp1 hpq hq hor => ?_, fun _ p hp1 hp2 => by rw [Nat.add_sub_cancel]; exact hhi p (by omega) hp2, hP.keep⟩
  by_cases hin : p < a ∨ b ≤ q
  · exact hP.ord p q hp1 hpq hq hin
  · by_cases hpj : p = j
    · subst hpj
      exact hhi q hpq (by omega)
    · have hpj2 : p < j := by omega
      by_cases hqj : q < j
      · exact hs p q (by omega) hpq hqj
      · by_cases hqe : q = j
        · subst hqe
          exact hlo p (by omega) hpj2
        · exact Nat.le_trans (hlo p (by omega) hpj2) (hhi q (by omega) (by omega))
/-- Behind partition and the sort of the right part. -/
theorem Pq.right {w wx wy : World} {g A B a b j : Nat} {d m k : List Nat} {tl : List Value} (h : Pq w wx g d m tl A B a b) (hm : Mid m a b j) (hr : Srow wy g k tl) (ht : Turned m k (j + 1) b) (hs : SortedOn k (j + 1) b) (hk : Keep (· = g) wx wy) (h1 : A ≤ a) (haj : a ≤ j) (hjb : j < b) (h3 : b ≤ B) (h4 : B ≤ d.length) : Pq w wy g d k tl A B a j := by
  have hl := h.len
  have hP := h.turned hr (ht.wide (by omega) (Nat.le_refl _)) hk h1 (by omega) h3 h4
  have hj : k.getD j 0 = m.getD j 0 := ht.out j (by omega)
  have hlo : ∀ p, a ≤ p → p < j → k.getD p 0 ≤ k.getD j 0 := fun p p1 p2 => by rw [hj, ht.out p (by omega)]; exact hm.low p p1 p2
  have hhi : ∀ q, j < q → q < b → k.getD j 0 ≤ k.getD q 0 := fun q q1 q2 => by
    rw [hj]
    exact ht.all (by omega) (by omega) (fun x => m.getD j 0 ≤ x) (fun i i1 i2 => hm.high i (by omega) i2) q (by omega) q2
  refine ⟨hr, hP.tur, fun p q hp1 hpq hq hor => ?_, fun ha p hp1 hp2 => hP.low ha p hp1 (by omega), hP.keep⟩
  by_cases hin : p < a ∨ b ≤ q
  · exact hP.ord p q hp1 hpq hq hin
  · by_cases hqj : q = j
    · subst hqj
      exact hlo p (by omega) hpq
    · have hqj2 : j < q := by omega
      by_cases hpj : j < p
      · exact hs p q (by omega) hpq (by omega)
      · by_cases hpe : p = j
        · subst hpe
          exact hhi q hqj2 (by omega)
        · exact Nat.le_trans (hlo p (by omega) (by omega)) (hhi q hqj2 (by omega))
end Go.Proofs.Ytodoenimlhldjaa
namespace Go.Proofs.Ytodoenimlhldjaa
open Go.ChangeShapes Go.WideShapes Go.ChangeAt Go.RowKit
set_option linter.unusedVariables false
def PdqSays (w : World) (g : Nat) (d : List Nat) (tl : List Value) (A B : Nat) (e : Ending) (w' : World) : Prop :=
  e = .returned (.tuple #[]) ∧ ∃ m, Srow w' g m tl ∧ Turned d m A B ∧ SortedOn m A B ∧ Keep (· = g) w w'
set_option maxRecDepth 20000 in
set_option maxHeartbeats 8000000 in
theorem pdq_any (g cap : Nat) (tl : List Value) (N : Nat) : ∀ (w : World) (A B : Nat) (d : List Nat) (lim : Int), B - A = N → Srow w g d tl → A ≤ B → B ≤ d.length → d.length ≤ 64 → Low d A B →
    Calls Try.prog 82 #[.slice (some ⟨g, 0, none⟩) d.length cap, .int .i64 (A : Int), .int .i64 (B : Int), .int .i64 lim] w (PdqSays w g d tl A B) := by
  induction N using Nat.strongRecOn with
  | ind N ih =>
  intro w A B d lim0 hN h hAB hB hlen hlow
  have IH : Hid (∀ (w1 : World) (a b : Nat) (m : List Nat) (lim : Int), b - a < N → Srow w1 g m tl → a ≤ b → b ≤ m.length → m.length = d.length → Low m a b → Calls Try.prog 82 #[.slice (some ⟨g, 0, none⟩) d.length cap, .int .i64 (a : Int), .int .i64 (b : Int), .int .i64 lim] w1 (PdqSays w1 g m tl a b)) := fun w1 a b m lim h1 h2 h3 h4 h5 h6 => by
    have := ih (b - a) h1 w1 a b m lim rfl h2 h3 h4 (by omega) h6
    rw [h5] at this
    exact this
  have HP0 : Hid (Pq w w g d d tl A B A B) := ⟨h, Turned.refl _ _ _, fun p q h1 h2 h3 h4 => by omega, hlow, Keep.refl _ _⟩
  clear ih h hlow
  go_enter Try.func82, Try.ntmps82
  go_wp2
  go_loopw [1, 2, 3, 8, 9] (fun x1 x2 x3 x8 x9 wr => ∃ (a b : Nat) (lim : Int) (bb bp : Bool) (m : List Nat), x1 = .int .i64 (a : Int) ∧ x2 = .int .i64 (b : Int) ∧ x3 = .int .i64 lim ∧ x8 = .bool bb ∧ x9 = .bool bp ∧ A ≤ a ∧ a ≤ b ∧ b ≤ B ∧ Pq w wr g d m tl A B a b) (fun x1 x2 _ _ _ _ => (intOf x2).toNat - (intOf x1).toNat)
  case atStart => exact ⟨A, B, lim0, true, true, d, rfl, rfl, rfl, rfl, rfl, Nat.le_refl _, hAB, Nat.le_refl _, Hid.out HP0⟩
  case round =>
    obtain ⟨a, b, lim, bb, bp, m, rfl, rfl, rfl, rfl, rfl, hAa, hab, hbB, hP⟩ := hrel
    have hml := hP.len
    have hbd : b ≤ d.length := by omega
    obtain ⟨n, hn⟩ : ∃ n : Nat, (b : Int) - (a : Int) = (n : Int) := ⟨b - a, by omega⟩
    by_cases h12 : n ≤ 12
    · have h122 : (n : Int) ≤ 12 := by omega
      have H89 : Hid (Calls Try.prog 85 #[.slice (some ⟨g, 0, none⟩) d.length cap, .int .i64 (a : Int), .int .i64 (b : Int)] wr fun e w' => e = .returned (.tuple #[]) ∧ ∃ k, Srow w' g k tl ∧ Turned d k A B ∧ SortedOn k A B ∧ Keep (· = g) w w') := by
        have := insertion_any wr g cap a b m tl hP.row hab (by omega) (by omega)
        rw [hml] at this
        refine this.mono ?_
        rintro e w' ⟨he, k, h1, h2, h3, h4⟩
        have hP2 := hP.turned h1 h2 (Keep.of_only h4) hAa hab hbB hB
        exact ⟨he, k, h1, hP2.tur, hP2.done h3, hP2.keep⟩
      clear hP IH HP0 hml
      go_wp2_with (go_at_call 85; refine (Hid.out H89).mono ?_; rintro e w1 ⟨rfl, hk⟩; have HK := hidden hk; clear hk)
      first | go_end0 | refine bodyPost_ret (results_none rfl _ _ _) rfl ?_
      exact ⟨rfl, Hid.out HK⟩
    · have h122 : ¬ (n : Int) ≤ 12 := by omega
      by_cases hl0 : lim = 0
      · subst hl0
        have H90 : Hid (Calls Try.prog 86 #[.slice (some ⟨g, 0, none⟩) d.length cap, .int .i64 (a : Int), .int .i64 (b : Int)] wr fun e w' => e = .returned (.tuple #[]) ∧ ∃ k, Srow w' g k tl ∧ Turned d k A B ∧ SortedOn k A B ∧ Keep (· = g) w w') := by
          have := heapsort_any wr g cap a b m tl hP.row (by omega) (by omega) (by omega)
          rw [hml] at this
          refine this.mono ?_
          rintro e w' ⟨he, k, h1, h2, h3, h4⟩
          have hP2 := hP.turned h1 h2 (Keep.of_only h4) hAa hab hbB hB
          exact ⟨he, k, h1, hP2.tur, hP2.done h3, hP2.keep⟩
        clear hP IH HP0 hml
        go_wp2_with (go_at_call 86; refine (Hid.out H90).mono ?_; rintro e w1 ⟨rfl, hk⟩; have HK := hidden hk; clear hk)
        first | go_end0 | refine bodyPost_ret (results_none rfl _ _ _) rfl ?_
        exact ⟨rfl, Hid.out HK⟩
      · have HPQ := hidden hP
        have hn13 : a + 12 < b := by omega
        clear hP
        go_upto_if 35 with (fail)
        go_cut [3] from 19 to 133 (fun x3 wx => ∃ (lim : Int) (m : List Nat), x3 = .int .i64 lim ∧ Pq w wx g d m tl A B a b)
        case first =>
          have H91 : Hid (Calls Try.prog 87 #[.slice (some ⟨g, 0, none⟩) d.length cap, .int .i64 (a : Int), .int .i64 (b : Int)] wr fun e w' => e = .returned (.tuple #[]) ∧ ∃ k, Pq w w' g d k tl A B a b) := by
            have hP := Hid.out HPQ
            have := breaks_any wr g cap a b m tl hP.row hn13 (by omega) (by omega)
            rw [hml] at this
            refine this.mono ?_
            rintro e w' ⟨he, k, h1, h2, h3⟩
            exact ⟨he, k, hP.turned h1 h2 h3 hAa hab hbB hB⟩
          cases bb
          · go_wp2_with (go_at_call 87; refine (Hid.out H91).mono ?_; rintro e w1 ⟨rfl, k, hk⟩; have HK := hidden hk; clear hk)
            go_meet
            case rel => exact ⟨_, k, rfl, Hid.out HK⟩
          · go_wp2
            go_meet
            case rel => exact ⟨lim, m, rfl, Hid.out HPQ⟩
        case rest =>
          obtain ⟨lim2, m2, rfl, hP2⟩ := hcut
          have hml2 := hP2.len
          have HPA := hidden hP2
          have H92 : Hid (Calls Try.prog 88 #[.slice (some ⟨g, 0, none⟩) d.length cap, .int .i64 (a : Int), .int .i64 (b : Int)] wc fun e w' => ∃ (x : Nat) (hint : Int), e = .returned (.tuple #[.int .i64 (x : Int), .int .i64 hint]) ∧ a ≤ x ∧ x < b ∧ Pq w w' g d m2 tl A B a b) := by
            have := pivot_any wc g cap a b m2 tl hP2.row hn13 (by omega) (by omega)
            rw [hml2] at this
            refine this.mono ?_
            rintro e w' ⟨x, hint, he, h1, h2, h3⟩
            exact ⟨x, hint, he, h1.1, h1.2, hP2.turned h2 (Turned.refl _ _ _) (Keep.of_below h3) hAa hab hbB hB⟩
          clear hP2 HPQ hml hl0 m
          go_upto_if 50 with (go_at_call 88; refine (Hid.out H92).mono ?_; rintro e w1 ⟨pv, hint, rfl, hv1, hv2, hP3⟩; have HPB := hidden hP3; clear hP3)
          go_cut [11, 12] from 19 to 133 (fun x11 x12 wx => ∃ (pv : Nat) (hint : Int) (m : List Nat), x11 = .int .i64 (pv : Int) ∧ x12 = .int .i64 hint ∧ a ≤ pv ∧ pv < b ∧ Pq w wx g d m tl A B a b)
          case first =>
            by_cases hh : hint = 2
            · subst hh
              have hpv : (b : Int) - 1 - ((pv : Int) - (a : Int)) = ((b - 1 - (pv - a) : Nat) : Int) := by omega
              have H93 : Hid (Calls Try.prog 89 #[.slice (some ⟨g, 0, none⟩) d.length cap, .int .i64 (a : Int), .int .i64 (b : Int)] w1 fun e w' => e = .returned (.tuple #[]) ∧ ∃ k, Pq w w' g d k tl A B a b) := by
                have hP := Hid.out HPB
                have := reverse_any w1 g cap a b m2 tl hP.row (by omega) (by omega) (by omega)
                rw [hml2] at this
                refine this.mono ?_
                rintro e w' ⟨he, k, h1, h2, h3⟩
                exact ⟨he, k, hP.turned h1 h2 (Keep.of_only h3) hAa hab hbB hB⟩
              go_wp2_with (go_at_call 89; refine (Hid.out H93).mono ?_; rintro e w2 ⟨rfl, k, hk⟩; have HK := hidden hk; clear hk)
              go_meet
              case rel => first | exact ⟨b - 1 - (pv - a), 1, k, by simp; omega, rfl, by omega, by omega, Hid.out HK⟩ | exact ⟨b - 1 - (pv - a), 1, k, rfl, rfl, by omega, by omega, Hid.out HK⟩
            · go_wp2
              go_meet
              case rel => exact ⟨pv, hint, m2, rfl, rfl, hv1, hv2, Hid.out HPB⟩
          case rest =>
            clear HPA HPB H92 hv1 hv2 hml2 pv hint m2
            obtain ⟨pv, hint, m, rfl, rfl, hv1, hv2, hP⟩ := hcut
            have hml := hP.len
            have HPC := hidden hP
            clear hP
            generalize wc = W2 at HPC ⊢
            go_upto_region 15 with (fail)
            go_cut [68] from 19 to 133 (fun x68 wx => ∃ t : Bool, x68 = .bool t ∧ wx = W2)
            case first =>
              clear HPC IH HP0
              cases bb <;> cases bp <;> by_cases hh : hint = 1
              all_goals
                go_wp2
                go_meet
                case rel => exact ⟨_, rfl, rfl⟩
            case rest =>
              obtain ⟨t, rfl, rfl⟩ := hcut
              go_upto_if 68 with (fail)
              go_cut [] from 19 to 133 (fun wx => ∃ m : List Nat, Pq w wx g d m tl A B a b)
              case first =>
                have H94 : Hid (Calls Try.prog 90 #[.slice (some ⟨g, 0, none⟩) d.length cap, .int .i64 (a : Int), .int .i64 (b : Int)] wc fun e w' => ∃ (f : Bool) (k : List Nat), e = .returned (.bool f) ∧ Pq w w' g d k tl A B a b ∧ (f = true → SortedOn k a b)) := by
                  have hP := Hid.out HPC
                  have := partins_any wc g cap a b m tl hP.row (by omega) (by omega) (by omega) hP.low
                  rw [hml] at this
                  refine this.mono ?_
                  rintro e w' ⟨f, k, he, h1, h2, h3, h4⟩
                  exact ⟨f, k, he, hP.turned h1 h2 (Keep.of_only h4) hAa hab hbB hB, h3⟩
                cases t
                · go_wp2
                  go_meet
                  case rel => exact ⟨m, Hid.out HPC⟩
                · go_wp2_with (go_at_call 90; refine (Hid.out H94).mono ?_; rintro e w2 ⟨f, k, rfl, hk, hs⟩; have HK := hidden hk; have HS := hidden hs; clear hk hs; cases f)
                  · go_meet
                    case rel => exact ⟨k, Hid.out HK⟩
                  · first | go_end0 | refine bodyPost_ret (results_none rfl _ _ _) rfl ?_
                    exact ⟨rfl, k, (Hid.out HK).row, (Hid.out HK).tur, (Hid.out HK).done (Hid.out HS (by first | rfl | trivial)), (Hid.out HK).keep⟩
              case rest =>
                clear HPC hml m
                obtain ⟨m, hP⟩ := hcut
                have hml := hP.len
                have HPD := hidden hP
                have hca := hP.row.cell (j := a - 1) (by omega)
                have hcv := hP.row.cell (j := pv) (by omega)
                clear hP
                generalize wc = W3 at HPD hca hcv ⊢
                go_upto_region 17 with (fail)
                go_cut [87] from 19 to 133 (fun x87 wx => ∃ t : Bool, x87 = .bool t ∧ (t = true → 0 < a ∧ m.getD pv 0 ≤ m.getD (a - 1) 0) ∧ ∃ nd, wx = W3.drewN nd)
                case first =>
                  have HX : Hid (∀ x y, x = m.getD (a - 1) 0 → y = m.getD pv 0 → (!decide (x < y)) = true → m.getD pv 0 ≤ m.getD (a - 1) 0) := fun x y h1 h2 h3 => by
                    subst h1 h2
                    simp only [Bool.not_eq_true', decide_eq_false_iff_not] at h3
                    omega
                  obtain ⟨xa, hxa⟩ : ∃ xa, xa = m.getD (a - 1) 0 := ⟨_, rfl⟩
                  obtain ⟨xv, hxv⟩ : ∃ xv, xv = m.getD pv 0 := ⟨_, rfl⟩
                  rw [← hxa] at hca
                  rw [← hxv] at hcv
                  have HXA := hidden hxa
                  have HXV := hidden hxv
                  have hpd : pv < d.length := by omega
                  clear HPD IH HP0 hxa hxv
                  by_cases ha0 : a = 0
                  · have ha1 : decide ((0 : Int) < (a : Int)) = false := by simp; omega
                    have ha3 : decide (0 < a) = false := by simp; omega
                    clear ha0
                    go_quiet (fail)
                    go_wp2
                    go_meet
                    case rel => exact ⟨false, rfl, (fun h => by cases h), _, rfl⟩
                  · have ha1 : (0 : Int) < (a : Int) := by omega
                    have hta : ((a : Int) - 1).toNat = a - 1 := by omega
                    have had : (a : Int) - 1 < (d.length : Int) := by omega
                    have ha2 : 0 < a := by omega
                    go_quiet ((go_at_call 91; exact Calls.quiet_of_same (less_any xa xv _)))
                    go_wp2
                    go_meet
                    case rel => exact ⟨_, rfl, fun h => ⟨ha2, Hid.out HX xa xv (Hid.out HXA) (Hid.out HXV) h⟩, _, rfl⟩
                case rest =>
                  obtain ⟨t, rfl, ht, nd, rfl⟩ := hcut
                  have hP := Hid.out HPD
                  have hPn : Pq w (W3.drewN nd) g d m tl A B a b := ⟨hP.row, hP.tur, hP.ord, hP.low, hP.keep.drewN nd⟩
                  clear hP HPD hca hcv
                  generalize W3.drewN nd = W4 at hPn ⊢
                  have HPE := hidden hPn
                  cases t
                  · clear ht
                    have H97 : Hid (Calls Try.prog 93 #[.slice (some ⟨g, 0, none⟩) d.length cap, .int .i64 (a : Int), .int .i64 (b : Int), .int .i64 (pv : Int)] W4 fun e w' => ∃ (j : Nat) (f : Bool) (k : List Nat), e = .returned (.tuple #[.int .i64 (j : Int), .bool f]) ∧ a ≤ j ∧ j < b ∧ Mid k a b j ∧ Pq w w' g d k tl A B a b ∧ ((j : Int) - (a : Int) < (b : Int) - (j : Int) ∨ ¬ (j : Int) - (a : Int) < (b : Int) - (j : Int))) := by
                      have := part_any W4 g cap a b pv m tl hPn.row hv1 hv2 (by omega) (by omega)
                      rw [hml] at this
                      refine this.mono ?_
                      rintro e w' ⟨j, f, k, he, h1, h2, h3, h4, h5, h6⟩
                      exact ⟨j, f, k, he, h1, h2, h5, hPn.turned h3 h4 (Keep.of_only h6) hAa hab hbB hB, by omega⟩
                    clear hPn HPE
                    have HIL : Hid (∀ (w2 : World) (j : Nat) (k : List Nat), a ≤ j → j < b → Mid k a b j → Pq w w2 g d k tl A B a b → Calls Try.prog 82 #[.slice (some ⟨g, 0, none⟩) d.length cap, .int .i64 (a : Int), .int .i64 (j : Int), .int .i64 lim2] w2 fun e w' => e = .returned (.tuple #[]) ∧ ∃ k2, Pq w w' g d k2 tl A B (j + 1) b) := fun w2 j k h1 h2 h3 h4 => by
                      have hl := h4.len
                      refine (Hid.out IH w2 a j k lim2 (by omega) h4.row h1 (by omega) hl (fun ha p p1 p2 => h4.low ha p p1 (by omega))).mono ?_
                      rintro e w' ⟨he, k2, r1, r2, r3, r4⟩
                      exact ⟨he, k2, h4.left h3 r1 r2 r3 r4 hAa h1 h2 hbB hB⟩
                    have HIR : Hid (∀ (w2 : World) (j : Nat) (k : List Nat), a ≤ j → j < b → Mid k a b j → Pq w w2 g d k tl A B a b → Calls Try.prog 82 #[.slice (some ⟨g, 0, none⟩) d.length cap, .int .i64 ((j : Int) + 1), .int .i64 (b : Int), .int .i64 lim2] w2 fun e w' => e = .returned (.tuple #[]) ∧ ∃ k2, Pq w w' g d k2 tl A B a j) := fun w2 j k h1 h2 h3 h4 => by
                      have hl := h4.len
                      have := Hid.out IH w2 (j + 1) b k lim2 (by omega) h4.row (by omega) (by omega) hl (fun ha p p1 p2 => by rw [Nat.add_sub_cancel]; exact h3.high p (by omega) p2)
                      rw [show ((j + 1 : Nat) : Int) = (j : Int) + 1 by omega] at this
                      refine this.mono ?_
                      rintro e w' ⟨he, k2, r1, r2, r3, r4⟩
                      exact ⟨he, k2, h4.right h3 r1 r2 r3 r4 hAa h1 h2 hbB hB⟩
                    clear IH HP0
                    go_wp2_with (first
                      | (go_at_call 93; refine (Hid.out H97).mono ?_; rintro e w2 ⟨j, f, k, rfl, hj1, hj2, hm3, hk3, hor⟩; have HL := hidden (Hid.out HIL w2 j k hj1 hj2 hm3 hk3); have HR := hidden (Hid.out HIR w2 j k hj1 hj2 hm3 hk3); clear hm3 hk3; rcases hor with hor | hor)
                      | (go_at_call 82; (first | (with_reducible refine (Hid.out HL).mono ?_) | (with_reducible refine (Hid.out HR).mono ?_)); rintro e w3 ⟨rfl, k2, hk⟩; have HK := hidden hk; clear hk))
                    · go_roundw
                      case rel => exact ⟨j + 1, b, lim2, _, f, k2, by simp, rfl, rfl, rfl, rfl, by omega, by omega, hbB, Hid.out HK⟩
                      case measure => simp [intOf]; omega
                    · go_roundw
                      case rel => exact ⟨a, j, lim2, _, f, k2, rfl, rfl, rfl, rfl, rfl, hAa, by omega, by omega, Hid.out HK⟩
                      case measure => simp [intOf]; omega
                  · obtain ⟨ha0, hle⟩ := ht rfl
                    have H96 : Hid (Calls Try.prog 92 #[.slice (some ⟨g, 0, none⟩) d.length cap, .int .i64 (a : Int), .int .i64 (b : Int), .int .i64 (pv : Int)] W4 fun e w' => ∃ (i : Nat) (k : List Nat), e = .returned (.int .i64 (i : Int)) ∧ a < i ∧ i ≤ b ∧ Pq w w' g d k tl A B i b) := by
                      have := parteq_any W4 g cap a b pv m tl hPn.row hv1 hv2 (by omega) (by omega)
                      rw [hml] at this
                      refine this.mono ?_
                      rintro e w' ⟨i, j, k, he, h1, h2, h3, h4, h5, h6, h7, h8⟩
                      have hP2 := hPn.turned h4 h5 (Keep.of_only h8) hAa hab hbB hB
                      exact ⟨i, k, he, h1, h2, hP2.equal ha0 (by rw [h7, h5.out (a - 1) (by omega)]; exact hle) h6 hAa h1 h2 hbB⟩
                    clear hPn HPE IH HP0 hle ht
                    go_wp2_with (go_at_call 92; refine (Hid.out H96).mono ?_; rintro e w2 ⟨i, k, rfl, hi1, hi2, hk⟩; have HK := hidden hk; clear hk)
                    go_roundw
                    case rel => exact ⟨i, b, lim2, bb, bp, k, rfl, rfl, rfl, rfl, rfl, by omega, hi2, hbB, Hid.out HK⟩
                    case measure => simp [intOf]; omega
end Go.Proofs.Ytodoenimlhldjaa
namespace Go.Proofs.Ytodoenimlhldjaa
open Go.ChangeShapes Go.WideShapes Go.ChangeAt Go.RowKit
set_option linter.unusedVariables false
theorem keep_grown {g : Nat} {w w' : World} (h : Keep (· = g) w w') : w.grownBy w' (some g) := ⟨h.os, h.tape, h.output, h.size, fun k hk hne => h.block k hk fun e => hne (by rw [e])⟩
theorem pdq_top (w : World) (g cap : Nat) (d : List Nat) (tl : List Value) (k : Int) (h : Srow w g d tl) (hlen : d.length ≤ 64) :
    Calls Try.prog 82 #[.slice (some ⟨g, 0, none⟩) d.length cap, .int .i64 0, .int .i64 (d.length : Int), .int .i64 k] w fun e w' => e = .returned (.tuple #[]) ∧ ∃ m, Srow w' g m tl ∧ m.Perm d ∧ SortedOn m 0 d.length ∧ Keep (· = g) w w' := by
  have hp := pdq_any g cap tl d.length w 0 d.length d k (Nat.sub_zero _) h (Nat.zero_le _) (Nat.le_refl _) hlen (fun h0 => absurd h0 (Nat.lt_irrefl 0))
  refine Calls.mono hp ?_
  rintro e w' ⟨he, m, h1, h2, h3, h4⟩
  exact ⟨he, m, h1, h2.perm, h3, h4⟩
set_option maxRecDepth 20000 in
theorem sort_any (w : World) (v : Value) (d : List Nat) (base : Nat) (hrow : w.ownsRow base 23 1 v d.length (words d)) (hlen : d.length ≤ 64) :
    Calls Try.prog 72 #[v] w fun e w' => e = .returned (.tuple #[]) ∧ ∃ m, m.Perm d ∧ SortedOn m 0 m.length ∧ w'.ownsRow base 23 1 v m.length (words m) ∧ w.grownBy w' v.ownBlock := by
  rcases hrow.2 with ⟨rfl, h0⟩ | ⟨g, cap, cur, rfl, hb, hg, hnc, hcm, hcs, htk⟩
  · have hd : d = [] := List.eq_nil_of_length_eq_zero h0
    subst hd
    have HL := hidden (len_any 0 (by omega) w)
    rw [show ((0 : Nat) : Int) = 0 from rfl] at HL
    have HP := fun k => hidden (pdq_nil w k)
    clear hrow h0 hlen
    go_enter Try.func72, Try.ntmps72
    go_wp2_with (first | (go_at_call 83; refine (Hid.out HL).mono ?_; rintro e w1 ⟨k, rfl, hww⟩; rw [hww]; clear hww w1) | (go_at_call 82; refine (Hid.out (HP _)).mono ?_; rintro e w1 ⟨rfl, hww⟩; rw [hww]; clear hww w1))
    go_end0
    exact ⟨rfl, [], List.Perm.refl _, fun p q h1 h2 h3 => by simp at h3, World.ownsRow_nil _ _ _ _, ⟨rfl, rfl, rfl, Nat.le_refl _, fun _ _ _ => rfl⟩⟩
  · have hS : Srow w g d (cur.toList.drop d.length) := by
      unfold Srow
      rw [hg]
      congr 2
      have e : cur.toList = words d ++ cur.toList.drop d.length := by
        rw [← htk, Nat.mul_one, List.take_append_drop]
      apply Array.ext'
      simp
      exact e
    have hcap : d.length ≤ cap := hnc
    have HL := hidden (len_any d.length (by omega) w)
    have HP := fun k => hidden (pdq_top w g cap d (cur.toList.drop d.length) k hS hlen)
    have hcl : (cur.toList.drop d.length).length = cap - d.length := by
      rw [List.length_drop, Array.length_toList, hcs, Nat.mul_one]
    generalize cur.toList.drop d.length = tl at HP hcl
    clear hrow hS hg htk hcs
    go_enter Try.func72, Try.ntmps72
    go_wp2_with (first | (go_at_call 83; refine (Hid.out HL).mono ?_; rintro e w1 ⟨k, rfl, hww⟩; rw [hww]; clear hww w1) | (go_at_call 82; refine (Hid.out (HP _)).mono ?_; rintro e w1 ⟨rfl, m, h1, h2, h3, h4⟩; have H1 := hidden h1; have H2 := hidden h2; have H3 := hidden h3; have H4 := hidden h4; clear h1 h2 h3 h4))
    go_end0
    have hml := (Hid.out H2).length_eq
    refine ⟨rfl, m, Hid.out H2, by rw [hml]; exact Hid.out H3, ⟨by rw [words_len, Nat.mul_one], .inr ⟨g, cap, _, by rw [hml], hb, Hid.out H1, by rw [hml]; exact hcap, hcm, ?_, ?_⟩⟩, ?_⟩
    · simp [words_len, hcl, hml]
      omega
    · simp [words_len]
    · exact keep_grown (Hid.out H4)
set_option maxRecDepth 20000 in
theorem pages_all (w : World) (s : MS) (h : MemW w s) : Calls Try.prog 24 #[.pointer (some ⟨s.mb, 0, none⟩)] w fun e w' => ∃ ao cap l, e = .returned (.slice ao l.length cap) ∧ l.Perm s.ks ∧ Rising l ∧ Wds w' (.slice ao l.length cap) l ∧ Below w.heap.size w w' := by
  have hlen : s.ks.length ≤ 64 := Nat.le_trans h.room h.great
  have hc := h.cell0
  have hnd := h.nodup
  have H56 := hidden (keysOf_any s.bm w)
  have hb0 : Below w.heap.size w (w.alloc (.cells #[.map (some s.bm)] 86)) := (Below.refl _ w).alloc (Nat.le_refl _) _
  have H64 := hidden (collect_any w.heap.size s.bm s.hb s.ks (by omega) (w.alloc (.cells #[.map (some s.bm)] 86)) (by simp) (by rw [cell_of_row _ _ _ _ _ _ (heap_alloc_new w _)]; rfl) ((hb0.block s.bm (h.lt (.inr (.inl rfl)))).trans h.map) hnd)
  have HB0 := hidden hb0
  have H55 : Hid (Calls Try.prog 51 #[.func (.func 73) #[] #[.pointer (some ⟨w.heap.size, 0, none⟩)]] (w.alloc (.cells #[.map (some s.bm)] 86)) fun e w' => ∃ ao cap l, e = .returned (.slice ao l.length cap) ∧ l.Perm s.ks ∧ Rising l ∧ Wds w' (.slice ao l.length cap) l ∧ Below w.heap.size w w') := by
    show Calls Try.prog 51 #[.func (.func 73) #[] #[.pointer (some ⟨w.heap.size, 0, none⟩)]] (w.alloc (.cells #[.map (some s.bm)] 86)) fun e w' => ∃ ao cap l, e = .returned (.slice ao l.length cap) ∧ l.Perm s.ks ∧ Rising l ∧ Wds w' (.slice ao l.length cap) l ∧ Below w.heap.size w w'
    have H65 : Hid (∀ u v ss, ss.Perm s.ks → u.ownsRow (w.alloc (.cells #[.map (some s.bm)] 86)).heap.size 23 1 v ss.length (words ss) → Calls Try.prog 72 #[v] u fun e w' => e = .returned (.tuple #[]) ∧ ∃ m, m.Perm ss ∧ SortedOn m 0 m.length ∧ w'.ownsRow (w.alloc (.cells #[.map (some s.bm)] 86)).heap.size 23 1 v m.length (words m) ∧ u.grownBy w' v.ownBlock) := fun u v ss hp hr => sort_any u v ss _ hr (by rw [hp.length_eq]; exact hlen)
    have HND := hidden hnd
    clear h hc H56 hnd hb0
    go_enter Try.func51, Try.ntmps51
    go_wp2_with (first | (go_at_call 71; refine (Hid.out H64).mono ?_; rintro e w2 ⟨v, ss, rfl, hp, hr, hn, hb⟩; obtain ⟨va, vn, vc, rfl⟩ := row_slice hr; have HP := hidden hp; have HR := hidden hr; have HB := hidden hb; clear hp hr hn hb H64) | (go_at_call 72; refine (Hid.out H65 _ _ _ (Hid.out HP) (Hid.out HR)).mono ?_; rintro e w3 ⟨rfl, m, hm1, hm2, hm3, hm4⟩; have HM1 := hidden hm1; have HM2 := hidden hm2; have HM3 := hidden hm3; have HM4 := hidden hm4; clear hm1 hm2 hm3 hm4))
    go_ret
    have hperm := (Hid.out HM1).trans (Hid.out HP)
    obtain ⟨ao, cap, e, hwd⟩ := wds_of_row (Hid.out HM3)
    simp only [Value.slice.injEq] at e
    obtain ⟨rfl, rfl, rfl⟩ := e
    refine ⟨_, _, m, rfl, hperm, rising_of (Hid.out HM2) (hperm.nodup_iff.2 (Hid.out HND)), ⟨_, _, rfl, hwd⟩, ?_⟩
    have hbb := (Hid.out HB0).trans ((Hid.out HB).mono (Hid.out HB0).size)
    exact hbb.grown (Hid.out HM4) hbb.size fun g hg => Nat.le_trans (Hid.out HB0).size (row_base (Hid.out HM3) g hg)
  clear h hnd H64 hb0 HB0
  go_enter Try.func24, Try.ntmps24
  go_wp2_with (first | (go_at_call 52; refine (Hid.out H56).mono ?_; rintro e w1 ⟨rfl, hww⟩; rw [hww]; clear hww w1) | (go_at_call 51; refine (Hid.out H55).mono ?_; rintro e w2 ⟨ao, cap, l, rfl, h1, h2, h3, h4⟩; have H1 := hidden h1; have H2 := hidden h2; have H3 := hidden h3; have H4 := hidden h4; clear h1 h2 h3 h4))
  go_ret
  exact ⟨ao, cap, l, rfl, Hid.out H1, Hid.out H2, Hid.out H3, Hid.out H4⟩
end Go.Proofs.Ytodoenimlhldjaa
namespace Go.Proofs.Ytodoenimlhldjaa
open Go.ChangeShapes Go.WideShapes Go.ChangeAt Go.RowKit
set_option linter.unusedVariables false
theorem size27 : (Try.prog.info? 23).map (·.size) = some 1 := by kernel_rfl
theorem exec_index35 {ρ : Operand → Value} {o : Oper} {x y : Operand} {b off n cap k : Nat} (hop : o.op = .indexAddr 47 x y) (hx : ρ x = .slice (some ⟨b, off, none⟩) n cap) (hy : ρ y = .int .i64 (k : Int)) (hk : k < n) (w : World) : (execOp ρ o).run Try.prog w = .ok (.value (.pointer (some ⟨b, off + k, none⟩))) w := by
  have hs := size27
  cases hq : Try.prog.info? 23 with
  | none => simp [hq] at hs
  | some i =>
    have hs2 : i.size = 1 := by simpa [hq] using hs
    unfold execOp
    rw [hop]
    simp [hx, hy, Instr.indexAt, run_underlying Try.underlying47, sizeOf, typeInfo, hq, hs2, hk, Addr.add_lit, go_sem]
theorem cut256 : cutLen 256 = 256 := by unfold cutLen; omega
theorem load27 {w : World} {a : Addr} {v : Value} (hc : w.cell? a = some v) : (loadVar 23 a).run Try.prog w = .ok v w := by
  simp [loadVar, isAgg, Sem.run_bind, run_underlying Try.underlying23, hc, go_sem]
/-- What the slots of the region hold, whatever the order. -/
def phiSm (mb mm lb lo nn lc k pg : Nat) (pm : Int) (d : List UInt8) : Nat → Value → World → Prop
  | 0, x, _ => x = .pointer (some ⟨mb, 0, none⟩)
  | 1, x, _ => x = .slice (some ⟨lb, lo, none⟩) nn lc
  | 2, x, _ => x = .int .i64 (k : Int)
  | 3, x, _ => x = .pointer (some ⟨lb, lo + k, none⟩)
  | 4, x, _ => x = .int .u32 (pg : Int)
  | 5, x, _ => x = .int .i64 pm
  | 6, x, _ => x = .pointer (some ⟨mm, 0, none⟩)
  | 7, x, _ => x = .slice (some ⟨lb, lo, none⟩) nn lc
  | 8, x, _ => x = .int .i64 (k : Int)
  | 9, x, _ => x = .pointer (some ⟨lb, lo + k, none⟩)
  | 10, x, _ => x = .int .u32 (pg : Int)
  | 11, x, _ => x = .int .i64 pm
  | 12, x, _ => x = .bool false
  | 13, x, _ => x = .bool false
  | 14, x, _ => x = .pointer (some ⟨mb, 0, none⟩)
  | 15, x, _ => x = .slice (some ⟨lb, lo, none⟩) nn lc
  | 16, x, _ => x = .int .i64 (k : Int)
  | 17, x, _ => x = .pointer (some ⟨lb, lo + k, none⟩)
  | 18, x, _ => x = .int .u32 (pg : Int)
  | 19, x, w => ∃ a c, x = .slice a d.length c ∧ Row w a d c
  | 20, x, _ => x = .string ⟨d.toArray⟩
  | 21, x, _ => x = .pointer (some ⟨mm, 0, none⟩)
  | 22, x, _ => x = .slice (some ⟨lb, lo, none⟩) nn lc
  | 23, x, _ => x = .int .i64 (k : Int)
  | 24, x, _ => x = .pointer (some ⟨lb, lo + k, none⟩)
  | 25, x, _ => x = .int .u32 (pg : Int)
  | 26, x, w => ∃ a c, x = .slice a d.length c ∧ Row w a d c
  | 27, x, _ => x = .string ⟨d.toArray⟩
  | 28, x, _ => x = .bool false
  | 29, x, _ => x = .bool false
  | _ + 30, _, _ => True
theorem phiSm_mono (mb mm lb lo nn lc k pg : Nat) (pm : Int) (d : List UInt8) : ∀ i x w w', phiSm mb mm lb lo nn lc k pg pm d i x w → Below w.heap.size w w' → phiSm mb mm lb lo nn lc k pg pm d i x w'
  | 0, _, _, _, h, _ => h
  | 1, _, _, _, h, _ => h
  | 2, _, _, _, h, _ => h
  | 3, _, _, _, h, _ => h
  | 4, _, _, _, h, _ => h
  | 5, _, _, _, h, _ => h
  | 6, _, _, _, h, _ => h
  | 7, _, _, _, h, _ => h
  | 8, _, _, _, h, _ => h
  | 9, _, _, _, h, _ => h
  | 10, _, _, _, h, _ => h
  | 11, _, _, _, h, _ => h
  | 12, _, _, _, h, _ => h
  | 13, _, _, _, h, _ => h
  | 14, _, _, _, h, _ => h
  | 15, _, _, _, h, _ => h
  | 16, _, _, _, h, _ => h
  | 17, _, _, _, h, _ => h
  | 18, _, _, _, h, _ => h
  | 19, x, w, w', h, hb => by obtain ⟨a, c, e, hr⟩ := h; exact ⟨a, c, e, hr.later hb⟩
  | 20, _, _, _, h, _ => h
  | 21, _, _, _, h, _ => h
  | 22, _, _, _, h, _ => h
  | 23, _, _, _, h, _ => h
  | 24, _, _, _, h, _ => h
  | 25, _, _, _, h, _ => h
  | 26, x, w, w', h, hb => by obtain ⟨a, c, e, hr⟩ := h; exact ⟨a, c, e, hr.later hb⟩
  | 27, _, _, _, h, _ => h
  | 28, _, _, _, h, _ => h
  | 29, _, _, _, h, _ => h
  | _ + 30, _, _, _, _, _ => trivial
theorem listM30 : ∀ xs : List Value, xs.length = 30 → ∃ x0 x1 x2 x3 x4 x5 x6 x7 x8 x9 x10 x11 x12 x13 x14 x15 x16 x17 x18 x19 x20 x21 x22 x23 x24 x25 x26 x27 x28 x29, xs = [x0, x1, x2, x3, x4, x5, x6, x7, x8, x9, x10, x11, x12, x13, x14, x15, x16, x17, x18, x19, x20, x21, x22, x23, x24, x25, x26, x27, x28, x29]
  | [x0, x1, x2, x3, x4, x5, x6, x7, x8, x9, x10, x11, x12, x13, x14, x15, x16, x17, x18, x19, x20, x21, x22, x23, x24, x25, x26, x27, x28, x29], _ => ⟨_, _, _, _, _, _, _, _, _, _, _, _, _, _, _, _, _, _, _, _, _, _, _, _, _, _, _, _, _, _, rfl⟩
set_option maxRecDepth 20000 in
set_option maxHeartbeats 1000000 in
theorem sameMem_any (w : World) (s : MS) (t : S5) (hs : MemW w s) (ht : M5 w t) (hS : Sim s t.l) : Calls Try.prog 17 #[.pointer (some ⟨s.mb, 0, none⟩), .pointer (some ⟨t.m, 0, none⟩)] w fun e w' => e = .returned (.bool true) ∧ Below w.heap.size w w' := by
  obtain ⟨ks, hks⟩ : ∃ ks, ks = t.l.map P5.at_ := ⟨_, rfl⟩
  have hkl : ks.length ≤ 64 := by rw [hks, List.length_map, ← hS.len]; exact Nat.le_trans hs.room hs.great
  have H54 : Hid (Calls Try.prog 46 #[.pointer (some ⟨t.m, 0, none⟩)] w fun e w' => ∃ la lc, e = .returned (.slice la ks.length lc) ∧ Wds w' (.slice la ks.length lc) ks ∧ Below w.heap.size w w') := ht.pagesC.mono fun e w' ⟨v, he, ho, hb⟩ => by
    have hw := wds_of_row ho
    rw [← hks] at hw
    obtain ⟨la, lc, rfl, h2⟩ := hw
    exact ⟨la, lc, he, ⟨la, lc, rfl, h2⟩, hb⟩
  have H38 : Hid (∀ w1, Below w.heap.size w w1 → Calls Try.prog 24 #[.pointer (some ⟨s.mb, 0, none⟩)] w1 fun e w' => ∃ ao cap, e = .returned (.slice ao ks.length cap) ∧ Wds w' (.slice ao ks.length cap) ks ∧ Below w1.heap.size w1 w') := fun w1 hb => (pages_all w1 s (hs.later hb)).mono fun e w' ⟨ao, cap, l, he, hp, hr, hw, hb'⟩ => by
    have e2 := hS.pages hp hr
    rw [← hks] at e2
    subst e2
    exact ⟨ao, cap, he, hw, hb'⟩
  have H16 : Hid (∀ w1 v u, Wds w1 v ks → Wds w1 u ks → Calls Try.prog 18 #[v, u] w1 fun e w' => e = .returned (.bool true) ∧ ∃ n, w' = w1.drewN n) := fun w1 v u h1 h2 => sameWords_any w1 v u ks h1 h2 (by omega)
  have HK : Hid (∀ k, k < ks.length → ks.getD k 0 < 4294967296) := fun k hk => by
    have hk2 : k < t.l.length := by rw [hks, List.length_map] at hk; exact hk
    have e : ks.getD k 0 = (t.l.getD k nop5).at_ := by rw [hks]; simp [List.getD_eq_getElem?_getD, hk2]
    rw [e]
    exact (hs.key _ (hS.here k hk2).1).1
  have HPA : Hid (∀ pg : Nat, pg < 4294967296 → ∀ w1, Below w.heap.size w w1 → Calls Try.prog 25 #[.pointer (some ⟨s.mb, 0, none⟩), .int .u32 (pg : Int)] w1 fun e w' => e = .returned (.int .i64 (s.perm pg)) ∧ Below w1.heap.size w1 w') := fun pg hp w1 hb => (permOf_any w1 s pg (hs.later hb) hp).mono fun e w' ⟨he, n, hn⟩ => ⟨he, by rw [hn]; exact below_drewN (Below.refl _ _) _⟩
  have HPB : Hid (∀ pg : Nat, pg < 4294967296 → ∀ w1, Below w.heap.size w w1 → Calls Try.prog 47 #[.pointer (some ⟨t.m, 0, none⟩), .int .u32 (pg : Int)] w1 fun e w' => e = .returned (.int .i64 (s.perm pg)) ∧ Below w1.heap.size w1 w') := fun pg hp w1 hb => ((ht.later hb).permC pg hp).mono fun e w' ⟨he, hn⟩ => ⟨by rw [← hS.perm]; exact he, by rw [hn]; exact Below.refl _ _⟩
  have HBA : Hid (∀ pg : Nat, pg < 4294967296 → ∀ w1, Below w.heap.size w w1 → Calls Try.prog 22 #[.pointer (some ⟨s.mb, 0, none⟩), .int .u32 (pg : Int), .int .i64 256] w1 fun e w' => ∃ a c, e = .returned (.slice a (s.span pg 256).length c) ∧ Row w' a (s.span pg 256) c ∧ Below w1.heap.size w1 w') := fun pg hp w1 hb => by
    have := mbytes_any w1 s pg 256 (hs.later hb) hp
    rw [cut256] at this
    exact this.mono fun e w' ⟨ao, he, hr, hb'⟩ => ⟨ao, 256, he, hr, hb'⟩
  have HBB : Hid (∀ pg : Nat, pg < 4294967296 → ∀ w1, Below w.heap.size w w1 → Calls Try.prog 48 #[.pointer (some ⟨t.m, 0, none⟩), .int .u32 (pg : Int), .int .i64 256] w1 fun e w' => ∃ a c, e = .returned (.slice a (s.span pg 256).length c) ∧ Row w' a (s.span pg 256) c ∧ Below w1.heap.size w1 w') := fun pg hp w1 hb => ((ht.later hb).bytesC pg 256 hp (by omega)).mono fun e w' ⟨v, he, ho, hb'⟩ => by
    rw [hS.bytes] at ho
    obtain ⟨a, c, rfl, hr⟩ := row_of_own rfl ho
    exact ⟨a, c, he, hr, hb'⟩
  clear hs ht hS hks
  go_enter Try.func17, Try.ntmps17
  go_wp2_with (first | (go_at_call 46; with_reducible refine (Hid.out H54).mono ?_; rintro e w1 ⟨la, lc, rfl, hw1, hb1⟩; have HW1 := hidden hw1; have HB1 := hidden hb1; clear hw1 hb1) | (go_at_call 24; with_reducible refine (Hid.out H38 w1 (Hid.out HB1)).mono ?_; rintro e w2 ⟨ra, rc, rfl, hw2, hb2⟩; have HW2 := hidden hw2; have HW3 := hidden (Wds.later (Hid.out HW1) hb2); have HB2 := hidden (bthen (Hid.out HB1) hb2); have HS := hidden (Hid.out H16 w2 _ _ hw2 (Hid.out HW3)); clear hw2 hb2) | (go_at_call 18; with_reducible refine (Hid.out HS).mono ?_; rintro e w4 ⟨rfl, n4, hn4⟩; have HN4 := hidden hn4; clear hn4))
  have HB4 : Hid (Below w.heap.size w w4) := by rw [Hid.out HN4]; exact below_drewN (Hid.out HB2) n4
  have HW4 : Hid (Wds w4 (.slice la ks.length lc) ks) := by rw [Hid.out HN4]; exact (Hid.out HW3).later (below_drewN (Below.refl _ _) n4)
  clear HN4
  go_loopw [6] (fun x6 wr => ∃ k : Nat, k ≤ ks.length ∧ x6 = .int .i64 (k : Int) ∧ Below w.heap.size w wr ∧ Wds wr (.slice la ks.length lc) ks) (fun x6 _ => ks.length - (intOf x6).toNat)
  case atStart => exact ⟨0, by omega, rfl, Hid.out HB4, Hid.out HW4⟩
  case round =>
    obtain ⟨k, hk, rfl, hbr, hwd⟩ := hrel
    have HBR := hidden hbr
    have HWD := hidden hwd
    by_cases hkn : k < ks.length
    · have hk2 : (k : Int) < (ks.length : Int) := by omega
      obtain ⟨la', lc', e, h2⟩ := hwd
      simp only [Value.slice.injEq, true_and] at e
      obtain ⟨rfl, rfl⟩ := e
      rcases h2 with h2 | ⟨lb, lo, rfl, hlb, hce⟩
      · rw [h2] at hkn; simp at hkn
      obtain ⟨pg, hpg⟩ : ∃ pg, ks.getD k 0 = pg := ⟨_, rfl⟩
      have hpl := Hid.out HK k hkn
      have hck := hce k hkn
      rw [hpg] at hpl hck
      have HCE := hidden hck
      have HLB := hidden hlb
      have HP1 := hidden (Hid.out HPA pg hpl)
      have HP2 := hidden (Hid.out HPB pg hpl)
      have HB1 := hidden (Hid.out HBA pg hpl)
      have HB2 := hidden (Hid.out HBB pg hpl)
      generalize s.perm pg = pm at HP1 HP2
      generalize s.span pg 256 = d at HB1 HB2
      clear hbr hce hck hpg hlb
      go_wp2
      refine wp_region_on later_below [32, 33, 34, 35, 36, 37, 38, 39, 40, 41, 42, 43, 44, 45, 46, 47, 48, 49, 50, 51, 52, 53, 54, 55, 56, 57, 58, 59, 60, 61] 30 (phiSm s.mb t.m lb lo ks.length lc k pg pm d) (by kernel_rfl) (by kernel_rfl) rfl rfl (phiSm_mono s.mb t.m lb lo ks.length lc k pg pm d) ?_ ?_
      · intro j hj xs w3 hxs hR hpre
        obtain ⟨x0, x1, x2, x3, x4, x5, x6, x7, x8, x9, x10, x11, x12, x13, x14, x15, x16, x17, x18, x19, x20, x21, x22, x23, x24, x25, x26, x27, x28, x29, rfl⟩ := listM30 xs hxs
        have hbw3 : Below w.heap.size w w3 := bthen (Hid.out HBR) hR
        have hcell : w3.cell? ⟨lb, lo + k, none⟩ = some (.int .u32 (pg : Int)) := (hR.cell (p := ⟨lb, lo + k, none⟩) (Hid.out HLB)).trans (Hid.out HCE)
        rcases (show j = 0 ∨ j = 1 ∨ j = 2 ∨ j = 3 ∨ j = 4 ∨ j = 5 ∨ j = 6 ∨ j = 7 ∨ j = 8 ∨ j = 9 ∨ j = 10 ∨ j = 11 ∨ j = 12 ∨ j = 13 ∨ j = 14 ∨ j = 15 ∨ j = 16 ∨ j = 17 ∨ j = 18 ∨ j = 19 ∨ j = 20 ∨ j = 21 ∨ j = 22 ∨ j = 23 ∨ j = 24 ∨ j = 25 ∨ j = 26 ∨ j = 27 ∨ j = 28 ∨ j = 29 by omega) with rfl | rfl | rfl | rfl | rfl | rfl | rfl | rfl | rfl | rfl | rfl | rfl | rfl | rfl | rfl | rfl | rfl | rfl | rfl | rfl | rfl | rfl | rfl | rfl | rfl | rfl | rfl | rfl | rfl | rfl
        · exact wpOp_run (.pointer (some ⟨s.mb, 0, none⟩)) rfl (by kernel_rfl) (exec_move rfl (by kernel_rfl) w3) ⟨_, by kernel_rfl, rfl, Below.refl _ _⟩
        · exact wpOp_run (.slice (some ⟨lb, lo, none⟩) ks.length lc) rfl (by kernel_rfl) (exec_move rfl (by kernel_rfl) w3) ⟨_, by kernel_rfl, rfl, Below.refl _ _⟩
        · exact wpOp_run (.int .i64 (k : Int)) rfl (by kernel_rfl) (exec_move rfl (by kernel_rfl) w3) ⟨_, by kernel_rfl, rfl, Below.refl _ _⟩
        · have e1 : x1 = .slice (some ⟨lb, lo, none⟩) ks.length lc := hpre 1 (by kernel_rfl)
          subst e1
          have e2 : x2 = .int .i64 (k : Int) := hpre 2 (by kernel_rfl)
          subst e2
          exact wpOp_run (.pointer (some ⟨lb, lo + k, none⟩)) rfl (by kernel_rfl) (exec_index35 (b := lb) (off := lo) (n := ks.length) (cap := lc) (k := k) rfl (by kernel_rfl) (by kernel_rfl) hkn w3) ⟨_, by kernel_rfl, rfl, Below.refl _ _⟩
        · have e3 : x3 = .pointer (some ⟨lb, lo + k, none⟩) := hpre 3 (by kernel_rfl)
          subst e3
          exact wpOp_run (.int .u32 (pg : Int)) rfl (by kernel_rfl) (exec_load 23 rfl (by kernel_rfl) w3 (load27 hcell)) ⟨_, by kernel_rfl, rfl, Below.refl _ _⟩
        · have e0 : x0 = .pointer (some ⟨s.mb, 0, none⟩) := hpre 0 (by kernel_rfl)
          subst e0
          have e4 : x4 = .int .u32 (pg : Int) := hpre 4 (by kernel_rfl)
          subst e4
          refine wpOp_callR (R := fun u w4 => u = .int .i64 pm ∧ Below w3.heap.size w3 w4) 25 #[.pointer (some ⟨s.mb, 0, none⟩), .int .u32 (pg : Int)] rfl (by kernel_rfl) (by kernel_rfl) ((Hid.out HP1 w3 hbw3).mono fun e w4 ⟨he, hb⟩ => ⟨_, he, rfl, hb⟩) ?_
          rintro _ w4 ⟨rfl, hb⟩
          exact ⟨_, by kernel_rfl, rfl, hb⟩
        · exact wpOp_run (.pointer (some ⟨t.m, 0, none⟩)) rfl (by kernel_rfl) (exec_move rfl (by kernel_rfl) w3) ⟨_, by kernel_rfl, rfl, Below.refl _ _⟩
        · exact wpOp_run (.slice (some ⟨lb, lo, none⟩) ks.length lc) rfl (by kernel_rfl) (exec_move rfl (by kernel_rfl) w3) ⟨_, by kernel_rfl, rfl, Below.refl _ _⟩
        · exact wpOp_run (.int .i64 (k : Int)) rfl (by kernel_rfl) (exec_move rfl (by kernel_rfl) w3) ⟨_, by kernel_rfl, rfl, Below.refl _ _⟩
        · have e7 : x7 = .slice (some ⟨lb, lo, none⟩) ks.length lc := hpre 7 (by kernel_rfl)
          subst e7
          have e8 : x8 = .int .i64 (k : Int) := hpre 8 (by kernel_rfl)
          subst e8
          exact wpOp_run (.pointer (some ⟨lb, lo + k, none⟩)) rfl (by kernel_rfl) (exec_index35 (b := lb) (off := lo) (n := ks.length) (cap := lc) (k := k) rfl (by kernel_rfl) (by kernel_rfl) hkn w3) ⟨_, by kernel_rfl, rfl, Below.refl _ _⟩
        · have e9 : x9 = .pointer (some ⟨lb, lo + k, none⟩) := hpre 9 (by kernel_rfl)
          subst e9
          exact wpOp_run (.int .u32 (pg : Int)) rfl (by kernel_rfl) (exec_load 23 rfl (by kernel_rfl) w3 (load27 hcell)) ⟨_, by kernel_rfl, rfl, Below.refl _ _⟩
        · have e6 : x6 = .pointer (some ⟨t.m, 0, none⟩) := hpre 6 (by kernel_rfl)
          subst e6
          have e10 : x10 = .int .u32 (pg : Int) := hpre 10 (by kernel_rfl)
          subst e10
          refine wpOp_callR (R := fun u w4 => u = .int .i64 pm ∧ Below w3.heap.size w3 w4) 47 #[.pointer (some ⟨t.m, 0, none⟩), .int .u32 (pg : Int)] rfl (by kernel_rfl) (by kernel_rfl) ((Hid.out HP2 w3 hbw3).mono fun e w4 ⟨he, hb⟩ => ⟨_, he, rfl, hb⟩) ?_
          rintro _ w4 ⟨rfl, hb⟩
          exact ⟨_, by kernel_rfl, rfl, hb⟩
        · have e5 : x5 = .int .i64 pm := hpre 5 (by kernel_rfl)
          subst e5
          have e11 : x11 = .int .i64 pm := hpre 11 (by kernel_rfl)
          subst e11
          exact wpOp_run (.bool false) rfl (by kernel_rfl) (exec_neq (n := pm) 3 rfl Try.underlying3 (by kernel_rfl) (by kernel_rfl) w3) ⟨_, by kernel_rfl, rfl, Below.refl _ _⟩
        · have e12 : x12 = .bool false := hpre 12 (by kernel_rfl)
          subst e12
          exact wpOp_run (.bool false) rfl (by kernel_rfl) (exec_move rfl (by kernel_rfl) w3) ⟨_, by kernel_rfl, rfl, Below.refl _ _⟩
        · have e13 : x13 = .bool false := hpre 13 (by kernel_rfl)
          subst e13
          exact wpOp_run (.pointer (some ⟨s.mb, 0, none⟩)) rfl (by kernel_rfl) (exec_move rfl (by kernel_rfl) w3) ⟨_, by kernel_rfl, rfl, Below.refl _ _⟩
        · have e13 : x13 = .bool false := hpre 13 (by kernel_rfl)
          subst e13
          exact wpOp_run (.slice (some ⟨lb, lo, none⟩) ks.length lc) rfl (by kernel_rfl) (exec_move rfl (by kernel_rfl) w3) ⟨_, by kernel_rfl, rfl, Below.refl _ _⟩
        · have e13 : x13 = .bool false := hpre 13 (by kernel_rfl)
          subst e13
          exact wpOp_run (.int .i64 (k : Int)) rfl (by kernel_rfl) (exec_move rfl (by kernel_rfl) w3) ⟨_, by kernel_rfl, rfl, Below.refl _ _⟩
        · have e13 : x13 = .bool false := hpre 13 (by kernel_rfl)
          subst e13
          have e15 : x15 = .slice (some ⟨lb, lo, none⟩) ks.length lc := hpre 15 (by kernel_rfl)
          subst e15
          have e16 : x16 = .int .i64 (k : Int) := hpre 16 (by kernel_rfl)
          subst e16
          exact wpOp_run (.pointer (some ⟨lb, lo + k, none⟩)) rfl (by kernel_rfl) (exec_index35 (b := lb) (off := lo) (n := ks.length) (cap := lc) (k := k) rfl (by kernel_rfl) (by kernel_rfl) hkn w3) ⟨_, by kernel_rfl, rfl, Below.refl _ _⟩
        · have e13 : x13 = .bool false := hpre 13 (by kernel_rfl)
          subst e13
          have e17 : x17 = .pointer (some ⟨lb, lo + k, none⟩) := hpre 17 (by kernel_rfl)
          subst e17
          exact wpOp_run (.int .u32 (pg : Int)) rfl (by kernel_rfl) (exec_load 23 rfl (by kernel_rfl) w3 (load27 hcell)) ⟨_, by kernel_rfl, rfl, Below.refl _ _⟩
        · have e13 : x13 = .bool false := hpre 13 (by kernel_rfl)
          subst e13
          have e14 : x14 = .pointer (some ⟨s.mb, 0, none⟩) := hpre 14 (by kernel_rfl)
          subst e14
          have e18 : x18 = .int .u32 (pg : Int) := hpre 18 (by kernel_rfl)
          subst e18
          refine wpOp_callR (R := fun u w4 => (∃ a c, u = .slice a d.length c ∧ Row w4 a d c) ∧ Below w3.heap.size w3 w4) 22 #[.pointer (some ⟨s.mb, 0, none⟩), .int .u32 (pg : Int), .int .i64 256] rfl (by kernel_rfl) (by kernel_rfl) ((Hid.out HB1 w3 hbw3).mono fun e w4 ⟨a, c, he, hr, hb⟩ => ⟨_, he, ⟨a, c, rfl, hr⟩, hb⟩) ?_
          rintro _ w4 ⟨⟨a, c, rfl, hr⟩, hb⟩
          exact ⟨_, by kernel_rfl, ⟨a, c, rfl, hr⟩, hb⟩
        · have e13 : x13 = .bool false := hpre 13 (by kernel_rfl)
          subst e13
          have f19 : ∃ a c, x19 = .slice a d.length c ∧ Row w3 a d c := hpre 19 (by kernel_rfl)
          obtain ⟨a19, c19, e19, hr19⟩ := f19
          subst e19
          exact wpOp_run (.string ⟨d.toArray⟩) rfl (by kernel_rfl) (exec_str (a := a19) (c := c19) d rfl (by kernel_rfl) w3 hr19.lies) ⟨_, by kernel_rfl, rfl, Below.refl _ _⟩
        · have e13 : x13 = .bool false := hpre 13 (by kernel_rfl)
          subst e13
          exact wpOp_run (.pointer (some ⟨t.m, 0, none⟩)) rfl (by kernel_rfl) (exec_move rfl (by kernel_rfl) w3) ⟨_, by kernel_rfl, rfl, Below.refl _ _⟩
        · have e13 : x13 = .bool false := hpre 13 (by kernel_rfl)
          subst e13
          exact wpOp_run (.slice (some ⟨lb, lo, none⟩) ks.length lc) rfl (by kernel_rfl) (exec_move rfl (by kernel_rfl) w3) ⟨_, by kernel_rfl, rfl, Below.refl _ _⟩
        · have e13 : x13 = .bool false := hpre 13 (by kernel_rfl)
          subst e13
          exact wpOp_run (.int .i64 (k : Int)) rfl (by kernel_rfl) (exec_move rfl (by kernel_rfl) w3) ⟨_, by kernel_rfl, rfl, Below.refl _ _⟩
        · have e13 : x13 = .bool false := hpre 13 (by kernel_rfl)
          subst e13
          have e22 : x22 = .slice (some ⟨lb, lo, none⟩) ks.length lc := hpre 22 (by kernel_rfl)
          subst e22
          have e23 : x23 = .int .i64 (k : Int) := hpre 23 (by kernel_rfl)
          subst e23
          exact wpOp_run (.pointer (some ⟨lb, lo + k, none⟩)) rfl (by kernel_rfl) (exec_index35 (b := lb) (off := lo) (n := ks.length) (cap := lc) (k := k) rfl (by kernel_rfl) (by kernel_rfl) hkn w3) ⟨_, by kernel_rfl, rfl, Below.refl _ _⟩
        · have e13 : x13 = .bool false := hpre 13 (by kernel_rfl)
          subst e13
          have e24 : x24 = .pointer (some ⟨lb, lo + k, none⟩) := hpre 24 (by kernel_rfl)
          subst e24
          exact wpOp_run (.int .u32 (pg : Int)) rfl (by kernel_rfl) (exec_load 23 rfl (by kernel_rfl) w3 (load27 hcell)) ⟨_, by kernel_rfl, rfl, Below.refl _ _⟩
        · have e13 : x13 = .bool false := hpre 13 (by kernel_rfl)
          subst e13
          have e21 : x21 = .pointer (some ⟨t.m, 0, none⟩) := hpre 21 (by kernel_rfl)
          subst e21
          have e25 : x25 = .int .u32 (pg : Int) := hpre 25 (by kernel_rfl)
          subst e25
          refine wpOp_callR (R := fun u w4 => (∃ a c, u = .slice a d.length c ∧ Row w4 a d c) ∧ Below w3.heap.size w3 w4) 48 #[.pointer (some ⟨t.m, 0, none⟩), .int .u32 (pg : Int), .int .i64 256] rfl (by kernel_rfl) (by kernel_rfl) ((Hid.out HB2 w3 hbw3).mono fun e w4 ⟨a, c, he, hr, hb⟩ => ⟨_, he, ⟨a, c, rfl, hr⟩, hb⟩) ?_
          rintro _ w4 ⟨⟨a, c, rfl, hr⟩, hb⟩
          exact ⟨_, by kernel_rfl, ⟨a, c, rfl, hr⟩, hb⟩
        · have e13 : x13 = .bool false := hpre 13 (by kernel_rfl)
          subst e13
          have f26 : ∃ a c, x26 = .slice a d.length c ∧ Row w3 a d c := hpre 26 (by kernel_rfl)
          obtain ⟨a26, c26, e26, hr26⟩ := f26
          subst e26
          exact wpOp_run (.string ⟨d.toArray⟩) rfl (by kernel_rfl) (exec_str (a := a26) (c := c26) d rfl (by kernel_rfl) w3 hr26.lies) ⟨_, by kernel_rfl, rfl, Below.refl _ _⟩
        · have e13 : x13 = .bool false := hpre 13 (by kernel_rfl)
          subst e13
          have e20 : x20 = .string ⟨d.toArray⟩ := hpre 20 (by kernel_rfl)
          subst e20
          have e27 : x27 = .string ⟨d.toArray⟩ := hpre 27 (by kernel_rfl)
          subst e27
          exact wpOp_run (.bool false) rfl (by kernel_rfl) (exec_neqS ⟨d.toArray⟩ rfl (by kernel_rfl) (by kernel_rfl) w3) ⟨_, by kernel_rfl, rfl, Below.refl _ _⟩
        · have e13 : x13 = .bool false := hpre 13 (by kernel_rfl)
          subst e13
          have e28 : x28 = .bool false := hpre 28 (by kernel_rfl)
          subst e28
          exact wpOp_run (.bool false) rfl (by kernel_rfl) (by kernel_rfl) ⟨_, by kernel_rfl, rfl, Below.refl _ _⟩
      · intro xs w3 hxs hR hall
        obtain ⟨x0, x1, x2, x3, x4, x5, x6, x7, x8, x9, x10, x11, x12, x13, x14, x15, x16, x17, x18, x19, x20, x21, x22, x23, x24, x25, x26, x27, x28, x29, rfl⟩ := listM30 xs hxs
        have e29 : x29 = .bool false := hall 29 (by omega)
        subst e29
        have HB6 := hidden (bthen (Hid.out HBR) hR)
        have HW6 := hidden ((Hid.out HWD).later hR)
        clear hall hR hxs
        simp only [slotsOn, putAll, List.set_cons_succ, List.set_cons_zero]
        go_wp2
        go_roundw
        case rel => first | exact ⟨k + 1, by omega, by simp, Hid.out HB6, Hid.out HW6⟩ | ((repeat apply Exists.intro); first | exact ⟨⟨k + 1, by omega, by simp, Hid.out HB6, Hid.out HW6⟩, rfl⟩ | exact ⟨⟨k + 1, by omega, by simp, Hid.out HB6, Hid.out HW6⟩, rfl, rfl⟩)
        case measure => simp [intOf]; omega
    · have hk2 : ¬ (k : Int) < (ks.length : Int) := by omega
      clear hbr hwd
      go_wp2
      go_ret
      exact ⟨rfl, Hid.out HBR⟩
end Go.Proofs.Ytodoenimlhldjaa
namespace Go.Proofs.Ytodoenimlhldjaa
open Go.ChangeShapes Go.WideShapes Go.ChangeAt Go.RowKit
set_option linter.unusedVariables false
/-- The own memory at mb, made behind w, beside a shadow of it as the code would hold it. -/
structure O5 (w wr : World) (s : MS) (mb : Nat) : Prop where
  mem : ∃ t : S5, M5 wr t ∧ t.m = mb ∧ t.most = 64 ∧ t.ts = [] ∧ Sim s t.l ∧ ∀ b, foot5 t b → w.heap.size ≤ b
  below : Below w.heap.size w wr
  pm : ∀ k ∈ s.ks, 0 ≤ s.pm k ∧ s.pm k < 8
structure MI5 (w wr : World) (s : MS) (mb : Nat) (f : AM) (C : Nat) : Prop where
  own : O5 w wr s mb
  most : s.most = 64
  abs : s.abs = f
  off : ∀ k ∈ s.ks, s.on k = false
structure MW5 (w wr : World) (s : MS) (mb : Nat) (f : AM) : Prop where
  own : O5 w wr s mb
  abs : s.abs = f
def shadow0 : MS := ⟨0, 0, [], fun _ => 0, fun _ => 0, fun _ => [], fun _ => 0, fun _ => false, 64, .bool false, [], 0⟩
theorem MI5.made {w w1 : World} {mb C : Nat} (hmb : w.heap.size = mb) (h : M5 w1 ⟨mb, 64, [], .slice none 0 0, [], .slice none 0 0⟩) (hb : Below mb w w1) : MI5 w w1 shadow0 mb (fun _ => none) C := by
  subst hmb
  refine ⟨⟨⟨_, h, rfl, rfl, rfl, Sim.none _ rfl, ?_⟩, hb, fun k hk => by simp [shadow0] at hk⟩, rfl, ?_, fun k hk => by simp [shadow0] at hk⟩
  · rintro b (h | h | h)
    · rw [h]; exact Nat.le_refl _
    · cases h
    · cases h
  · funext k
    exact abs_out (by simp [shadow0])
theorem O5.step {w wr w' : World} {s s' : MS} {mb m : Nat} {t t' : S5} (h : O5 w wr s mb) (hf : ∀ b, foot5 t b → w.heap.size ≤ b) (st : Step5 (wr.drewN m) t w' t') (e1 : t'.m = mb) (e2 : t'.most = 64) (e3 : t'.ts = []) (hs : Sim s' t'.l) (hp : ∀ k ∈ s'.ks, 0 ≤ s'.pm k ∧ s'.pm k < 8) : O5 w w' s' mb := by
  have hsz := h.below.size
  refine ⟨⟨t', st.mem, e1, e2, e3, hs, fun b hb => ?_⟩, ?_, hp⟩
  · rcases st.grow b hb with h1 | h1
    · exact hf b h1
    · exact Nat.le_trans hsz h1
  · exact (below_drewN h.below m).trans (st.keep.below hsz hf)
theorem mapped_pm {s : MS} (a : Nat) (z : Int) (b : Nat) (h : ∀ k ∈ s.ks, 0 ≤ s.pm k ∧ s.pm k < 8) : ∀ k ∈ (s.mapped a z b).ks, 0 ≤ (s.mapped a z b).pm k ∧ (s.mapped a z b).pm k < 8 := by
  intro k hk
  unfold MS.mapped at hk ⊢
  by_cases hp : pageOf a ∈ s.ks
  · rw [if_pos hp] at hk ⊢
    show 0 ≤ upd s.pm (pageOf a) _ k ∧ upd s.pm (pageOf a) _ k < 8
    unfold upd
    split
    · unfold orP; omega
    · exact h k hk
  · rw [if_neg hp] at hk ⊢
    by_cases hr : s.ks.length < s.most
    · rw [if_pos hr] at hk ⊢
      show 0 ≤ upd s.pm (pageOf a) _ k ∧ upd s.pm (pageOf a) _ k < 8
      unfold upd
      split
      · omega
      · rename_i hne
        have : k ∈ s.ks ++ [pageOf a] := hk
        rcases List.mem_append.1 this with h1 | h1
        · exact h k h1
        · exact absurd (by simpa using h1) hne
    · rw [if_neg hr] at hk ⊢
      exact h k hk
theorem MapB.next {s : MS} {a k L b : Nat} {z : Int} (hm : s.most = 64) (hB : MapB s a k L) (hk : k < 600) (hL : L ≤ 28) : (pageOf (wrapAt a k) ∈ s.ks ∨ s.ks.length < s.most) ∧ MapB (s.mapped (wrapAt a k) z b) a (k + 1) L := by
  obtain ⟨m1, m2, m3, m4⟩ := mapped_ks s (wrapAt a k) z b
  have hroom : pageOf (wrapAt a k) ∈ s.ks ∨ s.ks.length < s.most := by
    right
    rw [hm]
    by_cases h0 : k = 0
    · have := hB.1 h0
      omega
    · have := (hB.2 (by omega)).2
      omega
  refine ⟨hroom, fun h0 => by omega, fun _ => ⟨by simpa using m4 hroom, ?_⟩⟩
  rw [Nat.add_sub_cancel]
  by_cases h0 : k = 0
  · have := hB.1 h0
    omega
  · have hb := hB.2 (by omega)
    by_cases hm : (a % 256 + k) % 256 = 0
    · omega
    · have := page_next a k (by omega) hm
      rw [m3 (by rw [this]; exact hb.1)]
      have h2 := hb.2
      have : (a % 256 + (k - 1)) / 256 ≤ (a % 256 + k) / 256 := Nat.div_le_div_right (by omega)
      omega
theorem MI5.mapCall {w wr : World} {s : MS} {mb C a k L : Nat} {f : AM} {z : Int} (h : MI5 w wr s mb f C) (hB : MapB s a k L) (hk : k < 600) (hL : L ≤ 28) (m : Nat) : Calls Try.prog 31 #[.pointer (some ⟨mb, 0, none⟩), .int .u32 (((a : Int) + (k : Int)) % 4294967296), .int .i64 z] (wr.drewN m) fun e w' =>
    ∃ n, e = .returned (.int .i64 n) ∧ ∃ s', MI5 w w' s' mb (amap f (wrapAt a k) z) C ∧ MapB s' a (k + 1) L := by
  obtain ⟨t, ht, h1, h2, h3, h4, h5⟩ := h.own.mem
  have hn := hB.next (z := z) (b := 0) h.most hk hL
  have hlen : t.l.length < 1000 := by
    rw [← h4.len]
    by_cases h0 : k = 0
    · have := hB.1 h0; omega
    · have := (hB.2 (by omega)).2; omega
  have hc := (ht.drewN m).mapC (wrapAt a k) z (wrapAt_lt _ _) hlen
  rw [h1, show ((wrapAt a k : Nat) : Int) = ((a : Int) + (k : Int)) % 4294967296 by unfold wrapAt; omega] at hc
  refine hc.mono ?_
  rintro e w' ⟨he, t', st, e1, e2, e3, hM⟩
  rw [h2] at hM
  obtain ⟨m1, m2⟩ := h4.map (wrapAt a k) z 0 64 h.most h.own.pm hM
  exact ⟨_, he, s.mapped (wrapAt a k) z 0, ⟨h.own.step h5 st (by first | exact e1.trans h1 | exact e1) (e2.trans h2) (e3.trans h3) m1 (mapped_pm _ _ _ h.own.pm), by rw [mapped_most]; exact h.most, by rw [abs_mapped hn.1, h.abs], mapped_on h.off⟩, hn.2⟩
theorem MI5.pokeCall {w wr : World} {s : MS} {mb C a k : Nat} {f : AM} {v : UInt8} (h : MI5 w wr s mb f C) (hC : C < 1099511627776) (m : Nat) : Calls Try.prog 32 #[.pointer (some ⟨mb, 0, none⟩), .int .u32 (((a : Int) + (k : Int)) % 4294967296), .int .u8 (v.toNat : Int)] (wr.drewN m) fun e w' =>
    ∃ b, e = .returned (.bool b) ∧ ∃ s', MI5 w w' s' mb (apoke f (wrapAt a k) v) (C + 1) ∧ s'.ks = s.ks := by
  obtain ⟨t, ht, h1, h2, h3, h4, h5⟩ := h.own.mem
  have hc := poke5_any (wr.drewN m) t (ht.drewN m) (wrapAt a k) v (wrapAt_lt _ _) (by rw [h3]; simp)
  rw [h1, show ((wrapAt a k : Nat) : Int) = ((a : Int) + (k : Int)) % 4294967296 by unfold wrapAt; omega] at hc
  refine hc.mono ?_
  rintro e w' ⟨he, t', st, e1, e2, e3, e4⟩
  have hts : touch5 t.l t.ts (wrapAt a k) = [] := by
    have hw : watch5 t.l ((wrapAt a k) / 256 * 256) = false := by
      unfold watch5
      by_cases hf : find5 t.l ((wrapAt a k) / 256 * 256) < t.l.length
      · rw [(h4.at hf).2.2, h.off _ ((h4.find _).2 hf), Bool.and_false]
      · simp [hf]
    rw [h3]
    unfold touch5
    unfold watch5 at hw
    simp_all
  have hpm : ∀ k' ∈ (s.pokeAt (wrapAt a k) v s.tv).ks, 0 ≤ (s.pokeAt (wrapAt a k) v s.tv).pm k' ∧ (s.pokeAt (wrapAt a k) v s.tv).pm k' < 8 := by
    rw [pokeAt_ks, pokeAt_pm]
    exact h.own.pm
  exact ⟨_, he, s.pokeAt (wrapAt a k) v s.tv, ⟨h.own.step h5 st (by first | exact e1.trans h1 | exact e1) (e2.trans h2) (e4.trans hts) (by rw [e3]; exact h4.poke _ v _) hpm, by rw [pokeAt_most]; exact h.most, by rw [abs_pokeAt, h.abs], by rw [pokeAt_ks, pokeAt_on]; exact h.off⟩, pokeAt_ks _ _ _ _⟩
theorem MW5.watchCall {w wr : World} {s : MS} {mb a : Nat} {f : AM} {b : Bool} (h : MW5 w wr s mb f) (ha : a < 4294967296) (m : Nat) : Calls Try.prog 33 #[.pointer (some ⟨mb, 0, none⟩), .int .u32 (a : Int), .bool b] (wr.drewN m) fun e w' =>
    e = .returned (.tuple #[]) ∧ ∃ s', MW5 w w' s' mb (awatch f a b) := by
  obtain ⟨t, ht, h1, h2, h3, h4, h5⟩ := h.own.mem
  have hc := (ht.drewN m).watchC a b ha
  rw [h1] at hc
  refine hc.mono ?_
  rintro e w' ⟨he, t', st, e1, e2, e3, e4⟩
  have hpm : ∀ k ∈ (s.watchAt a b).ks, 0 ≤ (s.watchAt a b).pm k ∧ (s.watchAt a b).pm k < 8 := by
    unfold MS.watchAt
    split <;> exact h.own.pm
  exact ⟨he, s.watchAt a b, h.own.step h5 st (by first | exact e1.trans h1 | exact e1) (e2.trans h2) (e3.trans h3) (by rw [e4]; exact h4.watch a b) hpm, by rw [abs_watchAt, h.abs]⟩
set_option maxRecDepth 20000 in
set_option maxHeartbeats 4000000 in
theorem model_any (w : World) (ao : Option Addr) (cap : Nat) (ps : List Part4) (h : Pieces w ao ps) (hlen : ps.length ≤ 8) (hdat : ∀ p ∈ ps, p.data.length ≤ 600) :
    Calls Try.prog 12 #[.slice ao ps.length cap] w fun e w' => ∃ mb, e = .returned (.pointer (some ⟨mb, 0, none⟩)) ∧ ∃ s, O5 w w' s mb ∧ s.abs = memOf ps := by
  have H := hidden h
  have HD := hidden hdat
  obtain ⟨mb, hmb⟩ : ∃ mb, w.heap.size = mb := ⟨_, rfl⟩
  have H9 := hidden (new5_any 64 64 (by decide) w)
  rw [hmb] at H9
  have HMB := hidden hmb
  clear hmb
  clear h hdat
  go_enter Try.func12, Try.ntmps12
  go_wp2_with (go_at_call 30; refine (Hid.out H9).mono ?_; rintro e w1 ⟨rfl, hb, hm⟩; have HO := hidden (MI5.made (C := 0) HMB.out hm hb); clear hm hb H9)
  go_loopw [4, 5, 6] (fun i x5 x6 wr => ∃ (q : Nat) (s : MS), q ≤ ps.length ∧ i = .int .i64 (q : Int) ∧ MI5 w wr s mb (partsDone (ps.take q) fun _ => none) (600 * q) ∧ s.ks.length ≤ 4 * q) (fun i _ _ _ => ps.length - (intOf i).toNat)
  case atStart =>
    exact ⟨0, shadow0, by omega, rfl, HO.out, by simp [shadow0]⟩
  case round =>
    obtain ⟨q, s, hq, rfl, hI, hK⟩ := hrel
    have HI := hidden hI
    clear hI
    by_cases hql : q < ps.length
    · obtain ⟨b, off, hao, hlt, hp⟩ := (Hid.out H).at hql
      have hd6 : ps[q].data.length ≤ 600 := Hid.out HD _ (List.getElem_mem _)
      obtain ⟨f, hf⟩ : ∃ f, f = partsDone (ps.take q) fun _ => none := ⟨_, rfl⟩
      have HNX : Hid (partsDone (ps.take (q + 1)) (fun _ => none) = partDone f ps[q]) := by
        show _ = _
        rw [take_snoc ps q hql, partsDone_snoc, hf]
      rw [← hf] at HI
      clear hf
      subst hao
      have HP := hidden hp
      clear hp
      generalize ps[q] = p at HP HNX hd6
      have hpl := (Hid.out HP).lt
      obtain ⟨N, hN⟩ : ∃ N, N = max p.data.length 1 := ⟨_, rfl⟩
      have hrm := (Hid.out HP).row.max
      simp only [maxLen] at hrm
      have hrl := (Hid.out HP).row.len
      go_wp2
      go_loopw [5] (fun x5 wr2 => ∃ (k : Nat) (s2 : MS), k ≤ N ∧ x5 = .int .i64 (k : Int) ∧ MI5 w wr2 s2 mb (partMaps f p k) (600 * q) ∧ MapB s2 p.at_ k (4 * q)) (fun x5 _ => N - (intOf x5).toNat)
      case atStart => exact ⟨0, s, by omega, rfl, Hid.out HI, fun _ => hK, fun h => by omega⟩
      case round =>
        obtain ⟨k, s2, hk, rfl, hI2, hB2⟩ := hrel
        have hp2 := (Hid.out HP).later hlt hI2.own.below
        have hc0 := hp2.c0
        have hc1 := hp2.c1
        have hc2 := hp2.c2
        have HI2 := hidden hI2
        have HB2 := hidden hB2
        clear hI2 hB2 hp2
        by_cases hkN : k < N
        · have H12 := fun m => hidden (MI5.mapCall (z := p.perm) (Hid.out HI2) (Hid.out HB2) (by omega) (by omega) m)
          rw [show amap (partMaps f p k) (wrapAt p.at_ k) p.perm = partMaps f p (k + 1) from rfl] at H12
          by_cases hkd : k < p.data.length
          · have hkd2 : (k : Int) < (p.data.length : Int) := by omega
            go_wp2
            refine wp_region_tail 14 (by kernel_rfl) (by kernel_rfl) ?_
            simp only [List.take_succ_cons, List.take_zero, List.drop_succ_cons, List.drop_zero]
            repeat (go_big_quiet_step (fail))
            refine wpQuiet_nil ?_
            rintro _ ⟨nq, rfl⟩
            go_wp2_with (go_at_call 31; with_reducible refine (Hid.out (H12 nq)).mono ?_; rintro e w3 ⟨rn, rfl, s3, hi3, hb3⟩; have HI3 := hidden hi3; have HB3 := hidden hb3; clear hi3 hb3)
            go_roundw
            case rel => exact ⟨k + 1, s3, by omega, by simp, Hid.out HI3, Hid.out HB3⟩
            case measure => simp [intOf]; omega
          · have hkd2 : decide ((k : Int) < (p.data.length : Int)) = false := by simp; omega
            obtain rfl : k = 0 := by omega
            have hp0 : ((p.at_ : Int) + ((0 : Nat) : Int)) % 4294967296 = (p.at_ : Int) := by omega
            rw [hp0] at H12
            clear hp0
            go_wp2
            refine wp_region_tail 14 (by kernel_rfl) (by kernel_rfl) ?_
            simp only [List.take_succ_cons, List.take_zero, List.drop_succ_cons, List.drop_zero]
            repeat (go_big_quiet_step (fail))
            refine wpQuiet_nil ?_
            rintro _ ⟨nq, rfl⟩
            go_wp2_with (go_at_call 31; with_reducible refine (Hid.out (H12 nq)).mono ?_; rintro e w3 ⟨rn, rfl, s3, hi3, hb3⟩; have HI3 := hidden hi3; have HB3 := hidden hb3; clear hi3 hb3)
            go_roundw
            case rel => exact ⟨1, s3, by omega, by simp, Hid.out HI3, Hid.out HB3⟩
            case measure => simp [intOf]; omega
        · have hkd2 : decide ((k : Int) < (p.data.length : Int)) = false := by simp; omega
          have hk1 : ¬ (k : Int) < 1 := by omega
          obtain rfl : k = N := by omega
          have HK4 : Hid (s2.ks.length ≤ 4 * (q + 1)) := by
            have := (Hid.out HB2).2 (by omega)
            have h2 := this.2
            have : (p.at_ % 256 + (k - 1)) / 256 ≤ 3 := by omega
            show _ ≤ _
            omega
          clear hc0 hc1 hc2 HB2
          obtain ⟨wq, hwq⟩ : ∃ u, u = wr := ⟨_, rfl⟩
          have hc1 := ((Hid.out HP).later hlt (MI5.own (Hid.out HI2)).below).c1
          go_wp2
          go_loopw [6] (fun x6 wr3 => ∃ (j : Nat) (s3 : MS), j ≤ p.data.length ∧ x6 = .int .i64 (j : Int) ∧ MI5 w wr3 s3 mb (partPokes (partMaps f p k) p j) (600 * q + j) ∧ s3.ks.length ≤ 4 * (q + 1)) (fun x6 _ => p.data.length - (intOf x6).toNat)
          case atStart => exact ⟨0, s2, by omega, rfl, Hid.out HI2, Hid.out HK4⟩
          case round =>
            obtain ⟨j, s3, hj, rfl, hI3, hK3⟩ := hrel
            have hp3 := (Hid.out HP).later hlt hI3.own.below
            have hd0 := hp3.c0
            have hd1 := hp3.c1
            have HI3 := hidden hI3
            have HRW := hidden hp3.row
            clear hI3 hp3
            by_cases hjn : j < p.data.length
            · have hjn2 : (j : Int) < (p.data.length : Int) := by omega
              obtain ⟨db, doff, hda, hdc⟩ := getD_in_row (Hid.out HRW) hjn
              rw [hda] at hd1
              clear hda
              have H21 := fun m => hidden (MI5.pokeCall (a := p.at_) (k := j) (v := p.data.getD j 0) (Hid.out HI3) (by omega) m)
              rw [show apoke (partPokes (partMaps f p k) p j) (wrapAt p.at_ j) (p.data.getD j 0) = partPokes (partMaps f p k) p (j + 1) from rfl] at H21
              generalize p.data.getD j 0 = v at hdc H21
              go_wp2
              refine wp_region_tail 17 (by kernel_rfl) (by kernel_rfl) ?_
              simp only [List.take_succ_cons, List.take_zero, List.drop_succ_cons, List.drop_zero]
              repeat (go_big_quiet_step (fail))
              refine wpQuiet_nil ?_
              rintro _ ⟨nq, rfl⟩
              go_wp2_with (go_at_call 32; with_reducible refine (Hid.out (H21 nq)).mono ?_; rintro e w4 ⟨rb, rfl, s4, hi4, hk4⟩; have HI4 := hidden hi4; have HK4b := hidden hk4; clear hi4 hk4)
              go_roundw
              case rel =>
                have h5 := Hid.out HI4
                rw [show 600 * q + j + 1 = 600 * q + (j + 1) by omega] at h5
                have h6 : s4.ks.length ≤ 4 * (q + 1) := by rw [Hid.out HK4b]; exact hK3
                first | exact ⟨j + 1, s4, by omega, by simp, h5, h6⟩ | ((repeat apply Exists.intro); exact ⟨⟨j + 1, s4, by omega, rfl, h5, h6⟩, rfl⟩)
              case measure => simp [intOf]; omega
            · have hjn2 : ¬ (j : Int) < (p.data.length : Int) := by omega
              obtain rfl : j = p.data.length := by omega
              go_wp2
              go_roundw
              case rel =>
                refine ⟨q + 1, s3, by omega, by simp, ?_, hK3⟩
                rw [Hid.out HNX]
                have h3 := Hid.out HI3
                have e : partDone f p = partPokes (partMaps f p k) p p.data.length := by unfold partDone; rw [← hN]
                rw [e]
                exact ⟨h3.own, h3.most, h3.abs, h3.off⟩
              case measure => simp [intOf]; omega
    · have hql2 : ¬ (q : Int) < (ps.length : Int) := by omega
      obtain rfl : q = ps.length := by omega
      rw [List.take_of_length_le (Nat.le_refl _)] at HI
      have HMW : Hid (MW5 w wr s mb (partsDone ps fun _ => none)) := by
        have h3 := Hid.out HI
        exact ⟨h3.own, h3.abs⟩
      clear HI
      go_wp2
      go_loopw [7] (fun x7 wr4 => ∃ (j : Nat) (s4 : MS), j ≤ ps.length ∧ x7 = .int .i64 (j : Int) ∧ MW5 w wr4 s4 mb (watches (ps.take j) (partsDone ps fun _ => none))) (fun x7 _ => ps.length - (intOf x7).toNat)
      case atStart => exact ⟨0, s, by omega, rfl, Hid.out HMW⟩
      case round =>
        obtain ⟨j, s4, hj, rfl, hI4⟩ := hrel
        have HI4 := hidden hI4
        clear hI4
        by_cases hjn : j < ps.length
        · have hjn2 : (j : Int) < (ps.length : Int) := by omega
          obtain ⟨b, off, hao, hlt, hp⟩ := (Hid.out H).at hjn
          have hp4 := hp.later hlt (MW5.own (Hid.out HI4)).below
          have hc0 := hp4.c0
          have hc3 := hp4.c3
          have H14 := fun m => hidden (MW5.watchCall (b := ps[j].on) (Hid.out HI4) hp.lt m)
          have HNX : Hid (awatch (watches (ps.take j) (partsDone ps fun _ => none)) ps[j].at_ ps[j].on = watches (ps.take (j + 1)) (partsDone ps fun _ => none)) := by
            show _ = _
            rw [take_snoc ps j hjn, watches_snoc]
          rw [Hid.out HNX] at H14
          clear hp hp4 HNX
          subst hao
          generalize ps[j].at_ = pa at hc0 H14
          generalize ps[j].on = po at hc3 H14
          go_wp2
          refine wp_region_tail 11 (by kernel_rfl) (by kernel_rfl) ?_
          simp only [List.take_succ_cons, List.take_zero, List.drop_succ_cons, List.drop_zero]
          repeat (go_big_quiet_step (fail))
          refine wpQuiet_nil ?_
          rintro _ ⟨nq, rfl⟩
          go_wp2_with (go_at_call 33; with_reducible refine (Hid.out (H14 nq)).mono ?_; rintro e w5 ⟨rfl, s5, hi5⟩; have HI5 := hidden hi5; clear hi5)
          go_roundw
          case rel => exact ⟨j + 1, s5, by omega, by simp, Hid.out HI5⟩
          case measure => simp [intOf]; omega
        · have hjn2 : ¬ (j : Int) < (ps.length : Int) := by omega
          obtain rfl : j = ps.length := by omega
          go_wp2
          go_ret
          have h4 := Hid.out HI4
          rw [List.take_of_length_le (Nat.le_refl _)] at h4
          exact ⟨mb, rfl, s4, h4.own, h4.abs⟩
/-- Two memories of the same plain pages are the same. -/
theorem nodup_len : ∀ (l m : List Nat), l.Nodup → m.Nodup → (∀ x, x ∈ l ↔ x ∈ m) → l.length = m.length := fun l m h1 h2 h => (List.perm_ext_iff_of_nodup h1 h2).2 h |>.length_eq
theorem rise_nodup {l : List P5} (h : ∀ i j, i < j → j < l.length → (l.getD i nop5).at_ < (l.getD j nop5).at_) : (l.map P5.at_).Nodup := by
  refine List.pairwise_iff_getElem.2 fun i j hi hj hij => ?_
  rw [List.length_map] at hi hj
  have := h i j hij hj
  rw [List.getD_eq_getElem?_getD, List.getD_eq_getElem?_getD, List.getElem?_eq_getElem hj, List.getElem?_eq_getElem hi] at this
  simp at this
  rw [List.getElem_map, List.getElem_map]
  omega
theorem Sim.abs {s s' : MS} {l : List P5} (h : Sim s l) (he : s'.abs = s.abs) (hn : s'.ks.Nodup) : Sim s' l := by
  have hk : ∀ k, k ∈ s'.ks ↔ k ∈ s.ks := fun k => by rw [mem_abs, mem_abs, he]
  have hf : ∀ k, k ∈ s.ks → s'.data k = s.data k ∧ s'.pm k = s.pm k ∧ s'.on k = s.on k := fun k hm => by
    have h1 := abs_in hm
    have h2 := abs_in ((hk k).2 hm)
    rw [he, h1] at h2
    have h3 := Option.some.inj h2
    injection h3 with h4 h5
    injection h5 with h6 h7
    exact ⟨h4.symm, h6.symm, h7.symm⟩
  refine ⟨h.rise, fun j hj => ?_, fun k hm => h.back k ((hk k).1 hm), ?_⟩
  · obtain ⟨h1, h2, h3, h4⟩ := h.here j hj
    obtain ⟨f1, f2, f3⟩ := hf _ h1
    exact ⟨(hk _).2 h1, h2.trans f1.symm, h3.trans f2.symm, h4.trans f3.symm⟩
  · have h1 := nodup_len s'.ks (l.map P5.at_) hn (rise_nodup h.rise) (fun x => by
      rw [hk, List.mem_map]
      constructor
      · intro hx
        have hb := h.back x hx
        refine ⟨l.getD (find5 l x) nop5, ?_, find5_at hb⟩
        rw [List.getD_eq_getElem?_getD, List.getElem?_eq_getElem hb]
        exact List.getElem_mem _
      · rintro ⟨p, hp, rfl⟩
        obtain ⟨j, hj, rfl⟩ := List.getElem_of_mem hp
        have := (h.here j hj).1
        rw [List.getD_eq_getElem?_getD, List.getElem?_eq_getElem hj] at this
        exact this)
    rw [h1, List.length_map]
end Go.Proofs.Ytodoenimlhldjaa

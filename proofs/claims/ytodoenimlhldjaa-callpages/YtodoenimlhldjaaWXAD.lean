/- The library's sort of words: what holds in its round. -/
import Derived.Test.YtodoenimlhldjaaWMAM
import Derived.Deep.Cut
import Derived.Deep.CutRange
namespace Go.Proofs.Ytodoenimlhldjaa
open Go.ChangeShapes Go.WideShapes Go.ChangeAt Go.RowKit
set_option linter.unusedVariables false
def Low (m : List Nat) (a b : Nat) : Prop := 0 < a → ∀ p, a ≤ p → p < b → m.getD (a - 1) 0 ≤ m.getD p 0
/-- Within [A, B) all but what lies in [a, b) is in its place. -/
def Ord (m : List Nat) (A B a b : Nat) : Prop := ∀ p q, A ≤ p → p < q → q < B → (p < a ∨ b ≤ q) → m.getD p 0 ≤ m.getD q 0
structure Pq (w wx : World) (g : Nat) (d m : List Nat) (tl : List Value) (A B a b : Nat) : Prop where
  row : Srow wx g m tl
  tur : Turned d m A B
  ord : Ord m A B a b
  low : Low m a b
  keep : Keep (· = g) w wx
theorem Pq.len {w wx : World} {g A B a b : Nat} {d m : List Nat} {tl : List Value} (h : Pq w wx g d m tl A B a b) : m.length = d.length := h.tur.len
theorem Keep.thru {g : Nat} {u v w : World} (h : Keep (· = g) u v) (k : Keep (· = g) v w) : Keep (· = g) u w := h.trans k fun _ _ e => e
theorem Pq.turned {w wx wy : World} {g A B a b : Nat} {d m k : List Nat} {tl : List Value} (h : Pq w wx g d m tl A B a b) (hr : Srow wy g k tl) (ht : Turned m k a b) (hk : Keep (· = g) wx wy) (h1 : A ≤ a) (h2 : a ≤ b) (h3 : b ≤ B) (h4 : B ≤ d.length) : Pq w wy g d k tl A B a b := by
  have hl := h.len
  refine ⟨hr, h.tur.trans (ht.wide h1 h3), fun p q hp hpq hq hor => ?_, fun ha p hp hpb => ?_, h.keep.thru hk⟩
  · rcases hor with hpa | hqb
    · rw [ht.out p (by omega)]
      by_cases hin : a ≤ q ∧ q < b
      · exact ht.all h2 (by omega) (fun x => m.getD p 0 ≤ x) (fun j j1 j2 => h.ord p j hp (by omega) (by omega) (.inl hpa)) q hin.1 hin.2
      · rw [ht.out q (by omega)]
        exact h.ord p q hp hpq hq (.inl hpa)
    · rw [ht.out q (by omega)]
      by_cases hin : a ≤ p ∧ p < b
      · exact ht.all h2 (by omega) (fun x => x ≤ m.getD q 0) (fun j j1 j2 => h.ord j q (by omega) (by omega) hq (.inr hqb)) p hin.1 hin.2
      · rw [ht.out p (by omega)]
        exact h.ord p q hp hpq hq (.inr hqb)
  · rw [ht.out (a - 1) (by omega)]
    exact ht.all h2 (by omega) (fun x => m.getD (a - 1) 0 ≤ x) (fun j j1 j2 => h.low ha j j1 j2) p hp hpb
theorem Pq.done {w wx : World} {g A B a b : Nat} {d m : List Nat} {tl : List Value} (h : Pq w wx g d m tl A B a b) (hs : SortedOn m a b) : SortedOn m A B := by
  intro p q hp hpq hq
  by_cases hin : p < a ∨ b ≤ q
  · exact h.ord p q hp hpq hq hin
  · exact hs p q (by omega) hpq (by omega)
/-- Behind partitionEqual. -/
theorem Pq.equal {w wx : World} {g A B a b i j : Nat} {d m : List Nat} {tl : List Value} (h : Pq w wx g d m tl A B a b) (ha : 0 < a) (hv : m.getD a 0 ≤ m.getD (a - 1) 0) (hp : PEq m a b i j) (h1 : A ≤ a) (hai : a < i) (hib : i ≤ b) (h3 : b ≤ B) : Pq w wx g d m tl A B i b := by
  have hlow : ∀ p q, a ≤ p → p < i → a ≤ q → q < b → m.getD p 0 ≤ m.getD q 0 := fun p q p1 p2 q1 q2 => Nat.le_trans (hp.low p p1 p2) (Nat.le_trans hv (h.low ha q q1 q2))
  refine ⟨h.row, h.tur, fun p q hp1 hpq hq hor => ?_, fun _ p hp1 hp2 => hlow (i - 1) p (by omega) (by omega) (by omega) hp2, h.keep⟩
  by_cases hin : p < a ∨ b ≤ q
  · exact h.ord p q hp1 hpq hq hin
  · exact hlow p q (by omega) (by omega) (by omega) (by omega)
/-- Behind partition and the sort of the left part. -/
theorem Pq.left {w wx wy : World} {g A B a b j : Nat} {d m k : List Nat} {tl : List Value} (h : Pq w wx g d m tl A B a b) (hm : Mid m a b j) (hr : Srow wy g k tl) (ht : Turned m k a j) (hs : SortedOn k a j) (hk : Keep (· = g) wx wy) (h1 : A ≤ a) (haj : a ≤ j) (hjb : j < b) (h3 : b ≤ B) (h4 : B ≤ d.length) : Pq w wy g d k tl A B (j + 1) b := by
  have hl := h.len
  have hP := h.turned hr (ht.wide (Nat.le_refl _) (Nat.le_of_lt hjb)) hk h1 (by omega) h3 h4
  have hj : k.getD j 0 = m.getD j 0 := ht.out j (by omega)
  have hhi : ∀ q, j < q → q < b → k.getD j 0 ≤ k.getD q 0 := fun q q1 q2 => by rw [hj, ht.out q (by omega)]; exact hm.high q q1 q2
  have hlo : ∀ p, a ≤ p → p < j → k.getD p 0 ≤ k.getD j 0 := fun p p1 p2 => by
    rw [hj]
    exact ht.all haj (by omega) (fun x => x ≤ m.getD j 0) (fun i i1 i2 => hm.low i i1 i2) p p1 p2
  refine ⟨hr, hP.tur, fun p q hp1 hpq hq hor => ?_, fun _ p hp1 hp2 => by rw [Nat.add_sub_cancel]; exact hhi p (by omega) hp2, hP.keep⟩
  by_cases hin : p < a ∨ b ≤ q
  · exact hP.ord p q hp1 hpq hq hin
  · by_cases hpj : p = j
    · subst hpj
      exact hhi q hpq (by omega)
    · have hpj2 : p < j := by omega
      by_cases hqj : q < j
      · exact hs p q (by omega) hpq hqj
      · by_cases hqe : q = j
        · subst hqe
          exact hlo p (by omega) hpj2
        · exact Nat.le_trans (hlo p (by omega) hpj2) (hhi q (by omega) (by omega))
/-- Behind partition and the sort of the right part. -/
theorem Pq.right {w wx wy : World} {g A B a b j : Nat} {d m k : List Nat} {tl : List Value} (h : Pq w wx g d m tl A B a b) (hm : Mid m a b j) (hr : Srow wy g k tl) (ht : Turned m k (j + 1) b) (hs : SortedOn k (j + 1) b) (hk : Keep (· = g) wx wy) (h1 : A ≤ a) (haj : a ≤ j) (hjb : j < b) (h3 : b ≤ B) (h4 : B ≤ d.length) : Pq w wy g d k tl A B a j := by
  have hl := h.len
  have hP := h.turned hr (ht.wide (by omega) (Nat.le_refl _)) hk h1 (by omega) h3 h4
  have hj : k.getD j 0 = m.getD j 0 := ht.out j (by omega)
  have hlo : ∀ p, a ≤ p → p < j → k.getD p 0 ≤ k.getD j 0 := fun p p1 p2 => by rw [hj, ht.out p (by omega)]; exact hm.low p p1 p2
  have hhi : ∀ q, j < q → q < b → k.getD j 0 ≤ k.getD q 0 := fun q q1 q2 => by
    rw [hj]
    exact ht.all (by omega) (by omega) (fun x => m.getD j 0 ≤ x) (fun i i1 i2 => hm.high i (by omega) i2) q (by omega) q2
  refine ⟨hr, hP.tur, fun p q hp1 hpq hq hor => ?_, fun ha p hp1 hp2 => hP.low ha p hp1 (by omega), hP.keep⟩
  by_cases hin : p < a ∨ b ≤ q
  · exact hP.ord p q hp1 hpq hq hin
  · by_cases hqj : q = j
    · subst hqj
      exact hlo p (by omega) hpq
    · have hqj2 : j < q := by omega
      by_cases hpj : j < p
      · exact hs p q (by omega) hpq (by omega)
      · by_cases hpe : p = j
        · subst hpe
          exact hhi q hqj2 (by omega)
        · exact Nat.le_trans (hlo p (by omega) (by omega)) (hhi q hqj2 (by omega))
end Go.Proofs.Ytodoenimlhldjaa
namespace Go.Proofs.Ytodoenimlhldjaa
open Go.ChangeShapes Go.WideShapes Go.ChangeAt Go.RowKit
set_option linter.unusedVariables false
def PdqSays (w : World) (g : Nat) (d : List Nat) (tl : List Value) (A B : Nat) (e : Ending) (w' : World) : Prop :=
  e = .returned (.tuple #[]) ∧ ∃ m, Srow w' g m tl ∧ Turned d m A B ∧ SortedOn m A B ∧ Keep (· = g) w w'
set_option maxRecDepth 20000 in
set_option maxHeartbeats 8000000 in
theorem pdq_any (g cap : Nat) (tl : List Value) (N : Nat) : ∀ (w : World) (A B : Nat) (d : List Nat) (lim : Int), B - A = N → Srow w g d tl → A ≤ B → B ≤ d.length → d.length ≤ 64 → Low d A B →
    Calls Try.prog 82 #[.slice (some ⟨g, 0, none⟩) d.length cap, .int .i64 (A : Int), .int .i64 (B : Int), .int .i64 lim] w (PdqSays w g d tl A B) := by
  induction N using Nat.strongRecOn with
  | ind N ih =>
  intro w A B d lim0 hN h hAB hB hlen hlow
  have IH : Hid (∀ (w1 : World) (a b : Nat) (m : List Nat) (lim : Int), b - a < N → Srow w1 g m tl → a ≤ b → b ≤ m.length → m.length = d.length → Low m a b → Calls Try.prog 82 #[.slice (some ⟨g, 0, none⟩) d.length cap, .int .i64 (a : Int), .int .i64 (b : Int), .int .i64 lim] w1 (PdqSays w1 g m tl a b)) := fun w1 a b m lim h1 h2 h3 h4 h5 h6 => by
    have := ih (b - a) h1 w1 a b m lim rfl h2 h3 h4 (by omega) h6
    rw [h5] at this
    exact this
  have HP0 : Hid (Pq w w g d d tl A B A B) := ⟨h, Turned.refl _ _ _, fun p q h1 h2 h3 h4 => by omega, hlow, Keep.refl _ _⟩
  clear ih h hlow
  go_enter Try.func82, Try.ntmps82
  go_wp2
  go_loopw [1, 2, 3, 8, 9] (fun x1 x2 x3 x8 x9 wr => ∃ (a b : Nat) (lim : Int) (bb bp : Bool) (m : List Nat), x1 = .int .i64 (a : Int) ∧ x2 = .int .i64 (b : Int) ∧ x3 = .int .i64 lim ∧ x8 = .bool bb ∧ x9 = .bool bp ∧ A ≤ a ∧ a ≤ b ∧ b ≤ B ∧ Pq w wr g d m tl A B a b) (fun x1 x2 _ _ _ _ => (intOf x2).toNat - (intOf x1).toNat)
  case atStart => exact ⟨A, B, lim0, true, true, d, rfl, rfl, rfl, rfl, rfl, Nat.le_refl _, hAB, Nat.le_refl _, Hid.out HP0⟩
  case round =>
    obtain ⟨a, b, lim, bb, bp, m, rfl, rfl, rfl, rfl, rfl, hAa, hab, hbB, hP⟩ := hrel
    have hml := hP.len
    have hbd : b ≤ d.length := by omega
    obtain ⟨n, hn⟩ : ∃ n : Nat, (b : Int) - (a : Int) = (n : Int) := ⟨b - a, by omega⟩
    by_cases h12 : n ≤ 12
    · have h122 : (n : Int) ≤ 12 := by omega
      have H89 : Hid (Calls Try.prog 85 #[.slice (some ⟨g, 0, none⟩) d.length cap, .int .i64 (a : Int), .int .i64 (b : Int)] wr fun e w' => e = .returned (.tuple #[]) ∧ ∃ k, Srow w' g k tl ∧ Turned d k A B ∧ SortedOn k A B ∧ Keep (· = g) w w') := by
        have := insertion_any wr g cap a b m tl hP.row hab (by omega) (by omega)
        rw [hml] at this
        refine this.mono ?_
        rintro e w' ⟨he, k, h1, h2, h3, h4⟩
        have hP2 := hP.turned h1 h2 (Keep.of_only h4) hAa hab hbB hB
        exact ⟨he, k, h1, hP2.tur, hP2.done h3, hP2.keep⟩
      clear hP IH HP0 hml
      go_wp2_with (go_at_call 85; refine (Hid.out H89).mono ?_; rintro e w1 ⟨rfl, hk⟩; have HK := hidden hk; clear hk)
      first | go_end0 | refine bodyPost_ret (results_none rfl _ _ _) rfl ?_
      exact ⟨rfl, Hid.out HK⟩
    · have h122 : ¬ (n : Int) ≤ 12 := by omega
      by_cases hl0 : lim = 0
      · subst hl0
        have H90 : Hid (Calls Try.prog 86 #[.slice (some ⟨g, 0, none⟩) d.length cap, .int .i64 (a : Int), .int .i64 (b : Int)] wr fun e w' => e = .returned (.tuple #[]) ∧ ∃ k, Srow w' g k tl ∧ Turned d k A B ∧ SortedOn k A B ∧ Keep (· = g) w w') := by
          have := heapsort_any wr g cap a b m tl hP.row (by omega) (by omega) (by omega)
          rw [hml] at this
          refine this.mono ?_
          rintro e w' ⟨he, k, h1, h2, h3, h4⟩
          have hP2 := hP.turned h1 h2 (Keep.of_only h4) hAa hab hbB hB
          exact ⟨he, k, h1, hP2.tur, hP2.done h3, hP2.keep⟩
        clear hP IH HP0 hml
        go_wp2_with (go_at_call 86; refine (Hid.out H90).mono ?_; rintro e w1 ⟨rfl, hk⟩; have HK := hidden hk; clear hk)
        first | go_end0 | refine bodyPost_ret (results_none rfl _ _ _) rfl ?_
        exact ⟨rfl, Hid.out HK⟩
      · have HPQ := hidden hP
        have hn13 : a + 12 < b := by omega
        clear hP
        go_upto_if 35 with (fail)
        go_cut [3] from 19 to 133 (fun x3 wx => ∃ (lim : Int) (m : List Nat), x3 = .int .i64 lim ∧ Pq w wx g d m tl A B a b)
        case first =>
          have H91 : Hid (Calls Try.prog 87 #[.slice (some ⟨g, 0, none⟩) d.length cap, .int .i64 (a : Int), .int .i64 (b : Int)] wr fun e w' => e = .returned (.tuple #[]) ∧ ∃ k, Pq w w' g d k tl A B a b) := by
            have hP := Hid.out HPQ
            have := breaks_any wr g cap a b m tl hP.row hn13 (by omega) (by omega)
            rw [hml] at this
            refine this.mono ?_
            rintro e w' ⟨he, k, h1, h2, h3⟩
            exact ⟨he, k, hP.turned h1 h2 h3 hAa hab hbB hB⟩
          cases bb
          · go_wp2_with (go_at_call 87; refine (Hid.out H91).mono ?_; rintro e w1 ⟨rfl, k, hk⟩; have HK := hidden hk; clear hk)
            go_meet
            case rel => exact ⟨_, k, rfl, Hid.out HK⟩
          · go_wp2
            go_meet
            case rel => exact ⟨lim, m, rfl, Hid.out HPQ⟩
        case rest =>
          obtain ⟨lim2, m2, rfl, hP2⟩ := hcut
          have hml2 := hP2.len
          have HPA := hidden hP2
          have H92 : Hid (Calls Try.prog 88 #[.slice (some ⟨g, 0, none⟩) d.length cap, .int .i64 (a : Int), .int .i64 (b : Int)] wc fun e w' => ∃ (x : Nat) (hint : Int), e = .returned (.tuple #[.int .i64 (x : Int), .int .i64 hint]) ∧ a ≤ x ∧ x < b ∧ Pq w w' g d m2 tl A B a b) := by
            have := pivot_any wc g cap a b m2 tl hP2.row hn13 (by omega) (by omega)
            rw [hml2] at this
            refine this.mono ?_
            rintro e w' ⟨x, hint, he, h1, h2, h3⟩
            exact ⟨x, hint, he, h1.1, h1.2, hP2.turned h2 (Turned.refl _ _ _) (Keep.of_below h3) hAa hab hbB hB⟩
          clear hP2 HPQ hml hl0 m
          go_upto_if 50 with (go_at_call 88; refine (Hid.out H92).mono ?_; rintro e w1 ⟨pv, hint, rfl, hv1, hv2, hP3⟩; have HPB := hidden hP3; clear hP3)
          go_cut [11, 12] from 19 to 133 (fun x11 x12 wx => ∃ (pv : Nat) (hint : Int) (m : List Nat), x11 = .int .i64 (pv : Int) ∧ x12 = .int .i64 hint ∧ a ≤ pv ∧ pv < b ∧ Pq w wx g d m tl A B a b)
          case first =>
            by_cases hh : hint = 2
            · subst hh
              have hpv : (b : Int) - 1 - ((pv : Int) - (a : Int)) = ((b - 1 - (pv - a) : Nat) : Int) := by omega
              have H93 : Hid (Calls Try.prog 89 #[.slice (some ⟨g, 0, none⟩) d.length cap, .int .i64 (a : Int), .int .i64 (b : Int)] w1 fun e w' => e = .returned (.tuple #[]) ∧ ∃ k, Pq w w' g d k tl A B a b) := by
                have hP := Hid.out HPB
                have := reverse_any w1 g cap a b m2 tl hP.row (by omega) (by omega) (by omega)
                rw [hml2] at this
                refine this.mono ?_
                rintro e w' ⟨he, k, h1, h2, h3⟩
                exact ⟨he, k, hP.turned h1 h2 (Keep.of_only h3) hAa hab hbB hB⟩
              go_wp2_with (go_at_call 89; refine (Hid.out H93).mono ?_; rintro e w2 ⟨rfl, k, hk⟩; have HK := hidden hk; clear hk)
              go_meet
              case rel => first | exact ⟨b - 1 - (pv - a), 1, k, by simp; omega, rfl, by omega, by omega, Hid.out HK⟩ | exact ⟨b - 1 - (pv - a), 1, k, rfl, rfl, by omega, by omega, Hid.out HK⟩
            · go_wp2
              go_meet
              case rel => exact ⟨pv, hint, m2, rfl, rfl, hv1, hv2, Hid.out HPB⟩
          case rest =>
            clear HPA HPB H92 hv1 hv2 hml2 pv hint m2
            obtain ⟨pv, hint, m, rfl, rfl, hv1, hv2, hP⟩ := hcut
            have hml := hP.len
            have HPC := hidden hP
            clear hP
            generalize wc = W2 at HPC ⊢
            go_upto_region 15 with (fail)
            go_cut [68] from 19 to 133 (fun x68 wx => ∃ t : Bool, x68 = .bool t ∧ wx = W2)
            case first =>
              clear HPC IH HP0
              cases bb <;> cases bp <;> by_cases hh : hint = 1
              all_goals
                go_wp2
                go_meet
                case rel => exact ⟨_, rfl, rfl⟩
            case rest =>
              obtain ⟨t, rfl, rfl⟩ := hcut
              go_upto_if 68 with (fail)
              go_cut [] from 19 to 133 (fun wx => ∃ m : List Nat, Pq w wx g d m tl A B a b)
              case first =>
                have H94 : Hid (Calls Try.prog 90 #[.slice (some ⟨g, 0, none⟩) d.length cap, .int .i64 (a : Int), .int .i64 (b : Int)] wc fun e w' => ∃ (f : Bool) (k : List Nat), e = .returned (.bool f) ∧ Pq w w' g d k tl A B a b ∧ (f = true → SortedOn k a b)) := by
                  have hP := Hid.out HPC
                  have := partins_any wc g cap a b m tl hP.row (by omega) (by omega) (by omega) hP.low
                  rw [hml] at this
                  refine this.mono ?_
                  rintro e w' ⟨f, k, he, h1, h2, h3, h4⟩
                  exact ⟨f, k, he, hP.turned h1 h2 (Keep.of_only h4) hAa hab hbB hB, h3⟩
                cases t
                · go_wp2
                  go_meet
                  case rel => exact ⟨m, Hid.out HPC⟩
                · go_wp2_with (go_at_call 90; refine (Hid.out H94).mono ?_; rintro e w2 ⟨f, k, rfl, hk, hs⟩; have HK := hidden hk; have HS := hidden hs; clear hk hs; cases f)
                  · go_meet
                    case rel => exact ⟨k, Hid.out HK⟩
                  · first | go_end0 | refine bodyPost_ret (results_none rfl _ _ _) rfl ?_
                    exact ⟨rfl, k, (Hid.out HK).row, (Hid.out HK).tur, (Hid.out HK).done (Hid.out HS (by first | rfl | trivial)), (Hid.out HK).keep⟩
              case rest =>
                clear HPC hml m
                obtain ⟨m, hP⟩ := hcut
                have hml := hP.len
                have HPD := hidden hP
                have hca := hP.row.cell (j := a - 1) (by omega)
                have hcv := hP.row.cell (j := pv) (by omega)
                clear hP
                generalize wc = W3 at HPD hca hcv ⊢
                go_upto_region 17 with (fail)
                go_cut [87] from 19 to 133 (fun x87 wx => ∃ t : Bool, x87 = .bool t ∧ (t = true → 0 < a ∧ m.getD pv 0 ≤ m.getD (a - 1) 0) ∧ ∃ nd, wx = W3.drewN nd)
                case first =>
                  have HX : Hid (∀ x y, x = m.getD (a - 1) 0 → y = m.getD pv 0 → (!decide (x < y)) = true → m.getD pv 0 ≤ m.getD (a - 1) 0) := fun x y h1 h2 h3 => by
                    subst h1 h2
                    simp only [Bool.not_eq_true', decide_eq_false_iff_not] at h3
                    omega
                  obtain ⟨xa, hxa⟩ : ∃ xa, xa = m.getD (a - 1) 0 := ⟨_, rfl⟩
                  obtain ⟨xv, hxv⟩ : ∃ xv, xv = m.getD pv 0 := ⟨_, rfl⟩
                  rw [← hxa] at hca
                  rw [← hxv] at hcv
                  have HXA := hidden hxa
                  have HXV := hidden hxv
                  have hpd : pv < d.length := by omega
                  clear HPD IH HP0 hxa hxv
                  by_cases ha0 : a = 0
                  · have ha1 : decide ((0 : Int) < (a : Int)) = false := by simp; omega
                    have ha3 : decide (0 < a) = false := by simp; omega
                    clear ha0
                    go_quiet (fail)
                    go_wp2
                    go_meet
                    case rel => exact ⟨false, rfl, (fun h => by cases h), _, rfl⟩
                  · have ha1 : (0 : Int) < (a : Int) := by omega
                    have hta : ((a : Int) - 1).toNat = a - 1 := by omega
                    have had : (a : Int) - 1 < (d.length : Int) := by omega
                    have ha2 : 0 < a := by omega
                    go_quiet ((go_at_call 91; exact Calls.quiet_of_same (less_any xa xv _)))
                    go_wp2
                    go_meet
                    case rel => exact ⟨_, rfl, fun h => ⟨ha2, Hid.out HX xa xv (Hid.out HXA) (Hid.out HXV) h⟩, _, rfl⟩
                case rest =>
                  obtain ⟨t, rfl, ht, nd, rfl⟩ := hcut
                  have hP := Hid.out HPD
                  have hPn : Pq w (W3.drewN nd) g d m tl A B a b := ⟨hP.row, hP.tur, hP.ord, hP.low, hP.keep.drewN nd⟩
                  clear hP HPD hca hcv
                  generalize W3.drewN nd = W4 at hPn ⊢
                  have HPE := hidden hPn
                  cases t
                  · clear ht
                    have H97 : Hid (Calls Try.prog 93 #[.slice (some ⟨g, 0, none⟩) d.length cap, .int .i64 (a : Int), .int .i64 (b : Int), .int .i64 (pv : Int)] W4 fun e w' => ∃ (j : Nat) (f : Bool) (k : List Nat), e = .returned (.tuple #[.int .i64 (j : Int), .bool f]) ∧ a ≤ j ∧ j < b ∧ Mid k a b j ∧ Pq w w' g d k tl A B a b ∧ ((j : Int) - (a : Int) < (b : Int) - (j : Int) ∨ ¬ (j : Int) - (a : Int) < (b : Int) - (j : Int))) := by
                      have := part_any W4 g cap a b pv m tl hPn.row hv1 hv2 (by omega) (by omega)
                      rw [hml] at this
                      refine this.mono ?_
                      rintro e w' ⟨j, f, k, he, h1, h2, h3, h4, h5, h6⟩
                      exact ⟨j, f, k, he, h1, h2, h5, hPn.turned h3 h4 (Keep.of_only h6) hAa hab hbB hB, by omega⟩
                    clear hPn HPE
                    have HIL : Hid (∀ (w2 : World) (j : Nat) (k : List Nat), a ≤ j → j < b → Mid k a b j → Pq w w2 g d k tl A B a b → Calls Try.prog 82 #[.slice (some ⟨g, 0, none⟩) d.length cap, .int .i64 (a : Int), .int .i64 (j : Int), .int .i64 lim2] w2 fun e w' => e = .returned (.tuple #[]) ∧ ∃ k2, Pq w w' g d k2 tl A B (j + 1) b) := fun w2 j k h1 h2 h3 h4 => by
                      have hl := h4.len
                      refine (Hid.out IH w2 a j k lim2 (by omega) h4.row h1 (by omega) hl (fun ha p p1 p2 => h4.low ha p p1 (by omega))).mono ?_
                      rintro e w' ⟨he, k2, r1, r2, r3, r4⟩
                      exact ⟨he, k2, h4.left h3 r1 r2 r3 r4 hAa h1 h2 hbB hB⟩
                    have HIR : Hid (∀ (w2 : World) (j : Nat) (k : List Nat), a ≤ j → j < b → Mid k a b j → Pq w w2 g d k tl A B a b → Calls Try.prog 82 #[.slice (some ⟨g, 0, none⟩) d.length cap, .int .i64 ((j : Int) + 1), .int .i64 (b : Int), .int .i64 lim2] w2 fun e w' => e = .returned (.tuple #[]) ∧ ∃ k2, Pq w w' g d k2 tl A B a j) := fun w2 j k h1 h2 h3 h4 => by
                      have hl := h4.len
                      have := Hid.out IH w2 (j + 1) b k lim2 (by omega) h4.row (by omega) (by omega) hl (fun ha p p1 p2 => by rw [Nat.add_sub_cancel]; exact h3.high p (by omega) p2)
                      rw [show ((j + 1 : Nat) : Int) = (j : Int) + 1 by omega] at this
                      refine this.mono ?_
                      rintro e w' ⟨he, k2, r1, r2, r3, r4⟩
                      exact ⟨he, k2, h4.right h3 r1 r2 r3 r4 hAa h1 h2 hbB hB⟩
                    clear IH HP0
                    go_wp2_with (first
                      | (go_at_call 93; refine (Hid.out H97).mono ?_; rintro e w2 ⟨j, f, k, rfl, hj1, hj2, hm3, hk3, hor⟩; have HL := hidden (Hid.out HIL w2 j k hj1 hj2 hm3 hk3); have HR := hidden (Hid.out HIR w2 j k hj1 hj2 hm3 hk3); clear hm3 hk3; rcases hor with hor | hor)
                      | (go_at_call 82; (first | (with_reducible refine (Hid.out HL).mono ?_) | (with_reducible refine (Hid.out HR).mono ?_)); rintro e w3 ⟨rfl, k2, hk⟩; have HK := hidden hk; clear hk))
                    · go_roundw
                      case rel => exact ⟨j + 1, b, lim2, _, f, k2, by simp, rfl, rfl, rfl, rfl, by omega, by omega, hbB, Hid.out HK⟩
                      case measure => simp [intOf]; omega
                    · go_roundw
                      case rel => exact ⟨a, j, lim2, _, f, k2, rfl, rfl, rfl, rfl, rfl, hAa, by omega, by omega, Hid.out HK⟩
                      case measure => simp [intOf]; omega
                  · obtain ⟨ha0, hle⟩ := ht rfl
                    have H96 : Hid (Calls Try.prog 92 #[.slice (some ⟨g, 0, none⟩) d.length cap, .int .i64 (a : Int), .int .i64 (b : Int), .int .i64 (pv : Int)] W4 fun e w' => ∃ (i : Nat) (k : List Nat), e = .returned (.int .i64 (i : Int)) ∧ a < i ∧ i ≤ b ∧ Pq w w' g d k tl A B i b) := by
                      have := parteq_any W4 g cap a b pv m tl hPn.row hv1 hv2 (by omega) (by omega)
                      rw [hml] at this
                      refine this.mono ?_
                      rintro e w' ⟨i, j, k, he, h1, h2, h3, h4, h5, h6, h7, h8⟩
                      have hP2 := hPn.turned h4 h5 (Keep.of_only h8) hAa hab hbB hB
                      exact ⟨i, k, he, h1, h2, hP2.equal ha0 (by rw [h7, h5.out (a - 1) (by omega)]; exact hle) h6 hAa h1 h2 hbB⟩
                    clear hPn HPE IH HP0 hle ht
                    go_wp2_with (go_at_call 92; refine (Hid.out H96).mono ?_; rintro e w2 ⟨i, k, rfl, hi1, hi2, hk⟩; have HK := hidden hk; clear hk)
                    go_roundw
                    case rel => exact ⟨i, b, lim2, bb, bp, k, rfl, rfl, rfl, rfl, rfl, by omega, hi2, hbB, Hid.out HK⟩
                    case measure => simp [intOf]; omega
end Go.Proofs.Ytodoenimlhldjaa
namespace Go.Proofs.Ytodoenimlhldjaa
open Go.ChangeShapes Go.WideShapes Go.ChangeAt Go.RowKit
set_option linter.unusedVariables false
theorem keep_grown {g : Nat} {w w' : World} (h : Keep (· = g) w w') : w.grownBy w' (some g) := ⟨h.os, h.tape, h.output, h.size, fun k hk hne => h.block k hk fun e => hne (by rw [e])⟩
theorem pdq_top (w : World) (g cap : Nat) (d : List Nat) (tl : List Value) (k : Int) (h : Srow w g d tl) (hlen : d.length ≤ 64) :
    Calls Try.prog 82 #[.slice (some ⟨g, 0, none⟩) d.length cap, .int .i64 0, .int .i64 (d.length : Int), .int .i64 k] w fun e w' => e = .returned (.tuple #[]) ∧ ∃ m, Srow w' g m tl ∧ m.Perm d ∧ SortedOn m 0 d.length ∧ Keep (· = g) w w' := by
  have hp := pdq_any g cap tl d.length w 0 d.length d k (Nat.sub_zero _) h (Nat.zero_le _) (Nat.le_refl _) hlen (fun h0 => absurd h0 (Nat.lt_irrefl 0))
  refine Calls.mono hp ?_
  rintro e w' ⟨he, m, h1, h2, h3, h4⟩
  exact ⟨he, m, h1, h2.perm, h3, h4⟩
set_option maxRecDepth 20000 in
theorem sort_any (w : World) (v : Value) (d : List Nat) (base : Nat) (hrow : w.ownsRow base 23 1 v d.length (words d)) (hlen : d.length ≤ 64) :
    Calls Try.prog 72 #[v] w fun e w' => e = .returned (.tuple #[]) ∧ ∃ m, m.Perm d ∧ SortedOn m 0 m.length ∧ w'.ownsRow base 23 1 v m.length (words m) ∧ w.grownBy w' v.ownBlock := by
  rcases hrow.2 with ⟨rfl, h0⟩ | ⟨g, cap, cur, rfl, hb, hg, hnc, hcm, hcs, htk⟩
  · have hd : d = [] := List.eq_nil_of_length_eq_zero h0
    subst hd
    have HL := hidden (len_any 0 (by omega) w)
    rw [show ((0 : Nat) : Int) = 0 from rfl] at HL
    have HP := fun k => hidden (pdq_nil w k)
    clear hrow h0 hlen
    go_enter Try.func72, Try.ntmps72
    go_wp2_with (first | (go_at_call 83; refine (Hid.out HL).mono ?_; rintro e w1 ⟨k, rfl, hww⟩; rw [hww]; clear hww w1) | (go_at_call 82; refine (Hid.out (HP _)).mono ?_; rintro e w1 ⟨rfl, hww⟩; rw [hww]; clear hww w1))
    go_end0
    exact ⟨rfl, [], List.Perm.refl _, fun p q h1 h2 h3 => by simp at h3, World.ownsRow_nil _ _ _ _, ⟨rfl, rfl, rfl, Nat.le_refl _, fun _ _ _ => rfl⟩⟩
  · have hS : Srow w g d (cur.toList.drop d.length) := by
      unfold Srow
      rw [hg]
      congr 2
      have e : cur.toList = words d ++ cur.toList.drop d.length := by
        rw [← htk, Nat.mul_one, List.take_append_drop]
      apply Array.ext'
      simp
      exact e
    have hcap : d.length ≤ cap := hnc
    have HL := hidden (len_any d.length (by omega) w)
    have HP := fun k => hidden (pdq_top w g cap d (cur.toList.drop d.length) k hS hlen)
    have hcl : (cur.toList.drop d.length).length = cap - d.length := by
      rw [List.length_drop, Array.length_toList, hcs, Nat.mul_one]
    generalize cur.toList.drop d.length = tl at HP hcl
    clear hrow hS hg htk hcs
    go_enter Try.func72, Try.ntmps72
    go_wp2_with (first | (go_at_call 83; refine (Hid.out HL).mono ?_; rintro e w1 ⟨k, rfl, hww⟩; rw [hww]; clear hww w1) | (go_at_call 82; refine (Hid.out (HP _)).mono ?_; rintro e w1 ⟨rfl, m, h1, h2, h3, h4⟩; have H1 := hidden h1; have H2 := hidden h2; have H3 := hidden h3; have H4 := hidden h4; clear h1 h2 h3 h4))
    go_end0
    have hml := (Hid.out H2).length_eq
    refine ⟨rfl, m, Hid.out H2, by rw [hml]; exact Hid.out H3, ⟨by rw [words_len, Nat.mul_one], .inr ⟨g, cap, _, by rw [hml], hb, Hid.out H1, by rw [hml]; exact hcap, hcm, ?_, ?_⟩⟩, ?_⟩
    · simp [words_len, hcl, hml]
      omega
    · simp [words_len]
    · exact keep_grown (Hid.out H4)
set_option maxRecDepth 20000 in
theorem pages_all (w : World) (s : MS) (h : MemW w s) : Calls Try.prog 24 #[.pointer (some ⟨s.mb, 0, none⟩)] w fun e w' => ∃ ao cap l, e = .returned (.slice ao l.length cap) ∧ l.Perm s.ks ∧ Rising l ∧ Wds w' (.slice ao l.length cap) l ∧ Below w.heap.size w w' := by
  have hlen : s.ks.length ≤ 64 := Nat.le_trans h.room h.great
  have hc := h.cell0
  have hnd := h.nodup
  have H56 := hidden (keysOf_any s.bm w)
  have hb0 : Below w.heap.size w (w.alloc (.cells #[.map (some s.bm)] 86)) := (Below.refl _ w).alloc (Nat.le_refl _) _
  have H64 := hidden (collect_any w.heap.size s.bm s.hb s.ks (by omega) (w.alloc (.cells #[.map (some s.bm)] 86)) (by simp) (by rw [cell_of_row _ _ _ _ _ _ (heap_alloc_new w _)]; rfl) ((hb0.block s.bm (h.lt (.inr (.inl rfl)))).trans h.map) hnd)
  have HB0 := hidden hb0
  have H55 : Hid (Calls Try.prog 51 #[.func (.func 73) #[] #[.pointer (some ⟨w.heap.size, 0, none⟩)]] (w.alloc (.cells #[.map (some s.bm)] 86)) fun e w' => ∃ ao cap l, e = .returned (.slice ao l.length cap) ∧ l.Perm s.ks ∧ Rising l ∧ Wds w' (.slice ao l.length cap) l ∧ Below w.heap.size w w') := by
    show Calls Try.prog 51 #[.func (.func 73) #[] #[.pointer (some ⟨w.heap.size, 0, none⟩)]] (w.alloc (.cells #[.map (some s.bm)] 86)) fun e w' => ∃ ao cap l, e = .returned (.slice ao l.length cap) ∧ l.Perm s.ks ∧ Rising l ∧ Wds w' (.slice ao l.length cap) l ∧ Below w.heap.size w w'
    have H65 : Hid (∀ u v ss, ss.Perm s.ks → u.ownsRow (w.alloc (.cells #[.map (some s.bm)] 86)).heap.size 23 1 v ss.length (words ss) → Calls Try.prog 72 #[v] u fun e w' => e = .returned (.tuple #[]) ∧ ∃ m, m.Perm ss ∧ SortedOn m 0 m.length ∧ w'.ownsRow (w.alloc (.cells #[.map (some s.bm)] 86)).heap.size 23 1 v m.length (words m) ∧ u.grownBy w' v.ownBlock) := fun u v ss hp hr => sort_any u v ss _ hr (by rw [hp.length_eq]; exact hlen)
    have HND := hidden hnd
    clear h hc H56 hnd hb0
    go_enter Try.func51, Try.ntmps51
    go_wp2_with (first | (go_at_call 71; refine (Hid.out H64).mono ?_; rintro e w2 ⟨v, ss, rfl, hp, hr, hn, hb⟩; obtain ⟨va, vn, vc, rfl⟩ := row_slice hr; have HP := hidden hp; have HR := hidden hr; have HB := hidden hb; clear hp hr hn hb H64) | (go_at_call 72; refine (Hid.out H65 _ _ _ (Hid.out HP) (Hid.out HR)).mono ?_; rintro e w3 ⟨rfl, m, hm1, hm2, hm3, hm4⟩; have HM1 := hidden hm1; have HM2 := hidden hm2; have HM3 := hidden hm3; have HM4 := hidden hm4; clear hm1 hm2 hm3 hm4))
    go_ret
    have hperm := (Hid.out HM1).trans (Hid.out HP)
    obtain ⟨ao, cap, e, hwd⟩ := wds_of_row (Hid.out HM3)
    simp only [Value.slice.injEq] at e
    obtain ⟨rfl, rfl, rfl⟩ := e
    refine ⟨_, _, m, rfl, hperm, rising_of (Hid.out HM2) (hperm.nodup_iff.2 (Hid.out HND)), ⟨_, _, rfl, hwd⟩, ?_⟩
    have hbb := (Hid.out HB0).trans ((Hid.out HB).mono (Hid.out HB0).size)
    exact hbb.grown (Hid.out HM4) hbb.size fun g hg => Nat.le_trans (Hid.out HB0).size (row_base (Hid.out HM3) g hg)
  clear h hnd H64 hb0 HB0
  go_enter Try.func24, Try.ntmps24
  go_wp2_with (first | (go_at_call 52; refine (Hid.out H56).mono ?_; rintro e w1 ⟨rfl, hww⟩; rw [hww]; clear hww w1) | (go_at_call 51; refine (Hid.out H55).mono ?_; rintro e w2 ⟨ao, cap, l, rfl, h1, h2, h3, h4⟩; have H1 := hidden h1; have H2 := hidden h2; have H3 := hidden h3; have H4 := hidden h4; clear h1 h2 h3 h4))
  go_ret
  exact ⟨ao, cap, l, rfl, Hid.out H1, Hid.out H2, Hid.out H3, Hid.out H4⟩
end Go.Proofs.Ytodoenimlhldjaa

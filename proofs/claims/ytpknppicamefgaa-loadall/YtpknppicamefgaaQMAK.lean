/- Where a file begins. -/
import Derived.Test.YtpknppicamefgaaQMAJ
import Derived.Test.YtpknppicamefgaaQMAF
import Derived.Deep.Slices
namespace Go.Proofs.Ytpknppicamefgaa
open Go.ChangeShapes Go.WideShapes Go.ChangeAt Go.RowKit
set_option linter.unusedVariables false
theorem upto {P : Nat → Prop} {k : Nat} (h : ∀ a, a < k → P a) (hk : P k) : ∀ a, a < k + 1 → P a := by
  intro a ha
  rcases Nat.lt_or_eq_of_le (Nat.le_of_lt_succ ha) with h' | h'
  · exact h a h'
  · exact h' ▸ hk
set_option maxRecDepth 20000 in
set_option maxHeartbeats 1000000 in
theorem entered_any (w : World) (ao : Option Addr) (cap ent : Nat) (l : List Sg) (h : Segs w ao l) (hlen : l.length ≤ 8) (hcap : l.length ≤ cap) (hmax : cap ≤ 9223372036854775807) (he : ent < 4294967296) : Calls Try.prog 44 #[.agg #[.int .u32 (ent : Int), .slice ao l.length cap]] w fun e w' => e = .returned (.bool (enterB ent l)) ∧ Below w.heap.size w w' := by
  have H := hidden h
  have hb0 : Below w.heap.size w (w.alloc (.cells #[.int .u32 (ent : Int), .slice ao l.length cap] 25)) := (Below.refl _ w).alloc (Nat.le_refl _) _
  have hg0 := Blk.new w #[.int .u32 (ent : Int), .slice ao l.length cap] 25
  have HB0 := hidden hb0
  have HG0 := hidden hg0
  clear h hb0 hg0
  by_cases h4 : ent % 4 = 0
  · have h42 : (ent : Int) % 4 = 0 := by omega
    go_enter Try.func44, Try.ntmps44
    go_wp2
    obtain ⟨n, hn⟩ : ∃ n, n = w.heap.size := ⟨_, rfl⟩
    have HBn : Hid (n = w.heap.size) := hn
    rw [← hn] at HG0 ⊢
    clear hn
    go_loopw [12] (fun x12 wr => ∃ k : Nat, k ≤ l.length ∧ x12 = .int .i64 (k : Int) ∧ Below w.heap.size w wr ∧ Blk wr n #[.int .u32 (ent : Int), .slice ao l.length cap] 25 ∧ ∀ a, a < k → runsB ent (l.getD a nosg) = false) (fun x12 _ => l.length - (intOf x12).toNat)
    case atStart => exact ⟨0, by omega, rfl, Hid.out HB0, Hid.out HG0, by omega⟩
    case round =>
      obtain ⟨k, hk, rfl, hbel, hgn, hno⟩ := hrel
      have HB := hidden hbel
      have HG := hidden hgn
      have HN := hidden hno
      have hnlt : n < wr.heap.size := hgn.lt
      have f0 : wr.cell? ⟨n, 0, none⟩ = some (.int .u32 (ent : Int)) := hgn.cell rfl
      by_cases hkl : k < l.length
      · obtain ⟨b, off, rfl, hlt, hc⟩ := ((Hid.out H).later hbel).at hkl
        obtain ⟨s, hs⟩ : ∃ s, s = l.getD k nosg := ⟨_, rfl⟩
        have hat := hc k hkl
        rw [← hs] at hat
        obtain ⟨c0, c1, c2, c3, fit⟩ := hat
        have HS := hidden hs
        have hkl2 : (k : Int) < (l.length : Int) := by omega
        have HBO : Hid (Below w.heap.size w (wr.alloc (.cells #[.int .u32 (s.at_ : Int), .string ⟨s.data.toArray⟩, .int .u32 (s.size : Int), .int .i64 s.perm] 44))) := hbel.alloc hbel.size _
        have HGO : Hid (Blk (wr.alloc (.cells #[.int .u32 (s.at_ : Int), .string ⟨s.data.toArray⟩, .int .u32 (s.size : Int), .int .i64 s.perm] 44)) n #[.int .u32 (ent : Int), .slice (some ⟨b, off, none⟩) l.length cap] 25) := hgn.later (below_new wr _)
        have la := fit.la
        have ls := fit.ls
        clear hc hbel hs hgn hno fit
        have hand := and1 s.perm
        by_cases p1 : s.perm % 2 = 1
        · have p12 : ¬ s.perm % 2 = 0 := by omega
          by_cases p2 : s.at_ ≤ ent
          · have p22 : (s.at_ : Int) ≤ (ent : Int) := by omega
            have hsub : ((ent : Int) - (s.at_ : Int)) % 4294967296 = (ent : Int) - (s.at_ : Int) := by omega
            by_cases p3 : ent < s.at_ + s.size
            · have p32 : (ent : Int) - (s.at_ : Int) < (s.size : Int) := by omega
              have HR : Hid (enterB ent l = true) := by
                show enterB ent l = true
                unfold enterB
                rw [decide_eq_true h4, Bool.true_and]
                refine any_yes hkl ?_
                rw [← Hid.out HS]
                unfold runsB
                rw [decide_eq_true p1, decide_eq_true p2, decide_eq_true p3]
                rfl
              clear p1
              go_wp2
              go_ret
              exact ⟨ret_bool (Hid.out HR).symm, Hid.out HBO⟩
            · have p32 : ¬ (ent : Int) - (s.at_ : Int) < (s.size : Int) := by omega
              have HRR : Hid (runsB ent s = false) := by
                show runsB ent s = false
                unfold runsB
                rw [decide_eq_false p3, Bool.and_false]
              clear p1
              go_wp2
              go_roundw
              case rel => first | exact ⟨k + 1, by omega, by simp, Hid.out HBO, Hid.out HGO, upto (P := fun a => runsB ent (l.getD a nosg) = false) (Hid.out HN) (by rw [← Hid.out HS]; exact Hid.out HRR)⟩ | ((repeat apply Exists.intro); first | exact ⟨⟨k + 1, by omega, by simp, Hid.out HBO, Hid.out HGO, upto (P := fun a => runsB ent (l.getD a nosg) = false) (Hid.out HN) (by rw [← Hid.out HS]; exact Hid.out HRR)⟩, rfl⟩ | exact ⟨⟨k + 1, by omega, by simp, Hid.out HBO, Hid.out HGO, upto (P := fun a => runsB ent (l.getD a nosg) = false) (Hid.out HN) (by rw [← Hid.out HS]; exact Hid.out HRR)⟩, rfl, rfl⟩ | exact ⟨⟨k + 1, by omega, by simp, Hid.out HBO, Hid.out HGO, upto (P := fun a => runsB ent (l.getD a nosg) = false) (Hid.out HN) (by rw [← Hid.out HS]; exact Hid.out HRR)⟩, rfl, rfl, rfl⟩)
              case measure => simp [intOf]; omega
          · have p22 : ¬ (s.at_ : Int) ≤ (ent : Int) := by omega
            have HRR : Hid (runsB ent s = false) := by
              show runsB ent s = false
              unfold runsB
              rw [decide_eq_false p2, Bool.and_false, Bool.false_and]
            clear p1
            go_wp2
            go_roundw
            case rel => first | exact ⟨k + 1, by omega, by simp, Hid.out HBO, Hid.out HGO, upto (P := fun a => runsB ent (l.getD a nosg) = false) (Hid.out HN) (by rw [← Hid.out HS]; exact Hid.out HRR)⟩ | ((repeat apply Exists.intro); first | exact ⟨⟨k + 1, by omega, by simp, Hid.out HBO, Hid.out HGO, upto (P := fun a => runsB ent (l.getD a nosg) = false) (Hid.out HN) (by rw [← Hid.out HS]; exact Hid.out HRR)⟩, rfl⟩ | exact ⟨⟨k + 1, by omega, by simp, Hid.out HBO, Hid.out HGO, upto (P := fun a => runsB ent (l.getD a nosg) = false) (Hid.out HN) (by rw [← Hid.out HS]; exact Hid.out HRR)⟩, rfl, rfl⟩ | exact ⟨⟨k + 1, by omega, by simp, Hid.out HBO, Hid.out HGO, upto (P := fun a => runsB ent (l.getD a nosg) = false) (Hid.out HN) (by rw [← Hid.out HS]; exact Hid.out HRR)⟩, rfl, rfl, rfl⟩)
            case measure => simp [intOf]; omega
        · have p12 : s.perm % 2 = 0 := by omega
          have HRR : Hid (runsB ent s = false) := by
            show runsB ent s = false
            unfold runsB
            rw [decide_eq_false p1, Bool.false_and, Bool.false_and]
          clear p1
          go_wp2
          go_roundw
          case rel => first | exact ⟨k + 1, by omega, by simp, Hid.out HBO, Hid.out HGO, upto (P := fun a => runsB ent (l.getD a nosg) = false) (Hid.out HN) (by rw [← Hid.out HS]; exact Hid.out HRR)⟩ | ((repeat apply Exists.intro); first | exact ⟨⟨k + 1, by omega, by simp, Hid.out HBO, Hid.out HGO, upto (P := fun a => runsB ent (l.getD a nosg) = false) (Hid.out HN) (by rw [← Hid.out HS]; exact Hid.out HRR)⟩, rfl⟩ | exact ⟨⟨k + 1, by omega, by simp, Hid.out HBO, Hid.out HGO, upto (P := fun a => runsB ent (l.getD a nosg) = false) (Hid.out HN) (by rw [← Hid.out HS]; exact Hid.out HRR)⟩, rfl, rfl⟩ | exact ⟨⟨k + 1, by omega, by simp, Hid.out HBO, Hid.out HGO, upto (P := fun a => runsB ent (l.getD a nosg) = false) (Hid.out HN) (by rw [← Hid.out HS]; exact Hid.out HRR)⟩, rfl, rfl, rfl⟩)
          case measure => simp [intOf]; omega
      · have hkl2 : ¬ (k : Int) < (l.length : Int) := by omega
        obtain rfl : k = l.length := by omega
        have HR : Hid (enterB ent l = false) := by
          show enterB ent l = false
          unfold enterB
          rw [any_no (Hid.out HN), Bool.and_false]
        clear hbel hgn hno
        go_wp2
        go_ret
        exact ⟨ret_bool (Hid.out HR).symm, Hid.out HB⟩
  · have h42 : ¬ (ent : Int) % 4 = 0 := by omega
    have HR : Hid (enterB ent l = false) := by
      show enterB ent l = false
      unfold enterB
      rw [decide_eq_false h4, Bool.false_and]
    go_enter Try.func44, Try.ntmps44
    go_wp2
    go_ret
    exact ⟨ret_bool (Hid.out HR).symm, Hid.out HB0⟩
set_option maxRecDepth 20000 in
set_option maxHeartbeats 1000000 in
theorem check_any (w : World) (ao : Option Addr) (cap ent : Nat) (l : List Sg) (h : Segs w ao l) (hcap : l.length ≤ cap) (hmax : cap ≤ 9223372036854775807) (he : ent < 4294967296) : Calls Try.prog 15 #[.agg #[.int .u32 (ent : Int), .slice ao l.length cap]] w fun e w' => e = .returned (.int .i64 (checkE ent l : Int)) ∧ Below w.heap.size w w' := by
  have H := hidden h
  have hb0 : Below w.heap.size w (w.alloc (.cells #[.int .u32 (ent : Int), .slice ao l.length cap] 25)) := (Below.refl _ w).alloc (Nat.le_refl _) _
  have hg0 := Blk.new w #[.int .u32 (ent : Int), .slice ao l.length cap] 25
  have HB0 := hidden hb0
  have HG0 := hidden hg0
  clear h hb0 hg0
  by_cases h8 : 8 < l.length
  · have h82 : (8 : Int) < (l.length : Int) := by omega
    have HR : Hid (checkE ent l = 2) := by
      show checkE ent l = 2
      unfold checkE
      rw [if_pos h8]
    go_enter Try.func15, Try.ntmps15
    go_wp2
    go_ret
    exact ⟨by rw [Hid.out HR]; rfl, Hid.out HB0⟩
  · have h82 : ¬ (8 : Int) < (l.length : Int) := by omega
    go_enter Try.func15, Try.ntmps15
    go_wp2
    obtain ⟨n, hn⟩ : ∃ n, n = w.heap.size := ⟨_, rfl⟩
    rw [← hn] at HG0 ⊢
    clear hn
    go_loopw [12] (fun x12 wr => ∃ k : Nat, k ≤ l.length ∧ x12 = .int .i64 (k : Int) ∧ Below w.heap.size w wr ∧ Blk wr n #[.int .u32 (ent : Int), .slice ao l.length cap] 25 ∧ ∀ a, a < k → okB (l.getD a nosg) = true) (fun x12 _ => l.length - (intOf x12).toNat)
    case atStart => exact ⟨0, by omega, rfl, Hid.out HB0, Hid.out HG0, by omega⟩
    case round =>
      obtain ⟨k, hk, rfl, hbel, hgn, hno⟩ := hrel
      have HB := hidden hbel
      have HG := hidden hgn
      have HN := hidden hno
      have hnlt : n < wr.heap.size := hgn.lt
      by_cases hkl : k < l.length
      · obtain ⟨b, off, rfl, hlt, hc⟩ := ((Hid.out H).later hbel).at hkl
        obtain ⟨s, hs⟩ : ∃ s, s = l.getD k nosg := ⟨_, rfl⟩
        have hat := hc k hkl
        rw [← hs] at hat
        obtain ⟨c0, c1, c2, c3, fit⟩ := hat
        have HS := hidden hs
        have hkl2 : (k : Int) < (l.length : Int) := by omega
        have HBO : Hid (Below w.heap.size w (wr.alloc (.cells #[.int .u32 (s.at_ : Int), .string ⟨s.data.toArray⟩, .int .u32 (s.size : Int), .int .i64 s.perm] 44))) := hbel.alloc hbel.size _
        have HGO : Hid (Blk (wr.alloc (.cells #[.int .u32 (s.at_ : Int), .string ⟨s.data.toArray⟩, .int .u32 (s.size : Int), .int .i64 s.perm] 44)) n #[.int .u32 (ent : Int), .slice (some ⟨b, off, none⟩) l.length cap] 25) := hgn.later (below_new wr _)
        have HBA : Hid (∀ o, Below w.heap.size w (wr.alloc o)) := fun o => hbel.alloc hbel.size o
        have H32 := fun w => hidden (fits_any s fit w)
        have HNO : Hid (okB s = false → checkE ent l = 10) := by
          intro hf
          unfold checkE
          rw [if_neg h8, if_pos (all_no hkl (by rw [← Hid.out HS]; exact hf))]
        have HP : Hid (∀ w1, Below (wr.alloc (.cells #[.int .u32 (s.at_ : Int), .string ⟨s.data.toArray⟩, .int .u32 (s.size : Int), .int .i64 s.perm] 44)).heap.size (wr.alloc (.cells #[.int .u32 (s.at_ : Int), .string ⟨s.data.toArray⟩, .int .u32 (s.size : Int), .int .i64 s.perm] 44)) w1 → w1.cell? ⟨wr.heap.size, 3, none⟩ = some (.int .i64 s.perm) ∧ Blk w1 n #[.int .u32 (ent : Int), .slice (some ⟨b, off, none⟩) l.length cap] 25 ∧ Below w.heap.size w w1 ∧ wr.heap.size < w1.heap.size) := by
          intro w1 hb1
          have e1 := heap_alloc_new wr (.cells #[.int .u32 (s.at_ : Int), .string ⟨s.data.toArray⟩, .int .u32 (s.size : Int), .int .i64 s.perm] 44)
          have e2 := (hb1.block wr.heap.size (by simp)).trans e1
          refine ⟨cell_of_row _ _ _ _ _ _ e2, (Hid.out HGO).later hb1, (Hid.out HBO).trans (hb1.mono (Hid.out HBO).size), ?_⟩
          exact (Array.getElem?_eq_some_iff.1 e2).1
        clear hc hbel hs hgn hno fit
        by_cases z1 : s.size = 0
        · have z12 : (s.size : Int) = 0 := by omega
          have HR := hidden (Hid.out HNO (by unfold okB; rw [decide_eq_false (by simpa using z1)]; rfl))
          clear z1
          go_wp2
          go_ret
          exact ⟨by rw [Hid.out HR]; rfl, Hid.out HBA _⟩
        · have z12 : ¬ (s.size : Int) = 0 := by omega
          cases hf : fitsB s
          · have HR := hidden (Hid.out HNO (by unfold okB; rw [hf, Bool.and_false]; rfl))
            rw [hf] at H32
            clear hf
            go_wp2_with (go_at_call 42; with_reducible refine (Hid.out (H32 _)).mono ?_; rintro e w1 ⟨rfl, hb1⟩; obtain ⟨q1, q2, q3, q4⟩ := Hid.out HP w1 hb1; have Q2 := hidden q2; have Q3 := hidden q3; clear hb1 q2 q3)
            go_ret
            exact ⟨by rw [Hid.out HR]; rfl, Hid.out Q3⟩
          · rw [hf] at H32
            by_cases p0 : s.perm < 0
            · have HR := hidden (Hid.out HNO (by unfold okB; rw [decide_eq_false (show ¬ 0 ≤ s.perm by omega), Bool.and_false]; rfl))
              clear hf
              go_wp2_with (go_at_call 42; with_reducible refine (Hid.out (H32 _)).mono ?_; rintro e w1 ⟨rfl, hb1⟩; obtain ⟨q1, q2, q3, q4⟩ := Hid.out HP w1 hb1; have Q2 := hidden q2; have Q3 := hidden q3; clear hb1 q2 q3)
              go_ret
              exact ⟨by rw [Hid.out HR]; rfl, Hid.out Q3⟩
            · by_cases p7 : 7 < s.perm
              · have HR := hidden (Hid.out HNO (by unfold okB; rw [decide_eq_false (show ¬ s.perm ≤ 7 by omega), Bool.and_false]))
                clear hf
                go_wp2_with (go_at_call 42; with_reducible refine (Hid.out (H32 _)).mono ?_; rintro e w1 ⟨rfl, hb1⟩; obtain ⟨q1, q2, q3, q4⟩ := Hid.out HP w1 hb1; have Q2 := hidden q2; have Q3 := hidden q3; clear hb1 q2 q3)
                go_ret
                exact ⟨by rw [Hid.out HR]; rfl, Hid.out Q3⟩
              · have HRR : Hid (okB s = true) := by
                  show okB s = true
                  unfold okB
                  rw [hf, decide_eq_true (show s.size ≠ 0 by omega), decide_eq_true (show 0 ≤ s.perm by omega), decide_eq_true (show s.perm ≤ 7 by omega)]
                  rfl
                have p02 : decide (s.perm < 0) = false := by simp; omega
                have p72 : decide ((7 : Int) < s.perm) = false := by simp; omega
                clear hf
                go_wp2_with (go_at_call 42; with_reducible refine (Hid.out (H32 _)).mono ?_; rintro e w1 ⟨rfl, hb1⟩; obtain ⟨q1, q2, q3, q4⟩ := Hid.out HP w1 hb1; have Q2 := hidden q2; have Q3 := hidden q3; clear hb1 q2 q3)
                go_roundw
                case rel => first | exact ⟨k + 1, by omega, by simp, Hid.out Q3, Hid.out Q2, upto (P := fun a => okB (l.getD a nosg) = true) (Hid.out HN) (by rw [← Hid.out HS]; exact Hid.out HRR)⟩ | ((repeat apply Exists.intro); first | exact ⟨⟨k + 1, by omega, by simp, Hid.out Q3, Hid.out Q2, upto (P := fun a => okB (l.getD a nosg) = true) (Hid.out HN) (by rw [← Hid.out HS]; exact Hid.out HRR)⟩, rfl⟩ | exact ⟨⟨k + 1, by omega, by simp, Hid.out Q3, Hid.out Q2, upto (P := fun a => okB (l.getD a nosg) = true) (Hid.out HN) (by rw [← Hid.out HS]; exact Hid.out HRR)⟩, rfl, rfl⟩ | exact ⟨⟨k + 1, by omega, by simp, Hid.out Q3, Hid.out Q2, upto (P := fun a => okB (l.getD a nosg) = true) (Hid.out HN) (by rw [← Hid.out HS]; exact Hid.out HRR)⟩, rfl, rfl, rfl⟩)
                case measure => simp [intOf]; omega
      · have hkl2 : ¬ (k : Int) < (l.length : Int) := by omega
        obtain rfl : k = l.length := by omega
        have hall := all_yes (Hid.out HN)
        have h8' : l.length ≤ 8 := by omega
        have f0 : wr.cell? ⟨n, 0, none⟩ = some (.int .u32 (ent : Int)) := hgn.cell rfl
        have f1 : wr.cell? ⟨n, 1, none⟩ = some (.slice ao l.length cap) := hgn.cell rfl
        have H33 := hidden (overlap_any wr ao cap l ((Hid.out H).later hbel) h8' hcap hmax hall)
        have HP : Hid (∀ w1, Below wr.heap.size wr w1 → w1.cell? ⟨n, 0, none⟩ = some (.int .u32 (ent : Int)) ∧ w1.cell? ⟨n, 1, none⟩ = some (.slice ao l.length cap) ∧ Below w.heap.size w w1 ∧ Calls Try.prog 44 #[.agg #[.int .u32 (ent : Int), .slice ao l.length cap]] w1 fun e w' => e = .returned (.bool (enterB ent l)) ∧ Below w.heap.size w w') := by
          intro w1 hb1
          have e2 := hgn.later hb1
          have hbw := hbel.trans (hb1.mono hbel.size)
          refine ⟨e2.cell rfl, e2.cell rfl, hbw, ?_⟩
          exact (entered_any w1 ao cap ent l ((Hid.out H).later hbw) h8' hcap hmax he).mono fun e w' ⟨h1, h2⟩ => ⟨h1, hbw.trans (h2.mono hbw.size)⟩
        have HE : Hid (checkE ent l = if overB l = true then 11 else if enterB ent l = false then 12 else 0) := by
          show checkE ent l = _
          unfold checkE
          rw [if_neg h8, if_neg (by rw [hall]; simp)]
        clear hbel hgn hno hall
        cases ho : overB l
        · rw [ho] at H33 HE
          cases hn : enterB ent l
          · rw [hn] at HP HE
            clear ho hn
            go_wp2_with (first | (go_at_call 43; with_reducible refine (Hid.out H33).mono ?_; rintro e w1 ⟨rfl, hb1⟩; obtain ⟨q0, q1, q2, q3⟩ := Hid.out HP w1 hb1; have Q3 := hidden q3; clear hb1 q2 q3) | (go_at_call 44; with_reducible refine (Hid.out Q3).mono ?_; rintro e w2 ⟨rfl, hb2⟩; have HB2 := hidden hb2; clear hb2))
            go_ret
            exact ⟨by rw [Hid.out HE]; rfl, Hid.out HB2⟩
          · rw [hn] at HP HE
            clear ho hn
            go_wp2_with (first | (go_at_call 43; with_reducible refine (Hid.out H33).mono ?_; rintro e w1 ⟨rfl, hb1⟩; obtain ⟨q0, q1, q2, q3⟩ := Hid.out HP w1 hb1; have Q3 := hidden q3; clear hb1 q2 q3) | (go_at_call 44; with_reducible refine (Hid.out Q3).mono ?_; rintro e w2 ⟨rfl, hb2⟩; have HB2 := hidden hb2; clear hb2))
            go_ret
            exact ⟨by rw [Hid.out HE]; rfl, Hid.out HB2⟩
        · rw [ho] at H33 HE
          clear ho
          go_wp2_with (go_at_call 43; with_reducible refine (Hid.out H33).mono ?_; rintro e w1 ⟨rfl, hb1⟩; obtain ⟨q0, q1, q2, q3⟩ := Hid.out HP w1 hb1; have Q2 := hidden q2; clear hb1 q2 q3)
          go_ret
          exact ⟨by rw [Hid.out HE]; rfl, Hid.out Q2⟩
end Go.Proofs.Ytpknppicamefgaa
namespace Go.Proofs.Ytpknppicamefgaa
open Go.ChangeShapes Go.WideShapes Go.ChangeAt Go.RowKit Go.Deep
set_option linter.unusedVariables false
theorem wf_u32 {a : Int} (h : (Lit.int .u32 a).wf = true) : ∃ n : Nat, a = (n : Int) ∧ n < 4294967296 := by
  have : 0 ≤ a ∧ a ≤ 4294967295 := by simpa [Lit.wf, IntKind.min, IntKind.max, IntKind.signed, IntKind.bits] using h
  exact ⟨a.toNat, by omega, by omega⟩
theorem wf_u8 {a : Int} (h : (Lit.int .u8 a).wf = true) : ∃ v : UInt8, a = (v.toNat : Int) := by
  have h1 : 0 ≤ a ∧ a ≤ 255 := by simpa [Lit.wf, IntKind.min, IntKind.max, IntKind.signed, IntKind.bits] using h
  exact ⟨UInt8.ofNat a.toNat, by rw [UInt8.toNat_ofNat']; omega⟩
theorem cells43 : Try.prog.cellsOf 44 = 4 := by kernel_rfl
theorem cells23 : Try.prog.cellsOf 22 = 1 := by kernel_rfl
theorem cells9 : Try.prog.cellsOf 9 = 1 := by kernel_rfl
theorem cells3 : Try.prog.cellsOf 3 = 1 := by kernel_rfl
theorem cells24 : Try.prog.cellsOf 23 = 1 := by kernel_rfl
theorem cells26 : Try.prog.cellsOf 25 = 2 := by kernel_rfl
set_option maxRecDepth 20000 in
theorem open_seg {H : Type} {enc : TypeId × Value → H} {w : World} {base n : Nat} {spare : Nat → Bool} {held : Bool} {a : Addr} {cs : List Value} {x : DataW H × List MemPlace}
    (h1 : w.cells? base a 4 = some cs) (h2 : DataW.trod enc Try.prog w base spare held n 44 cs = some x) :
    ∃ s : Sg, w.cell? (a.add 0) = some (.int .u32 (s.at_ : Int)) ∧ w.cell? (a.add 1) = some (.string ⟨s.data.toArray⟩) ∧ w.cell? (a.add 2) = some (.int .u32 (s.size : Int)) ∧ w.cell? (a.add 3) = some (.int .i64 s.perm) ∧ Fit s := by
  obtain ⟨_, hlen, hcell⟩ := World.cells?_some h1
  obtain ⟨xs, k, hk, hxy, _, hxl, hf⟩ := DataW.trod_struct Try.underlying44 h2
  match xs, hxl, cs, hlen with
  | [y0, y1, y2, y3], _, [v0, v1, v2, v3], _ =>
    have g0 := hf 0 _ rfl
    have g1 := hf 1 _ rfl
    have g2 := hf 2 _ rfl
    have g3 := hf 3 _ rfl
    simp [cells3, cells9, cells23] at g0 g1 g2 g3
    obtain ⟨n0, e0, _, w0⟩ := DataW.trod_int Try.underlying22 g0
    obtain ⟨s1, e1, _, hs1⟩ := DataW.trod_string Try.underlying9 g1
    obtain ⟨n2, e2, _, w2⟩ := DataW.trod_int Try.underlying22 g2
    obtain ⟨n3, e3, _, _⟩ := DataW.trod_int Try.underlying3 g3
    obtain ⟨m0, rfl, hm0⟩ := wf_u32 w0
    obtain ⟨m2, rfl, hm2⟩ := wf_u32 w2
    simp only [List.cons.injEq, and_true] at e0 e1 e2 e3
    subst e0 e1 e2 e3
    have c0 := hcell 0 (by omega)
    have c1 := hcell 1 (by omega)
    have c2 := hcell 2 (by omega)
    have c3 := hcell 3 (by omega)
    have hs2 : s1.data.toList.length ≤ 9223372036854775807 := by
      have : s1.data.toList.length = s1.size := Array.length_toList
      rw [this]
      exact hs1
    exact ⟨⟨m0, s1.data.toList, m2, n3⟩, by simpa using c0, by simpa using c1, by simpa using c2, by simpa using c3, hm0, hm2, hs2⟩
theorem open_segs {H : Type} {enc : TypeId × Value → H} {w : World} {fuel : Nat} {held : Bool} {v : Value} {x : DataW H × List MemPlace} {spare : Nat → Bool}
    (h : DataW.trod enc Try.prog w 0 spare held fuel 23 [v] = some x) : ∃ (ao : Option Addr) (cap : Nat) (l : List Sg), v = .slice ao l.length cap ∧ Segs w ao l ∧ l.length ≤ cap ∧ cap ≤ 9223372036854775807 := by
  rcases open_slice Try.underlying23 h with ⟨hcs, _⟩ | ⟨a, len, cap, m, n, D, Pl, hcs, hb, hl, hm, hmm, _, hx⟩
  · simp only [List.cons.injEq, and_true] at hcs
    exact ⟨none, 0, [], hcs, .inl rfl, by simp, by omega⟩
  · simp only [List.cons.injEq, and_true] at hcs
    subst hcs
    simp only [maxLen] at hm
    have hlm : len ≤ m := by rw [hmm]; split <;> omega
    have each : ∀ i, i < len → ∃ s : Sg, w.cell? (a.add (i * 4)) = some (.int .u32 (s.at_ : Int)) ∧ w.cell? (a.add (i * 4 + 1)) = some (.string ⟨s.data.toArray⟩) ∧ w.cell? (a.add (i * 4 + 2)) = some (.int .u32 (s.size : Int)) ∧ w.cell? (a.add (i * 4 + 3)) = some (.int .i64 s.perm) ∧ Fit s := by
      intro i hi
      obtain ⟨cs', h1, h2⟩ := hx i (by omega)
      rw [cells43] at h1
      obtain ⟨s, c0, c1, c2, c3, hf⟩ := open_seg h1 h2
      rw [add_add] at c0 c1 c2 c3
      exact ⟨s, c0, c1, c2, c3, hf⟩
    have hinh : Inhabited Sg := ⟨nosg⟩
    obtain ⟨f, hf⟩ := choose_lt each
    have hlen : ((List.range len).map f).length = len := by simp
    refine ⟨some a, cap, (List.range len).map f, by rw [hlen], ?_, by rw [hlen]; exact hl, hm⟩
    by_cases h0 : len = 0
    · left
      subst h0
      rfl
    · right
      obtain ⟨b, off, spot⟩ := a
      have hspot : spot = none := by simpa [Addr.add] using World.cell?_spot (hf 0 (by omega)).1
      subst hspot
      refine ⟨b, off, rfl, ?_, fun j hj => ?_⟩
      · have := World.block_lt_of_cell? _ _ (hf 0 (by omega)).1
        simpa [Addr.add_lit] using this
      · rw [hlen] at hj
        obtain ⟨c0, c1, c2, c3, hfit⟩ := hf j hj
        rw [Addr.add_lit] at c0 c1 c2 c3
        have e : ((List.range len).map f).getD j nosg = f j := by simp [List.getD_eq_getElem?_getD, hj]
        rw [e]
        exact ⟨c0, by rw [Nat.add_assoc]; exact c1, by rw [Nat.add_assoc]; exact c2, by rw [Nat.add_assoc]; exact c3, hfit⟩
set_option maxRecDepth 20000 in
theorem open_file {H : Type} {enc : TypeId × Value → H} {w : World} {fuel : Nat} {held : Bool} {cs : Array Value} {x : DataW H × List MemPlace} {spare : Nat → Bool}
    (hs : cs.size = 2) (h : DataW.trod enc Try.prog w 0 spare held fuel 25 cs.toList = some x) : ∃ (ent : Nat) (ao : Option Addr) (cap : Nat) (l : List Sg), cs = #[.int .u32 (ent : Int), .slice ao l.length cap] ∧ ent < 4294967296 ∧ Segs w ao l ∧ l.length ≤ cap ∧ cap ≤ 9223372036854775807 := by
  obtain ⟨xs, k, hk, hxy, _, hxl, hf⟩ := DataW.trod_struct Try.underlying25 h
  match cs, hs with
  | ⟨[v0, v1]⟩, _ =>
    match xs, hxl with
    | [y0, y1], _ =>
      have g0 := hf 0 _ rfl
      have g1 := hf 1 _ rfl
      simp [cells23, cells24] at g0 g1
      obtain ⟨n0, e0, _, w0⟩ := DataW.trod_int Try.underlying22 g0
      obtain ⟨m0, rfl, hm0⟩ := wf_u32 w0
      obtain ⟨ao, cap, l, e1, h1, h2, h3⟩ := open_segs g1
      simp only [List.cons.injEq, and_true] at e0
      subst e0 e1
      exact ⟨m0, ao, cap, l, rfl, hm0, h1, h2, h3⟩
theorem open_bytes {H : Type} {enc : TypeId × Value → H} {w : World} {fuel : Nat} {held : Bool} {ao : Option Addr} {len cap : Nat} {x : DataW H × List MemPlace} {spare : Nat → Bool} (h : DataW.trod enc Try.prog w 0 spare held fuel 51 [.slice ao len cap] = some x) :
    ∃ l : List UInt8, l.length = len ∧ Row w ao l cap ∧ l.length ≤ 9223372036854775807 := by
  rcases open_ints Try.underlying51 Try.underlying5 (by kernel_rfl) h with ⟨hcs, _⟩ | ⟨a, l0, c0, zs, hcs, _, hl, hm, hz, _, hcell, hwz⟩
  · simp only [List.cons.injEq, and_true, Value.slice.injEq] at hcs
    obtain ⟨rfl, rfl, rfl⟩ := hcs
    exact ⟨[], rfl, Row.none w, by simp⟩
  · simp only [List.cons.injEq, and_true, Value.slice.injEq] at hcs
    obtain ⟨rfl, rfl, rfl⟩ := hcs
    have hzl : len ≤ zs.length := by rw [hz]; split <;> omega
    obtain ⟨f, hf⟩ : ∃ f : Nat → UInt8, ∀ i, i < len → zs.getD i 0 = ((f i).toNat : Int) := by
      refine choose_lt (p := fun i (v : UInt8) => zs.getD i 0 = (v.toNat : Int)) fun i hi => ?_
      refine wf_u8 (hwz _ ?_)
      rw [List.getD_eq_getElem?_getD, List.getElem?_eq_getElem (by omega), Option.getD_some]
      exact List.getElem_mem _
    have hlen : ((List.range len).map f).length = len := by simp
    have hm2 := hm
    simp only [maxLen] at hm2
    refine ⟨(List.range len).map f, hlen, ⟨by rw [hlen]; exact hl, hm, by simp, ?_⟩, by rw [hlen]; omega⟩
    by_cases h0 : len = 0
    · left
      subst h0
      rfl
    · right
      obtain ⟨b, off, spot⟩ := a
      have hc0 := hcell 0 (by omega)
      have hspot : spot = none := by simpa [Addr.add] using World.cell?_spot hc0
      subst hspot
      refine ⟨b, off, rfl, fun j hj => ?_⟩
      rw [hlen] at hj
      have h1 := hcell j (by omega)
      rw [Addr.add_lit] at h1
      rw [h1, hf j hj]
      simp [List.getD_eq_getElem?_getD, hj]
end Go.Proofs.Ytpknppicamefgaa
namespace Go.Proofs.Ytpknppicamefgaa
open Go.ChangeShapes Go.WideShapes Go.ChangeAt Go.RowKit
set_option linter.unusedVariables false
/-- A page. -/
structure P5 where
  at_ : Nat
  perm : Int
  b : List UInt8
  watched : Bool
def nop5 : P5 := ⟨0, 0, [], false⟩
structure P5At (w : World) (b o : Nat) (p : P5) : Prop where
  c0 : w.cell? ⟨b, o, none⟩ = some (.int .u32 (p.at_ : Int))
  c1 : w.cell? ⟨b, o + 1, none⟩ = some (.int .i64 p.perm)
  cb : ∀ i, i < 256 → w.cell? ⟨b, o + 2 + i, none⟩ = some (.int .u8 ((p.b.getD i 0).toNat : Int))
  cw : w.cell? ⟨b, o + 258, none⟩ = some (.bool p.watched)
  la : p.at_ < 4294967296
def Ps5 (w : World) (ao : Option Addr) (l : List P5) : Prop := l = [] ∨ ∃ b off, ao = some ⟨b, off, none⟩ ∧ b < w.heap.size ∧ ∀ j, j < l.length → P5At w b (off + j * 259) (l.getD j nop5)
theorem Ps5.at {w : World} {ao : Option Addr} {l : List P5} (h : Ps5 w ao l) {k : Nat} (hk : k < l.length) : ∃ b off, ao = some ⟨b, off, none⟩ ∧ b < w.heap.size ∧ ∀ j, j < l.length → P5At w b (off + j * 259) (l.getD j nop5) := by
  rcases h with h | h
  · rw [h] at hk; simp at hk
  · exact h
/-- Where a page stands: its length, if nowhere. -/
def find5 (l : List P5) (p : Nat) : Nat := l.findIdx fun x => x.at_ == p
def find5I (l : List P5) (p : Nat) : Int := if find5 l p < l.length then (find5 l p : Int) else -1
theorem find5_here {l : List P5} {p k : Nat} (hk : k < l.length) (hn : ∀ a, a < k → (l.getD a nop5).at_ ≠ p) (he : (l.getD k nop5).at_ = p) : find5 l p = k := by
  unfold find5
  rw [List.findIdx_eq hk]
  refine ⟨?_, fun j hj => ?_⟩
  · simpa [List.getD_eq_getElem?_getD, hk] using he
  · have := hn j hj
    have hj2 : j < l.length := Nat.lt_trans hj hk
    simpa [List.getD_eq_getElem?_getD, hj2] using this
theorem find5_none {l : List P5} {p : Nat} (hn : ∀ a, a < l.length → (l.getD a nop5).at_ ≠ p) : ¬ find5 l p < l.length := by
  unfold find5
  rw [List.findIdx_lt_length]
  rintro ⟨x, hx, he⟩
  obtain ⟨j, hj, rfl⟩ := List.getElem_of_mem hx
  have := hn j hj
  simp [List.getD_eq_getElem?_getD, hj] at this
  simp at he
  exact this he
theorem find5_at {l : List P5} {p : Nat} (h : find5 l p < l.length) : (l.getD (find5 l p) nop5).at_ = p := by
  have h2 := eq_of_beq (List.findIdx_getElem (xs := l) (p := fun x : P5 => x.at_ == p) (w := h))
  rw [List.getD_eq_getElem?_getD, List.getElem?_eq_getElem h]
  exact h2
set_option maxRecDepth 20000 in
theorem page5_any (a : Nat) (ha : a < 4294967296) (w : World) : Calls Try.prog 60 #[.int .u32 (a : Int)] w fun e w' => e = .returned (.int .u32 ((a / 256 * 256 : Nat) : Int)) ∧ w' = w := by
  have e0 : ((a : Int) - (a : Int) % 256) % 4294967296 = ((a / 256 * 256 : Nat) : Int) := by omega
  go_enter Try.func60, Try.ntmps60
  go_wp2
  go_ret
  exact ⟨ret_int (by omega), rfl⟩
set_option maxRecDepth 20000 in
set_option maxHeartbeats 8000000 in
theorem find_any (w : World) (m : Nat) (ao : Option Addr) (cap a : Nat) (l : List P5) (h : Ps5 w ao l) (h1 : w.cell? ⟨m, 1, none⟩ = some (.slice ao l.length cap)) (hmax : l.length ≤ 1000) (ha : a < 4294967296) : Calls Try.prog 59 #[.pointer (some ⟨m, 0, none⟩), .int .u32 (a : Int)] w fun e w' => e = .returned (.int .i64 (find5I l (a / 256 * 256))) ∧ w' = w := by
  have H := hidden h
  obtain ⟨p, hp⟩ : ∃ p, a / 256 * 256 = p := ⟨_, rfl⟩
  have C : Hid (Calls Try.prog 60 #[.int .u32 (a : Int)] w fun e w' => e = .returned (.int .u32 (p : Int)) ∧ w' = w) := by rw [← hp]; exact page5_any a ha w
  rw [hp]
  have hp2 : p < 4294967296 := by omega
  clear h hp
  go_enter Try.func59, Try.ntmps59
  go_wp2_with (first | (go_at_call 60; refine (Hid.out C).mono ?_; rintro e w4 ⟨rfl, hww⟩; rw [hww]; clear hww w4))
  go_loopw [6] (fun x6 wr => ∃ k : Nat, k ≤ l.length ∧ x6 = .int .i64 (k : Int) ∧ wr = w ∧ ∀ j, j < k → (l.getD j nop5).at_ ≠ p) (fun x6 _ => l.length - (intOf x6).toNat)
  case atStart => exact ⟨0, by omega, rfl, rfl, by omega⟩
  case round =>
    obtain ⟨k, hk, rfl, rfl, hno⟩ := hrel
    have HN := hidden hno
    clear hno
    by_cases hkl : k < l.length
    · obtain ⟨b, off, rfl, hlt, hc⟩ := (Hid.out H).at hkl
      obtain ⟨s, hs⟩ : ∃ s, s = l.getD k nop5 := ⟨_, rfl⟩
      have hat := hc k hkl
      rw [← hs] at hat
      have c0 := hat.c0
      have la := hat.la
      have HS := hidden hs
      have hkl2 : (k : Int) < (l.length : Int) := by omega
      clear hc hs hat
      by_cases z : s.at_ = p
      · have y : (s.at_ : Int) = (p : Int) := by omega
        have HR := hidden (find5_here hkl (Hid.out HN) (by rw [← Hid.out HS]; exact z))
        go_wp2
        go_ret
        refine ⟨?_, rfl⟩
        have e1 := Hid.out HR
        unfold find5I
        rw [e1, if_pos hkl]
        rfl
      · have y : ¬ (s.at_ : Int) = (p : Int) := by omega
        go_wp2
        go_roundw
        case rel =>
          refine ⟨k + 1, by omega, by first | rfl | simp, by first | rfl | trivial, fun j hj => ?_⟩
          rcases Nat.lt_succ_iff_lt_or_eq.1 hj with h | h
          · exact Hid.out HN j h
          · subst h; rw [← Hid.out HS]; exact z
        case measure => simp [intOf]; omega
    · have hkl2 : ¬ (k : Int) < (l.length : Int) := by omega
      have hkk : k = l.length := by omega
      have HR := hidden (find5_none (l := l) (p := p) (by rw [← hkk]; exact Hid.out HN))
      clear hkk
      go_wp2
      go_ret
      refine ⟨?_, rfl⟩
      have e1 := Hid.out HR
      unfold find5I
      rw [if_neg e1]
      rfl
theorem find5I_yes {l : List P5} {p : Nat} (h : find5 l p < l.length) : find5I l p = (find5 l p : Int) := if_pos h
theorem find5I_no {l : List P5} {p : Nat} (h : ¬ find5 l p < l.length) : find5I l p = -1 := if_neg h
/-- What the page of a place allows: 0 where there is none. -/
def perm5 (l : List P5) (p : Nat) : Int := if find5 l p < l.length then (l.getD (find5 l p) nop5).perm else 0
set_option maxRecDepth 20000 in
theorem perm5_any (w : World) (m : Nat) (ao : Option Addr) (cap a : Nat) (l : List P5) (h : Ps5 w ao l) (h1 : w.cell? ⟨m, 1, none⟩ = some (.slice ao l.length cap)) (hmax : l.length ≤ 1000) (ha : a < 4294967296) : Calls Try.prog 35 #[.pointer (some ⟨m, 0, none⟩), .int .u32 (a : Int)] w fun e w' => e = .returned (.int .i64 (perm5 l (a / 256 * 256))) ∧ w' = w := by
  have C := hidden (find_any w m ao cap a l h h1 hmax ha)
  obtain ⟨p, hp⟩ : ∃ p, a / 256 * 256 = p := ⟨_, rfl⟩
  rw [hp] at C ⊢
  unfold perm5
  by_cases hf : find5 l p < l.length
  · rw [find5I_yes hf] at C
    rw [if_pos hf]
    obtain ⟨k, hk⟩ : ∃ k, find5 l p = k := ⟨_, rfl⟩
    rw [hk] at C hf ⊢
    obtain ⟨b, off, rfl, hlt, hc⟩ := h.at hf
    have c1 := (hc k hf).c1
    generalize (l.getD k nop5).perm = pm at c1 ⊢
    have hk0 : (0 : Int) ≤ (k : Int) := by omega
    clear hp hk h hc
    go_enter Try.func35, Try.ntmps35
    go_wp2_with (first | (go_at_call 59; refine (Hid.out C).mono ?_; rintro e w4 ⟨rfl, hww⟩; rw [hww]; clear hww w4))
    go_ret
    exact ⟨rfl, rfl⟩
  · rw [find5I_no hf] at C
    rw [if_neg hf]
    clear hp h hf
    go_enter Try.func35, Try.ntmps35
    go_wp2_with (first | (go_at_call 59; refine (Hid.out C).mono ?_; rintro e w4 ⟨rfl, hww⟩; rw [hww]; clear hww w4))
    go_ret
    exact ⟨rfl, rfl⟩
/-- The byte at a place: 0 where there is no page. -/
def peek5 (l : List P5) (a : Nat) : UInt8 := if find5 l (a / 256 * 256) < l.length then (l.getD (find5 l (a / 256 * 256)) nop5).b.getD (a % 256) 0 else 0
set_option maxRecDepth 20000 in
theorem peek5_any (w : World) (m : Nat) (ao : Option Addr) (cap a : Nat) (l : List P5) (h : Ps5 w ao l) (h1 : w.cell? ⟨m, 1, none⟩ = some (.slice ao l.length cap)) (hmax : l.length ≤ 1000) (ha : a < 4294967296) : Calls Try.prog 61 #[.pointer (some ⟨m, 0, none⟩), .int .u32 (a : Int)] w fun e w' => e = .returned (.int .u8 ((peek5 l a).toNat : Int)) ∧ w' = w := by
  have C := hidden (find_any w m ao cap a l h h1 hmax ha)
  unfold peek5
  obtain ⟨p, hp⟩ : ∃ p, a / 256 * 256 = p := ⟨_, rfl⟩
  rw [hp] at C ⊢
  by_cases hf : find5 l p < l.length
  · rw [find5I_yes hf] at C
    rw [if_pos hf]
    obtain ⟨k, hk⟩ : ∃ k, find5 l p = k := ⟨_, rfl⟩
    rw [hk] at C hf ⊢
    obtain ⟨b, off, rfl, hlt, hc⟩ := h.at hf
    have c1 := (hc k hf).cb (a % 256) (by omega)
    generalize (l.getD k nop5).b.getD (a % 256) 0 = pm at c1 ⊢
    have hpm : pm.toNat < 256 := pm.toNat_lt
    have hk0 : (0 : Int) ≤ (k : Int) := by omega
    obtain ⟨q, hq⟩ : ∃ q, a % 256 = q := ⟨_, rfl⟩
    rw [hq] at c1
    have hq2 : (a : Int) % 256 = (q : Int) := by omega
    have hq3 : q < 256 := by omega
    clear hp hk h hc hq
    go_enter Try.func61, Try.ntmps61
    go_wp2_with (first | (go_at_call 59; refine (Hid.out C).mono ?_; rintro e w4 ⟨rfl, hww⟩; rw [hww]; clear hww w4))
    go_ret
    exact ⟨rfl, rfl⟩
  · rw [find5I_no hf] at C
    rw [if_neg hf]
    clear hp h hf
    go_enter Try.func61, Try.ntmps61
    go_wp2_with (first | (go_at_call 59; refine (Hid.out C).mono ?_; rintro e w4 ⟨rfl, hww⟩; rw [hww]; clear hww w4))
    go_ret
    exact ⟨rfl, rfl⟩
end Go.Proofs.Ytpknppicamefgaa

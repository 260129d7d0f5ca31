/- Where a file begins. -/
import Derived.Test.YtjpmagekianpdaaCheck
namespace Go.Proofs.Ytjpmagekianpdaa
open Go.ChangeShapes Go.WideShapes Go.ChangeAt Go.RowKit
set_option linter.unusedVariables false
theorem upto {P : Nat → Prop} {k : Nat} (h : ∀ a, a < k → P a) (hk : P k) : ∀ a, a < k + 1 → P a := by
  intro a ha
  rcases Nat.lt_or_eq_of_le (Nat.le_of_lt_succ ha) with h' | h'
  · exact h a h'
  · exact h' ▸ hk
set_option maxRecDepth 20000 in
set_option maxHeartbeats 1000000 in
theorem entered_any (w : World) (ao : Option Addr) (cap ent : Nat) (l : List Sg) (h : Segs w ao l) (hlen : l.length ≤ 8) (hcap : l.length ≤ cap) (hmax : cap ≤ 9223372036854775807) (he : ent < 4294967296) : Calls Try.prog 34 #[.agg #[.int .u32 (ent : Int), .slice ao l.length cap]] w fun e w' => e = .returned (.bool (enterB ent l)) ∧ Below w.heap.size w w' := by
  have H := hidden h
  have hb0 : Below w.heap.size w (w.alloc (.cells #[.int .u32 (ent : Int), .slice ao l.length cap] 26)) := (Below.refl _ w).alloc (Nat.le_refl _) _
  have hg0 := Blk.new w #[.int .u32 (ent : Int), .slice ao l.length cap] 26
  have HB0 := hidden hb0
  have HG0 := hidden hg0
  clear h hb0 hg0
  by_cases h4 : ent % 4 = 0
  · have h42 : (ent : Int) % 4 = 0 := by omega
    go_enter Try.func34, Try.ntmps34
    go_wp2
    obtain ⟨n, hn⟩ : ∃ n, n = w.heap.size := ⟨_, rfl⟩
    have HBn : Hid (n = w.heap.size) := hn
    rw [← hn] at HG0 ⊢
    clear hn
    go_loopw [12] (fun x12 wr => ∃ k : Nat, k ≤ l.length ∧ x12 = .int .i64 (k : Int) ∧ Below w.heap.size w wr ∧ Blk wr n #[.int .u32 (ent : Int), .slice ao l.length cap] 26 ∧ ∀ a, a < k → runsB ent (l.getD a nosg) = false) (fun x12 _ => l.length - (intOf x12).toNat)
    case atStart => exact ⟨0, by omega, rfl, Hid.out HB0, Hid.out HG0, by omega⟩
    case round =>
      obtain ⟨k, hk, rfl, hbel, hgn, hno⟩ := hrel
      have HB := hidden hbel
      have HG := hidden hgn
      have HN := hidden hno
      have hnlt : n < wr.heap.size := hgn.lt
      have f0 : wr.cell? ⟨n, 0, none⟩ = some (.int .u32 (ent : Int)) := hgn.cell rfl
      by_cases hkl : k < l.length
      · obtain ⟨b, off, rfl, hlt, hc⟩ := ((Hid.out H).later hbel).at hkl
        obtain ⟨s, hs⟩ : ∃ s, s = l.getD k nosg := ⟨_, rfl⟩
        have hat := hc k hkl
        rw [← hs] at hat
        obtain ⟨c0, c1, c2, c3, fit⟩ := hat
        have HS := hidden hs
        have hkl2 : (k : Int) < (l.length : Int) := by omega
        have HBO : Hid (Below w.heap.size w (wr.alloc (.cells #[.int .u32 (s.at_ : Int), .string ⟨s.data.toArray⟩, .int .u32 (s.size : Int), .int .i64 s.perm] 43))) := hbel.alloc hbel.size _
        have HGO : Hid (Blk (wr.alloc (.cells #[.int .u32 (s.at_ : Int), .string ⟨s.data.toArray⟩, .int .u32 (s.size : Int), .int .i64 s.perm] 43)) n #[.int .u32 (ent : Int), .slice (some ⟨b, off, none⟩) l.length cap] 26) := hgn.later (below_new wr _)
        have la := fit.la
        have ls := fit.ls
        clear hc hbel hs hgn hno fit
        have hand := and1 s.perm
        by_cases p1 : s.perm % 2 = 1
        · have p12 : ¬ s.perm % 2 = 0 := by omega
          by_cases p2 : s.at_ ≤ ent
          · have p22 : (s.at_ : Int) ≤ (ent : Int) := by omega
            have hsub : ((ent : Int) - (s.at_ : Int)) % 4294967296 = (ent : Int) - (s.at_ : Int) := by omega
            by_cases p3 : ent < s.at_ + s.size
            · have p32 : (ent : Int) - (s.at_ : Int) < (s.size : Int) := by omega
              have HR : Hid (enterB ent l = true) := by
                show enterB ent l = true
                unfold enterB
                rw [decide_eq_true h4, Bool.true_and]
                refine any_yes hkl ?_
                rw [← Hid.out HS]
                unfold runsB
                rw [decide_eq_true p1, decide_eq_true p2, decide_eq_true p3]
                rfl
              clear p1
              go_wp2
              go_ret
              exact ⟨ret_bool (Hid.out HR).symm, Hid.out HBO⟩
            · have p32 : ¬ (ent : Int) - (s.at_ : Int) < (s.size : Int) := by omega
              have HRR : Hid (runsB ent s = false) := by
                show runsB ent s = false
                unfold runsB
                rw [decide_eq_false p3, Bool.and_false]
              clear p1
              go_wp2
              go_roundw
              case rel => first | exact ⟨k + 1, by omega, by simp, Hid.out HBO, Hid.out HGO, upto (P := fun a => runsB ent (l.getD a nosg) = false) (Hid.out HN) (by rw [← Hid.out HS]; exact Hid.out HRR)⟩ | ((repeat apply Exists.intro); first | exact ⟨⟨k + 1, by omega, by simp, Hid.out HBO, Hid.out HGO, upto (P := fun a => runsB ent (l.getD a nosg) = false) (Hid.out HN) (by rw [← Hid.out HS]; exact Hid.out HRR)⟩, rfl⟩ | exact ⟨⟨k + 1, by omega, by simp, Hid.out HBO, Hid.out HGO, upto (P := fun a => runsB ent (l.getD a nosg) = false) (Hid.out HN) (by rw [← Hid.out HS]; exact Hid.out HRR)⟩, rfl, rfl⟩ | exact ⟨⟨k + 1, by omega, by simp, Hid.out HBO, Hid.out HGO, upto (P := fun a => runsB ent (l.getD a nosg) = false) (Hid.out HN) (by rw [← Hid.out HS]; exact Hid.out HRR)⟩, rfl, rfl, rfl⟩)
              case measure => simp [intOf]; omega
          · have p22 : ¬ (s.at_ : Int) ≤ (ent : Int) := by omega
            have HRR : Hid (runsB ent s = false) := by
              show runsB ent s = false
              unfold runsB
              rw [decide_eq_false p2, Bool.and_false, Bool.false_and]
            clear p1
            go_wp2
            go_roundw
            case rel => first | exact ⟨k + 1, by omega, by simp, Hid.out HBO, Hid.out HGO, upto (P := fun a => runsB ent (l.getD a nosg) = false) (Hid.out HN) (by rw [← Hid.out HS]; exact Hid.out HRR)⟩ | ((repeat apply Exists.intro); first | exact ⟨⟨k + 1, by omega, by simp, Hid.out HBO, Hid.out HGO, upto (P := fun a => runsB ent (l.getD a nosg) = false) (Hid.out HN) (by rw [← Hid.out HS]; exact Hid.out HRR)⟩, rfl⟩ | exact ⟨⟨k + 1, by omega, by simp, Hid.out HBO, Hid.out HGO, upto (P := fun a => runsB ent (l.getD a nosg) = false) (Hid.out HN) (by rw [← Hid.out HS]; exact Hid.out HRR)⟩, rfl, rfl⟩ | exact ⟨⟨k + 1, by omega, by simp, Hid.out HBO, Hid.out HGO, upto (P := fun a => runsB ent (l.getD a nosg) = false) (Hid.out HN) (by rw [← Hid.out HS]; exact Hid.out HRR)⟩, rfl, rfl, rfl⟩)
            case measure => simp [intOf]; omega
        · have p12 : s.perm % 2 = 0 := by omega
          have HRR : Hid (runsB ent s = false) := by
            show runsB ent s = false
            unfold runsB
            rw [decide_eq_false p1, Bool.false_and, Bool.false_and]
          clear p1
          go_wp2
          go_roundw
          case rel => first | exact ⟨k + 1, by omega, by simp, Hid.out HBO, Hid.out HGO, upto (P := fun a => runsB ent (l.getD a nosg) = false) (Hid.out HN) (by rw [← Hid.out HS]; exact Hid.out HRR)⟩ | ((repeat apply Exists.intro); first | exact ⟨⟨k + 1, by omega, by simp, Hid.out HBO, Hid.out HGO, upto (P := fun a => runsB ent (l.getD a nosg) = false) (Hid.out HN) (by rw [← Hid.out HS]; exact Hid.out HRR)⟩, rfl⟩ | exact ⟨⟨k + 1, by omega, by simp, Hid.out HBO, Hid.out HGO, upto (P := fun a => runsB ent (l.getD a nosg) = false) (Hid.out HN) (by rw [← Hid.out HS]; exact Hid.out HRR)⟩, rfl, rfl⟩ | exact ⟨⟨k + 1, by omega, by simp, Hid.out HBO, Hid.out HGO, upto (P := fun a => runsB ent (l.getD a nosg) = false) (Hid.out HN) (by rw [← Hid.out HS]; exact Hid.out HRR)⟩, rfl, rfl, rfl⟩)
          case measure => simp [intOf]; omega
      · have hkl2 : ¬ (k : Int) < (l.length : Int) := by omega
        obtain rfl : k = l.length := by omega
        have HR : Hid (enterB ent l = false) := by
          show enterB ent l = false
          unfold enterB
          rw [any_no (Hid.out HN), Bool.and_false]
        clear hbel hgn hno
        go_wp2
        go_ret
        exact ⟨ret_bool (Hid.out HR).symm, Hid.out HB⟩
  · have h42 : ¬ (ent : Int) % 4 = 0 := by omega
    have HR : Hid (enterB ent l = false) := by
      show enterB ent l = false
      unfold enterB
      rw [decide_eq_false h4, Bool.false_and]
    go_enter Try.func34, Try.ntmps34
    go_wp2
    go_ret
    exact ⟨ret_bool (Hid.out HR).symm, Hid.out HB0⟩
set_option maxRecDepth 20000 in
set_option maxHeartbeats 1000000 in
theorem check_any (w : World) (ao : Option Addr) (cap ent : Nat) (l : List Sg) (h : Segs w ao l) (hcap : l.length ≤ cap) (hmax : cap ≤ 9223372036854775807) (he : ent < 4294967296) : Calls Try.prog 16 #[.agg #[.int .u32 (ent : Int), .slice ao l.length cap]] w fun e w' => e = .returned (.int .i64 (checkE ent l : Int)) ∧ Below w.heap.size w w' := by
  have H := hidden h
  have hb0 : Below w.heap.size w (w.alloc (.cells #[.int .u32 (ent : Int), .slice ao l.length cap] 26)) := (Below.refl _ w).alloc (Nat.le_refl _) _
  have hg0 := Blk.new w #[.int .u32 (ent : Int), .slice ao l.length cap] 26
  have HB0 := hidden hb0
  have HG0 := hidden hg0
  clear h hb0 hg0
  by_cases h8 : 8 < l.length
  · have h82 : (8 : Int) < (l.length : Int) := by omega
    have HR : Hid (checkE ent l = 2) := by
      show checkE ent l = 2
      unfold checkE
      rw [if_pos h8]
    go_enter Try.func16, Try.ntmps16
    go_wp2
    go_ret
    exact ⟨by rw [Hid.out HR]; rfl, Hid.out HB0⟩
  · have h82 : ¬ (8 : Int) < (l.length : Int) := by omega
    go_enter Try.func16, Try.ntmps16
    go_wp2
    obtain ⟨n, hn⟩ : ∃ n, n = w.heap.size := ⟨_, rfl⟩
    rw [← hn] at HG0 ⊢
    clear hn
    go_loopw [12] (fun x12 wr => ∃ k : Nat, k ≤ l.length ∧ x12 = .int .i64 (k : Int) ∧ Below w.heap.size w wr ∧ Blk wr n #[.int .u32 (ent : Int), .slice ao l.length cap] 26 ∧ ∀ a, a < k → okB (l.getD a nosg) = true) (fun x12 _ => l.length - (intOf x12).toNat)
    case atStart => exact ⟨0, by omega, rfl, Hid.out HB0, Hid.out HG0, by omega⟩
    case round =>
      obtain ⟨k, hk, rfl, hbel, hgn, hno⟩ := hrel
      have HB := hidden hbel
      have HG := hidden hgn
      have HN := hidden hno
      have hnlt : n < wr.heap.size := hgn.lt
      by_cases hkl : k < l.length
      · obtain ⟨b, off, rfl, hlt, hc⟩ := ((Hid.out H).later hbel).at hkl
        obtain ⟨s, hs⟩ : ∃ s, s = l.getD k nosg := ⟨_, rfl⟩
        have hat := hc k hkl
        rw [← hs] at hat
        obtain ⟨c0, c1, c2, c3, fit⟩ := hat
        have HS := hidden hs
        have hkl2 : (k : Int) < (l.length : Int) := by omega
        have HBO : Hid (Below w.heap.size w (wr.alloc (.cells #[.int .u32 (s.at_ : Int), .string ⟨s.data.toArray⟩, .int .u32 (s.size : Int), .int .i64 s.perm] 43))) := hbel.alloc hbel.size _
        have HGO : Hid (Blk (wr.alloc (.cells #[.int .u32 (s.at_ : Int), .string ⟨s.data.toArray⟩, .int .u32 (s.size : Int), .int .i64 s.perm] 43)) n #[.int .u32 (ent : Int), .slice (some ⟨b, off, none⟩) l.length cap] 26) := hgn.later (below_new wr _)
        have HBA : Hid (∀ o, Below w.heap.size w (wr.alloc o)) := fun o => hbel.alloc hbel.size o
        have H32 := fun w => hidden (fits_any s fit w)
        have HNO : Hid (okB s = false → checkE ent l = 10) := by
          intro hf
          unfold checkE
          rw [if_neg h8, if_pos (all_no hkl (by rw [← Hid.out HS]; exact hf))]
        have HP : Hid (∀ w1, Below (wr.alloc (.cells #[.int .u32 (s.at_ : Int), .string ⟨s.data.toArray⟩, .int .u32 (s.size : Int), .int .i64 s.perm] 43)).heap.size (wr.alloc (.cells #[.int .u32 (s.at_ : Int), .string ⟨s.data.toArray⟩, .int .u32 (s.size : Int), .int .i64 s.perm] 43)) w1 → w1.cell? ⟨wr.heap.size, 3, none⟩ = some (.int .i64 s.perm) ∧ Blk w1 n #[.int .u32 (ent : Int), .slice (some ⟨b, off, none⟩) l.length cap] 26 ∧ Below w.heap.size w w1 ∧ wr.heap.size < w1.heap.size) := by
          intro w1 hb1
          have e1 := heap_alloc_new wr (.cells #[.int .u32 (s.at_ : Int), .string ⟨s.data.toArray⟩, .int .u32 (s.size : Int), .int .i64 s.perm] 43)
          have e2 := (hb1.block wr.heap.size (by simp)).trans e1
          refine ⟨cell_of_row _ _ _ _ _ _ e2, (Hid.out HGO).later hb1, (Hid.out HBO).trans (hb1.mono (Hid.out HBO).size), ?_⟩
          exact (Array.getElem?_eq_some_iff.1 e2).1
        clear hc hbel hs hgn hno fit
        by_cases z1 : s.size = 0
        · have z12 : (s.size : Int) = 0 := by omega
          have HR := hidden (Hid.out HNO (by unfold okB; rw [decide_eq_false (by simpa using z1)]; rfl))
          clear z1
          go_wp2
          go_ret
          exact ⟨by rw [Hid.out HR]; rfl, Hid.out HBA _⟩
        · have z12 : ¬ (s.size : Int) = 0 := by omega
          cases hf : fitsB s
          · have HR := hidden (Hid.out HNO (by unfold okB; rw [hf, Bool.and_false]; rfl))
            rw [hf] at H32
            clear hf
            go_wp2_with (go_at_call 32; with_reducible refine (Hid.out (H32 _)).mono ?_; rintro e w1 ⟨rfl, hb1⟩; obtain ⟨q1, q2, q3, q4⟩ := Hid.out HP w1 hb1; have Q2 := hidden q2; have Q3 := hidden q3; clear hb1 q2 q3)
            go_ret
            exact ⟨by rw [Hid.out HR]; rfl, Hid.out Q3⟩
          · rw [hf] at H32
            by_cases p0 : s.perm < 0
            · have HR := hidden (Hid.out HNO (by unfold okB; rw [decide_eq_false (show ¬ 0 ≤ s.perm by omega), Bool.and_false]; rfl))
              clear hf
              go_wp2_with (go_at_call 32; with_reducible refine (Hid.out (H32 _)).mono ?_; rintro e w1 ⟨rfl, hb1⟩; obtain ⟨q1, q2, q3, q4⟩ := Hid.out HP w1 hb1; have Q2 := hidden q2; have Q3 := hidden q3; clear hb1 q2 q3)
              go_ret
              exact ⟨by rw [Hid.out HR]; rfl, Hid.out Q3⟩
            · by_cases p7 : 7 < s.perm
              · have HR := hidden (Hid.out HNO (by unfold okB; rw [decide_eq_false (show ¬ s.perm ≤ 7 by omega), Bool.and_false]))
                clear hf
                go_wp2_with (go_at_call 32; with_reducible refine (Hid.out (H32 _)).mono ?_; rintro e w1 ⟨rfl, hb1⟩; obtain ⟨q1, q2, q3, q4⟩ := Hid.out HP w1 hb1; have Q2 := hidden q2; have Q3 := hidden q3; clear hb1 q2 q3)
                go_ret
                exact ⟨by rw [Hid.out HR]; rfl, Hid.out Q3⟩
              · have HRR : Hid (okB s = true) := by
                  show okB s = true
                  unfold okB
                  rw [hf, decide_eq_true (show s.size ≠ 0 by omega), decide_eq_true (show 0 ≤ s.perm by omega), decide_eq_true (show s.perm ≤ 7 by omega)]
                  rfl
                have p02 : decide (s.perm < 0) = false := by simp; omega
                have p72 : decide ((7 : Int) < s.perm) = false := by simp; omega
                clear hf
                go_wp2_with (go_at_call 32; with_reducible refine (Hid.out (H32 _)).mono ?_; rintro e w1 ⟨rfl, hb1⟩; obtain ⟨q1, q2, q3, q4⟩ := Hid.out HP w1 hb1; have Q2 := hidden q2; have Q3 := hidden q3; clear hb1 q2 q3)
                go_roundw
                case rel => first | exact ⟨k + 1, by omega, by simp, Hid.out Q3, Hid.out Q2, upto (P := fun a => okB (l.getD a nosg) = true) (Hid.out HN) (by rw [← Hid.out HS]; exact Hid.out HRR)⟩ | ((repeat apply Exists.intro); first | exact ⟨⟨k + 1, by omega, by simp, Hid.out Q3, Hid.out Q2, upto (P := fun a => okB (l.getD a nosg) = true) (Hid.out HN) (by rw [← Hid.out HS]; exact Hid.out HRR)⟩, rfl⟩ | exact ⟨⟨k + 1, by omega, by simp, Hid.out Q3, Hid.out Q2, upto (P := fun a => okB (l.getD a nosg) = true) (Hid.out HN) (by rw [← Hid.out HS]; exact Hid.out HRR)⟩, rfl, rfl⟩ | exact ⟨⟨k + 1, by omega, by simp, Hid.out Q3, Hid.out Q2, upto (P := fun a => okB (l.getD a nosg) = true) (Hid.out HN) (by rw [← Hid.out HS]; exact Hid.out HRR)⟩, rfl, rfl, rfl⟩)
                case measure => simp [intOf]; omega
      · have hkl2 : ¬ (k : Int) < (l.length : Int) := by omega
        obtain rfl : k = l.length := by omega
        have hall := all_yes (Hid.out HN)
        have h8' : l.length ≤ 8 := by omega
        have f0 : wr.cell? ⟨n, 0, none⟩ = some (.int .u32 (ent : Int)) := hgn.cell rfl
        have f1 : wr.cell? ⟨n, 1, none⟩ = some (.slice ao l.length cap) := hgn.cell rfl
        have H33 := hidden (overlap_any wr ao cap l ((Hid.out H).later hbel) h8' hcap hmax hall)
        have HP : Hid (∀ w1, Below wr.heap.size wr w1 → w1.cell? ⟨n, 0, none⟩ = some (.int .u32 (ent : Int)) ∧ w1.cell? ⟨n, 1, none⟩ = some (.slice ao l.length cap) ∧ Below w.heap.size w w1 ∧ Calls Try.prog 34 #[.agg #[.int .u32 (ent : Int), .slice ao l.length cap]] w1 fun e w' => e = .returned (.bool (enterB ent l)) ∧ Below w.heap.size w w') := by
          intro w1 hb1
          have e2 := hgn.later hb1
          have hbw := hbel.trans (hb1.mono hbel.size)
          refine ⟨e2.cell rfl, e2.cell rfl, hbw, ?_⟩
          exact (entered_any w1 ao cap ent l ((Hid.out H).later hbw) h8' hcap hmax he).mono fun e w' ⟨h1, h2⟩ => ⟨h1, hbw.trans (h2.mono hbw.size)⟩
        have HE : Hid (checkE ent l = if overB l = true then 11 else if enterB ent l = false then 12 else 0) := by
          show checkE ent l = _
          unfold checkE
          rw [if_neg h8, if_neg (by rw [hall]; simp)]
        clear hbel hgn hno hall
        cases ho : overB l
        · rw [ho] at H33 HE
          cases hn : enterB ent l
          · rw [hn] at HP HE
            clear ho hn
            go_wp2_with (first | (go_at_call 33; with_reducible refine (Hid.out H33).mono ?_; rintro e w1 ⟨rfl, hb1⟩; obtain ⟨q0, q1, q2, q3⟩ := Hid.out HP w1 hb1; have Q3 := hidden q3; clear hb1 q2 q3) | (go_at_call 34; with_reducible refine (Hid.out Q3).mono ?_; rintro e w2 ⟨rfl, hb2⟩; have HB2 := hidden hb2; clear hb2))
            go_ret
            exact ⟨by rw [Hid.out HE]; rfl, Hid.out HB2⟩
          · rw [hn] at HP HE
            clear ho hn
            go_wp2_with (first | (go_at_call 33; with_reducible refine (Hid.out H33).mono ?_; rintro e w1 ⟨rfl, hb1⟩; obtain ⟨q0, q1, q2, q3⟩ := Hid.out HP w1 hb1; have Q3 := hidden q3; clear hb1 q2 q3) | (go_at_call 34; with_reducible refine (Hid.out Q3).mono ?_; rintro e w2 ⟨rfl, hb2⟩; have HB2 := hidden hb2; clear hb2))
            go_ret
            exact ⟨by rw [Hid.out HE]; rfl, Hid.out HB2⟩
        · rw [ho] at H33 HE
          clear ho
          go_wp2_with (go_at_call 33; with_reducible refine (Hid.out H33).mono ?_; rintro e w1 ⟨rfl, hb1⟩; obtain ⟨q0, q1, q2, q3⟩ := Hid.out HP w1 hb1; have Q2 := hidden q2; clear hb1 q2 q3)
          go_ret
          exact ⟨by rw [Hid.out HE]; rfl, Hid.out Q2⟩
end Go.Proofs.Ytjpmagekianpdaa

/- What is wrong with a file. -/
import Derived.Test.YtjpmagekianpdaaShare
namespace Go.Proofs.Ytjpmagekianpdaa
open Go.ChangeShapes Go.WideShapes Go.ChangeAt Go.RowKit
set_option linter.unusedVariables false
set_option maxRecDepth 20000 in
set_option maxHeartbeats 1000000 in
theorem overlap_any (w : World) (ao : Option Addr) (cap : Nat) (l : List Sg) (h : Segs w ao l) (hlen : l.length ≤ 8) (hcap : l.length ≤ cap) (hmax : cap ≤ 9223372036854775807) (hok : l.all okB = true) : Calls Try.prog 33 #[.slice ao l.length cap] w fun e w' => e = .returned (.bool (overB l)) ∧ Below w.heap.size w w' := by
  have H := hidden h
  have HOK : Hid (∀ j, j < l.length → okB (l.getD j nosg) = true) := fun j hj => all_get hok hj
  clear h hok
  go_enter Try.func33, Try.ntmps33
  go_wp2
  go_loopw [9] (fun x9 wr => ∃ k : Nat, k ≤ l.length ∧ x9 = .int .i64 (k : Int) ∧ Below w.heap.size w wr ∧ ∀ a b, b < a → a < k → shareB (l.getD a nosg) (l.getD b nosg) = false) (fun x9 _ => l.length - (intOf x9).toNat)
  case atStart => exact ⟨0, by omega, rfl, Below.refl _ _, by omega⟩
  case round =>
    obtain ⟨k, hk, rfl, hbel, hno⟩ := hrel
    have HB := hidden hbel
    have HN := hidden hno
    clear hno
    by_cases hkl : k < l.length
    · obtain ⟨b, off, rfl, hlt, hc⟩ := ((Hid.out H).later hbel).at hkl
      have HC := hidden hc
      obtain ⟨s, hs⟩ : ∃ s, s = l.getD k nosg := ⟨_, rfl⟩
      have hat := hc k hkl
      rw [← hs] at hat
      obtain ⟨c0, c1, c2, c3, _⟩ := hat
      have HS := hidden hs
      have hkl2 : (k : Int) < (l.length : Int) := by omega
      obtain ⟨g, hg⟩ : ∃ g, g = wr.heap.size := ⟨_, rfl⟩
      have HG := hidden hg
      have HA : Hid ((wr.alloc (.cells #[.int .u32 (s.at_ : Int), .string ⟨s.data.toArray⟩, .int .u32 (s.size : Int), .int .i64 s.perm] 43)).heap[g]? = some (.cells #[.int .u32 (s.at_ : Int), .string ⟨s.data.toArray⟩, .int .u32 (s.size : Int), .int .i64 s.perm] 43 (0, 0))) := by rw [hg]; exact heap_alloc_new wr _
      have HB0 : Hid (Below w.heap.size w (wr.alloc (.cells #[.int .u32 (s.at_ : Int), .string ⟨s.data.toArray⟩, .int .u32 (s.size : Int), .int .i64 s.perm] 43))) := hbel.alloc hbel.size _
      have HB1 : Hid (Below wr.heap.size wr (wr.alloc (.cells #[.int .u32 (s.at_ : Int), .string ⟨s.data.toArray⟩, .int .u32 (s.size : Int), .int .i64 s.perm] 43))) := (Below.refl _ wr).alloc (Nat.le_refl _) _
      clear hc hbel hs hg HC
      go_wp2
      rw [← Hid.out HG]
      go_loopw [18] (fun x18 wi => ∃ m : Nat, m ≤ k ∧ x18 = .int .i64 (m : Int) ∧ Below w.heap.size w wi ∧ wi.heap[g]? = some (.cells #[.int .u32 (s.at_ : Int), .string ⟨s.data.toArray⟩, .int .u32 (s.size : Int), .int .i64 s.perm] 43 (0, 0)) ∧ ∀ b, b < m → shareB s (l.getD b nosg) = false) (fun x18 _ => k - (intOf x18).toNat)
      case atStart => exact ⟨0, by omega, rfl, Hid.out HB0, Hid.out HA, by omega⟩
      case round =>
        obtain ⟨m, hm, rfl, hbi, hgi, hni⟩ := hrel
        have HBI := hidden hbi
        have HGI := hidden hgi
        have HNI := hidden hni
        by_cases hmk : m < k
        · obtain ⟨b2, off2, e2, hlt2, hc2⟩ := ((Hid.out H).later hbi).at hkl
          cases e2
          obtain ⟨o, ho⟩ : ∃ o, o = l.getD m nosg := ⟨_, rfl⟩
          have hat := hc2 m (by omega)
          rw [← ho] at hat
          obtain ⟨d0, d1, d2, d3, _⟩ := hat
          have hsk : okB s = true := by have := Hid.out HOK k hkl; rwa [← Hid.out HS] at this
          have hok : okB o = true := by have := Hid.out HOK m (by omega); rwa [← ho] at this
          have s0 : wr.cell? ⟨g, 0, none⟩ = some (.int .u32 (s.at_ : Int)) := cell_of_row _ _ _ _ _ _ hgi
          have s1 : wr.cell? ⟨g, 1, none⟩ = some (.string ⟨s.data.toArray⟩) := cell_of_row _ _ _ _ _ _ hgi
          have s2 : wr.cell? ⟨g, 2, none⟩ = some (.int .u32 (s.size : Int)) := cell_of_row _ _ _ _ _ _ hgi
          have s3 : wr.cell? ⟨g, 3, none⟩ = some (.int .i64 s.perm) := cell_of_row _ _ _ _ _ _ hgi
          have hmk2 : (m : Int) < (k : Int) := by omega
          have hg2 : g < wr.heap.size := (Array.getElem?_eq_some_iff.1 hgi).1
          have H45 := fun w => hidden (share_any s o hsk hok w)
          have HBO : Hid (Below w.heap.size w (wr.alloc (.cells #[.int .u32 (o.at_ : Int), .string ⟨o.data.toArray⟩, .int .u32 (o.size : Int), .int .i64 o.perm] 43))) := hbi.alloc hbi.size _
          have HO := hidden ho
          have HGO : Hid ((wr.alloc (.cells #[.int .u32 (o.at_ : Int), .string ⟨o.data.toArray⟩, .int .u32 (o.size : Int), .int .i64 o.perm] 43)).heap[g]? = some (.cells #[.int .u32 (s.at_ : Int), .string ⟨s.data.toArray⟩, .int .u32 (s.size : Int), .int .i64 s.perm] 43 (0, 0))) := (((Below.refl _ wr).alloc (Nat.le_refl _) _).block g hg2).trans hgi
          clear hbi hgi hni hc2 hsk hok ho c0 c1 c2 c3
          cases hsh : shareB s o
          · rw [hsh] at H45
            have HSH := hidden hsh
            clear hsh
            go_wp2_with (go_at_call 45; with_reducible refine (Hid.out (H45 _)).mono ?_; rintro e w1 ⟨rfl, hb1⟩; have HB2 := hidden (Below.trans (Hid.out HBO) (Below.mono hb1 (Hid.out HBO).size)); have HG2 := hidden ((hb1.block g (by simp; omega)).trans (Hid.out HGO)); clear hb1)
            go_roundw
            case rel => exact ⟨m + 1, by omega, by simp, Hid.out HB2, Hid.out HG2, fun b hb => by rcases Nat.lt_or_eq_of_le (Nat.le_of_lt_succ hb) with h | h; exact Hid.out HNI b h; rw [h, ← Hid.out HO]; exact Hid.out HSH⟩
            case measure => simp [intOf]; omega
          · rw [hsh] at H45
            have HR : Hid (overB l = true) := over_yes hmk hkl (by rw [← Hid.out HS, ← Hid.out HO]; exact hsh)
            clear hsh
            go_wp2_with (go_at_call 45; with_reducible refine (Hid.out (H45 _)).mono ?_; rintro e w1 ⟨rfl, hb1⟩; have HB2 := hidden (Below.trans (Hid.out HBO) (Below.mono hb1 (Hid.out HBO).size)); clear hb1)
            go_ret
            exact ⟨ret_bool (Hid.out HR).symm, Hid.out HB2⟩
        · have hmk2 : ¬ (m : Int) < (k : Int) := by omega
          obtain rfl : m = k := by omega
          clear hbi hgi hni c0 c1 c2 c3
          go_wp2
          go_roundw
          case rel => exact ⟨m + 1, by omega, by simp, Hid.out HBI, fun a b h1 h2 => by rcases Nat.lt_or_eq_of_le (Nat.le_of_lt_succ h2) with h | h; exact Hid.out HN a b h1 h; rw [h, ← Hid.out HS]; exact Hid.out HNI b (by omega)⟩
          case measure => simp [intOf]; omega
    · have hkl2 : ¬ (k : Int) < (l.length : Int) := by omega
      obtain rfl : k = l.length := by omega
      have HR : Hid (overB l = false) := over_no (Hid.out HN)
      clear hbel
      go_wp2
      go_ret
      exact ⟨ret_bool (Hid.out HR).symm, Hid.out HB⟩
end Go.Proofs.Ytjpmagekianpdaa

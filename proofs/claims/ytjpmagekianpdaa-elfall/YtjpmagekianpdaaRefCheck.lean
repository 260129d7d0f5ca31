/- Chapter 6's own Check. -/
import Derived.Test.YtjpmagekianpdaaRefPage
import Derived.Test.YtjpmagekianpdaaDone
import Derived.Test.YtjpmagekianpdaaSame
import Derived.Deep.Cut
import Derived.Deep.CutRange
import Derived.Deep.MidRow
namespace Go.Proofs.Ytjpmagekianpdaa
open Go.ChangeShapes Go.WideShapes Go.ChangeAt Go.RowKit
set_option linter.unusedVariables false
section
variable {ρ : Operand → Value} {o : Oper}
theorem load23s {w : World} {a : Addr} {v : Value} (hc : w.cell? a = some v) : (loadVar 24 a).run Try.prog w = .ok v w := by
  simp [loadVar, isAgg, Sem.run_bind, run_underlying Try.underlying24, hc, go_sem]
theorem load44at {w : World} {b o : Nat} {s : Sg} (h : SegAt w b o s) : (loadVar 43 ⟨b, o, none⟩).run Try.prog w = .ok (.agg #[.int .u32 (s.at_ : Int), .string ⟨s.data.toArray⟩, .int .u32 (s.size : Int), .int .i64 s.perm]) w :=
  run_loadVar_mid w b o 43 [.int .u32 (s.at_ : Int), .string ⟨s.data.toArray⟩, .int .u32 (s.size : Int), .int .i64 s.perm] _ (fun j v hv => by
    match j, hv with
    | 0, hv => cases hv; exact h.c0
    | 1, hv => cases hv; exact h.c1
    | 2, hv => cases hv; exact h.c2
    | 3, hv => cases hv; exact h.c3
    | j + 4, hv => simp at hv) Try.underlying43 rfl size43
theorem exec_index44 {x y : Operand} {b off n cap k : Nat} (hop : o.op = .indexAddr 24 x y) (hx : ρ x = .slice (some ⟨b, off, none⟩) n cap) (hy : ρ y = .int .i64 (k : Int)) (hk : k < n) (w : World) : (execOp ρ o).run Try.prog w = .ok (.value (.pointer (some ⟨b, off + k * 4, none⟩))) w := by
  have hs := size43
  cases hq : Try.prog.info? 43 with
  | none => simp [hq] at hs
  | some i =>
    have hs2 : i.size = 4 := by simpa [hq] using hs
    unfold execOp
    rw [hop]
    simp [hx, hy, Instr.indexAt, run_underlying Try.underlying24, sizeOf, typeInfo, hq, hs2, hk, Addr.add_lit, go_sem]
theorem exec_leqI {x y : Operand} {a b : Nat} (hop : o.op = .binOp .leq 3 x y 3) (hx : ρ x = .int .i64 (a : Int)) (hy : ρ y = .int .i64 (b : Int)) (w : World) : (execOp ρ o).run Try.prog w = .ok (.value (.bool (decide (a ≤ b)))) w := by
  unfold execOp
  rw [hop]
  simp [hx, hy, go_sem]
end
theorem list20 : ∀ xs : List Value, xs.length = 20 → ∃ x0 x1 x2 x3 x4 x5 x6 x7 x8 x9 x10 x11 x12 x13 x14 x15 x16 x17 x18 x19, xs = [x0, x1, x2, x3, x4, x5, x6, x7, x8, x9, x10, x11, x12, x13, x14, x15, x16, x17, x18, x19]
  | [x0, x1, x2, x3, x4, x5, x6, x7, x8, x9, x10, x11, x12, x13, x14, x15, x16, x17, x18, x19], _ => ⟨_, _, _, _, _, _, _, _, _, _, _, _, _, _, _, _, _, _, _, _, rfl⟩
/-- What the slots of the region hold, whatever the order. -/
def phiRcT (n b off len cap m : Nat) (s o : Sg) : Nat → Value → World → Prop
  | 0, x, _ => x = .agg #[.int .u32 (s.at_ : Int), .string ⟨s.data.toArray⟩, .int .u32 (s.size : Int), .int .i64 s.perm]
  | 1, x, _ => x = .int .i64 ((s.at_ / 256 : Nat) : Int)
  | 2, x, _ => x = .pointer (some ⟨n, 1, none⟩)
  | 3, x, _ => x = .slice (some ⟨b, off, none⟩) len cap
  | 4, x, _ => x = .int .i64 (m : Int)
  | 5, x, _ => x = .pointer (some ⟨b, off + m * 4, none⟩)
  | 6, x, _ => x = .agg #[.int .u32 (o.at_ : Int), .string ⟨o.data.toArray⟩, .int .u32 (o.size : Int), .int .i64 o.perm]
  | 7, x, _ => x = .int .i64 (lastPg o : Int)
  | 8, x, _ => x = .bool true
  | 9, x, _ => x = .bool true
  | 10, x, _ => x = .pointer (some ⟨n, 1, none⟩)
  | 11, x, _ => x = .slice (some ⟨b, off, none⟩) len cap
  | 12, x, _ => x = .int .i64 (m : Int)
  | 13, x, _ => x = .pointer (some ⟨b, off + m * 4, none⟩)
  | 14, x, _ => x = .agg #[.int .u32 (o.at_ : Int), .string ⟨o.data.toArray⟩, .int .u32 (o.size : Int), .int .i64 o.perm]
  | 15, x, _ => x = .int .i64 ((o.at_ / 256 : Nat) : Int)
  | 16, x, _ => x = .agg #[.int .u32 (s.at_ : Int), .string ⟨s.data.toArray⟩, .int .u32 (s.size : Int), .int .i64 s.perm]
  | 17, x, _ => x = .int .i64 (lastPg s : Int)
  | 18, x, _ => x = .bool (decide (o.at_ / 256 ≤ lastPg s))
  | 19, x, _ => x = .bool (decide (o.at_ / 256 ≤ lastPg s))
  | _ + 20, _, _ => True
theorem phiRcT_mono (n b off len cap m : Nat) (s o : Sg) : ∀ i x w w', phiRcT n b off len cap m s o i x w → Below w.heap.size w w' → phiRcT n b off len cap m s o i x w'
  | 0, _, _, _, h, _ => h
  | 1, _, _, _, h, _ => h
  | 2, _, _, _, h, _ => h
  | 3, _, _, _, h, _ => h
  | 4, _, _, _, h, _ => h
  | 5, _, _, _, h, _ => h
  | 6, _, _, _, h, _ => h
  | 7, _, _, _, h, _ => h
  | 8, _, _, _, h, _ => h
  | 9, _, _, _, h, _ => h
  | 10, _, _, _, h, _ => h
  | 11, _, _, _, h, _ => h
  | 12, _, _, _, h, _ => h
  | 13, _, _, _, h, _ => h
  | 14, _, _, _, h, _ => h
  | 15, _, _, _, h, _ => h
  | 16, _, _, _, h, _ => h
  | 17, _, _, _, h, _ => h
  | 18, _, _, _, h, _ => h
  | 19, _, _, _, h, _ => h
  | _ + 20, _, _, _, _, _ => trivial
/-- What the slots of the region hold, whatever the order. -/
def phiRcF (n b off len cap m : Nat) (s o : Sg) : Nat → Value → World → Prop
  | 0, x, _ => x = .agg #[.int .u32 (s.at_ : Int), .string ⟨s.data.toArray⟩, .int .u32 (s.size : Int), .int .i64 s.perm]
  | 1, x, _ => x = .int .i64 ((s.at_ / 256 : Nat) : Int)
  | 2, x, _ => x = .pointer (some ⟨n, 1, none⟩)
  | 3, x, _ => x = .slice (some ⟨b, off, none⟩) len cap
  | 4, x, _ => x = .int .i64 (m : Int)
  | 5, x, _ => x = .pointer (some ⟨b, off + m * 4, none⟩)
  | 6, x, _ => x = .agg #[.int .u32 (o.at_ : Int), .string ⟨o.data.toArray⟩, .int .u32 (o.size : Int), .int .i64 o.perm]
  | 7, x, _ => x = .int .i64 (lastPg o : Int)
  | 8, x, _ => x = .bool false
  | 9, x, _ => x = .bool false
  | 10, x, _ => x = undef
  | 11, x, _ => x = undef
  | 12, x, _ => x = undef
  | 13, x, _ => x = undef
  | 14, x, _ => x = undef
  | 15, x, _ => x = undef
  | 16, x, _ => x = undef
  | 17, x, _ => x = undef
  | 18, x, _ => x = undef
  | 19, x, _ => x = .bool false
  | _ + 20, _, _ => True
theorem phiRcF_mono (n b off len cap m : Nat) (s o : Sg) : ∀ i x w w', phiRcF n b off len cap m s o i x w → Below w.heap.size w w' → phiRcF n b off len cap m s o i x w'
  | 0, _, _, _, h, _ => h
  | 1, _, _, _, h, _ => h
  | 2, _, _, _, h, _ => h
  | 3, _, _, _, h, _ => h
  | 4, _, _, _, h, _ => h
  | 5, _, _, _, h, _ => h
  | 6, _, _, _, h, _ => h
  | 7, _, _, _, h, _ => h
  | 8, _, _, _, h, _ => h
  | 9, _, _, _, h, _ => h
  | 10, _, _, _, h, _ => h
  | 11, _, _, _, h, _ => h
  | 12, _, _, _, h, _ => h
  | 13, _, _, _, h, _ => h
  | 14, _, _, _, h, _ => h
  | 15, _, _, _, h, _ => h
  | 16, _, _, _, h, _ => h
  | 17, _, _, _, h, _ => h
  | 18, _, _, _, h, _ => h
  | 19, _, _, _, h, _ => h
  | _ + 20, _, _, _, _, _ => trivial
theorem over_none {l : List Sg} (h : ∀ a b, b < a → a < l.length → shareB (l.getD a nosg) (l.getD b nosg) = false) : overB l = false := by
  unfold overB
  rw [List.any_eq_false]
  intro a ha
  rw [List.mem_range] at ha
  simp only [Bool.not_eq_true, List.any_eq_false]
  intro b hb
  rw [List.mem_range] at hb
  exact h a b hb ha
theorem any_snoc (e k : Nat) (l : List Sg) (h : k < l.length) : (l.take (k + 1)).any (runsB e) = ((l.take k).any (runsB e) || runsB e (l.getD k nosg)) := by
  rw [List.take_add_one, List.getElem?_eq_getElem h, List.any_append]
  simp [List.getD_eq_getElem?_getD, h]
set_option maxRecDepth 20000 in
set_option maxHeartbeats 8000000 in
theorem rcheck_any (w : World) (ao : Option Addr) (cap ent : Nat) (l : List Sg) (h : Segs w ao l) (hcap : l.length ≤ cap) (hmax : cap ≤ 9223372036854775807) (he : ent < 4294967296) : Calls Try.prog 17 #[.agg #[.int .u32 (ent : Int), .slice ao l.length cap]] w fun e w' => e = .returned (.int .i64 (checkE ent l : Int)) ∧ Below w.heap.size w w' := by
  have H := hidden h
  obtain ⟨n, hn⟩ : ∃ n, w.heap.size = n := ⟨_, rfl⟩
  obtain ⟨wa, hwa⟩ : ∃ wa, w.alloc (.cells #[.int .u32 (ent : Int), .slice ao l.length cap] 26) = wa := ⟨_, rfl⟩
  have hb0 : Below n w wa := by rw [← hwa, ← hn]; exact below_new w _
  have hg0 : Blk wa n #[.int .u32 (ent : Int), .slice ao l.length cap] 26 := by rw [← hwa, ← hn]; exact Blk.new w _ _
  have q1 : wa.cell? ⟨n, 1, none⟩ = some (.slice ao l.length cap) := hg0.cell rfl
  have HB0 := hidden hb0
  have HG0 := hidden hg0
  clear h hb0 hg0
  by_cases h8 : 8 < l.length
  · have h82 : (8 : Int) < (l.length : Int) := by omega
    have HR : Hid (checkE ent l = 2) := by
      show checkE ent l = 2
      unfold checkE
      rw [if_pos h8]
    go_enter Try.func17, Try.ntmps17
    go_wp2
    go_ret
    exact ⟨by rw [Hid.out HR]; rfl, by rw [hn]; exact Hid.out HB0⟩
  · have h82 : ¬ (8 : Int) < (l.length : Int) := by omega
    go_enter Try.func17, Try.ntmps17
    go_wp2
    go_loopw [3] (fun x3 wr => ∃ k : Nat, k ≤ l.length ∧ x3 = .int .i64 (k : Int) ∧ Below n w wr ∧ Blk wr n #[.int .u32 (ent : Int), .slice ao l.length cap] 26 ∧ ∀ a, a < k → okB (l.getD a nosg) = true) (fun x3 _ => l.length - (intOf x3).toNat)
    case atStart => exact ⟨0, by omega, rfl, Hid.out HB0, Hid.out HG0, by omega⟩
    case round =>
      obtain ⟨k, hk, rfl, hbel, hgn, hno⟩ := hrel
      have HB := hidden hbel
      have HG := hidden hgn
      have HN := hidden hno
      have r1 : wr.cell? ⟨n, 1, none⟩ = some (.slice ao l.length cap) := hgn.cell rfl
      by_cases hkl : k < l.length
      · obtain ⟨b, off, rfl, hlt, hc⟩ := ((Hid.out H).later (by rw [hn]; exact hbel)).at hkl
        obtain ⟨s, hs⟩ : ∃ s, s = l.getD k nosg := ⟨_, rfl⟩
        have hat := hc k hkl
        rw [← hs] at hat
        obtain ⟨c0, c1, c2, c3, fit⟩ := hat
        have fa := fit.la
        have fs := fit.ls
        have fd := fit.ld
        have HS := hidden hs
        have hkl2 : (k : Int) < (l.length : Int) := by omega
        have hnl : n ≤ wr.heap.size := Nat.le_of_lt hgn.lt
        have HBO : Hid (∀ o, Below n w (wr.alloc o)) := fun o => hbel.alloc hnl o
        have HGO : Hid (∀ o, Blk (wr.alloc o) n #[.int .u32 (ent : Int), .slice (some ⟨b, off, none⟩) l.length cap] 26) := fun o => hgn.later (below_new wr _)
        have hds : (ByteArray.mk s.data.toArray).size = s.data.length := by simp [ByteArray.size]
        have HNO : Hid (okB s = false → checkE ent l = 10) := by
          intro hf
          unfold checkE
          rw [if_neg h8, if_pos (all_no hkl (by rw [← Hid.out HS]; exact hf))]
        clear hc hbel hs hgn hno fit
        by_cases z0 : s.size = 0
        · have y0 : (s.size : Int) = 0 := by omega
          have HR := hidden (Hid.out HNO (by unfold okB fitsB; simp; omega))
          go_wp2
          go_ret
          exact ⟨by rw [Hid.out HR]; rfl, by first | exact Hid.out HBO _ | (rw [hn]; exact Hid.out HBO _)⟩
        have y0 : ¬ (s.size : Int) = 0 := by omega
        by_cases z1 : 16384 < s.size
        · have y1 : (16384 : Int) < (s.size : Int) := by omega
          have HR := hidden (Hid.out HNO (by unfold okB fitsB; simp; omega))
          go_wp2
          go_ret
          exact ⟨by rw [Hid.out HR]; rfl, by first | exact Hid.out HBO _ | (rw [hn]; exact Hid.out HBO _)⟩
        have y1 : decide ((16384 : Int) < (s.size : Int)) = false := by simp; omega
        by_cases z2 : s.size < s.data.length
        · have y2 : (s.size : Int) < (s.data.length : Int) := by omega
          have HR := hidden (Hid.out HNO (by unfold okB fitsB; simp; omega))
          go_wp2
          go_ret
          exact ⟨by rw [Hid.out HR]; rfl, by first | exact Hid.out HBO _ | (rw [hn]; exact Hid.out HBO _)⟩
        have y2 : decide ((s.size : Int) < (s.data.length : Int)) = false := by simp; omega
        by_cases z3 : 2147483648 < s.at_ + s.size
        · have y3 : (2147483648 : Int) < (s.at_ : Int) + (s.size : Int) := by omega
          have HR := hidden (Hid.out HNO (by unfold okB fitsB; simp; omega))
          go_wp2
          go_ret
          exact ⟨by rw [Hid.out HR]; rfl, by first | exact Hid.out HBO _ | (rw [hn]; exact Hid.out HBO _)⟩
        have y3 : decide ((2147483648 : Int) < (s.at_ : Int) + (s.size : Int)) = false := by simp; omega
        by_cases z4 : s.perm < 0
        · have y4 : s.perm < 0 := by omega
          have HR := hidden (Hid.out HNO (by unfold okB fitsB; simp; omega))
          go_wp2
          go_ret
          exact ⟨by rw [Hid.out HR]; rfl, by first | exact Hid.out HBO _ | (rw [hn]; exact Hid.out HBO _)⟩
        have y4 : decide (s.perm < 0) = false := by simp; omega
        by_cases z5 : 7 < s.perm
        · have y5 : (7 : Int) < s.perm := by omega
          have HR := hidden (Hid.out HNO (by unfold okB fitsB; simp; omega))
          go_wp2
          go_ret
          exact ⟨by rw [Hid.out HR]; rfl, by first | exact Hid.out HBO _ | (rw [hn]; exact Hid.out HBO _)⟩
        have y5 : decide ((7 : Int) < s.perm) = false := by simp; omega
        have HOKS : Hid (okB s = true) := by
          show okB s = true
          unfold okB fitsB
          simp
          omega
        go_wp2
        go_roundw
        case rel => first | exact ⟨k + 1, by omega, by simp, Hid.out HBO _, Hid.out HGO _, upto (P := fun a => okB (l.getD a nosg) = true) (Hid.out HN) (by rw [← Hid.out HS]; exact Hid.out HOKS)⟩ | ((repeat apply Exists.intro); first | exact ⟨⟨k + 1, by omega, by simp, Hid.out HBO _, Hid.out HGO _, upto (P := fun a => okB (l.getD a nosg) = true) (Hid.out HN) (by rw [← Hid.out HS]; exact Hid.out HOKS)⟩, rfl⟩ | exact ⟨⟨k + 1, by omega, by simp, Hid.out HBO _, Hid.out HGO _, upto (P := fun a => okB (l.getD a nosg) = true) (Hid.out HN) (by rw [← Hid.out HS]; exact Hid.out HOKS)⟩, rfl, rfl⟩)
        case measure => simp [intOf]; omega
      · have hkl2 : ¬ (k : Int) < (l.length : Int) := by omega
        obtain rfl : k = l.length := by omega
        have HOK : Hid (∀ j, j < l.length → okB (l.getD j nosg) = true) := hno
        clear hbel hgn hno
        go_wp2
        go_loopw [5, 6] (fun x5 x6 wr => ∃ k : Nat, k ≤ l.length ∧ x6 = .int .i64 (k : Int) ∧ x5 = .bool ((l.take k).any (runsB ent)) ∧ Below n w wr ∧ Blk wr n #[.int .u32 (ent : Int), .slice ao l.length cap] 26 ∧ ∀ a b, b < a → a < k → shareB (l.getD a nosg) (l.getD b nosg) = false) (fun _ x6 _ => l.length - (intOf x6).toNat)
        case atStart => exact ⟨0, by omega, rfl, by simp, Hid.out HB, Hid.out HG, by omega⟩
        case round =>
          obtain ⟨k, hk, rfl, rfl, hbel, hgn, hno⟩ := hrel
          have HB := hidden hbel
          have HG := hidden hgn
          have HN := hidden hno
          have r0 : wr.cell? ⟨n, 0, none⟩ = some (.int .u32 (ent : Int)) := hgn.cell rfl
          have r1 : wr.cell? ⟨n, 1, none⟩ = some (.slice ao l.length cap) := hgn.cell rfl
          obtain ⟨eb, heb⟩ : ∃ eb, eb = (l.take k).any (runsB ent) := ⟨_, rfl⟩
          rw [← heb]
          have HE := hidden heb
          clear heb
          by_cases hkl : k < l.length
          · obtain ⟨b, off, rfl, hlt, hc⟩ := ((Hid.out H).later (by rw [hn]; exact hbel)).at hkl
            obtain ⟨s, hs⟩ : ∃ s, s = l.getD k nosg := ⟨_, rfl⟩
            have hat := hc k hkl
            have ks := Hid.out HOK k hkl
            rw [← hs] at hat ks
            obtain ⟨c0, c1, c2, c3, fit⟩ := hat
            have fa := fit.la
            have fs := fit.ls
            have HS := hidden hs
            have HKS := hidden ks
            have hkl2 : (k : Int) < (l.length : Int) := by omega
            have hnl : n ≤ wr.heap.size := Nat.le_of_lt hgn.lt
            obtain ⟨q, hq⟩ : ∃ q, wr.heap.size = q := ⟨_, rfl⟩
            obtain ⟨wo, hwo⟩ : ∃ wo, wr.alloc (.cells #[.int .u32 (s.at_ : Int), .string ⟨s.data.toArray⟩, .int .u32 (s.size : Int), .int .i64 s.perm] 43) = wo := ⟨_, rfl⟩
            have hbo : Below n w wo := by rw [← hwo]; exact hbel.alloc hnl _
            have hgo : Blk wo n #[.int .u32 (ent : Int), .slice (some ⟨b, off, none⟩) l.length cap] 26 := by rw [← hwo]; exact hgn.later (below_new wr _)
            have hqo : Blk wo q #[.int .u32 (s.at_ : Int), .string ⟨s.data.toArray⟩, .int .u32 (s.size : Int), .int .i64 s.perm] 43 := by rw [← hwo, ← hq]; exact Blk.new wr _ _
            have HBO := hidden hbo
            have HGO := hidden hgo
            have HQO := hidden hqo
            clear hc hbel hs hgn hno fit ks hbo hgo hqo
            go_wp2
            go_loopw [8] (fun x8 wi => ∃ m : Nat, m ≤ k ∧ x8 = .int .i64 (m : Int) ∧ Below n w wi ∧ Blk wi n #[.int .u32 (ent : Int), .slice (some ⟨b, off, none⟩) l.length cap] 26 ∧ Blk wi q #[.int .u32 (s.at_ : Int), .string ⟨s.data.toArray⟩, .int .u32 (s.size : Int), .int .i64 s.perm] 43 ∧ ∀ b, b < m → shareB s (l.getD b nosg) = false) (fun x8 _ => k - (intOf x8).toNat)
            case atStart => exact ⟨0, by omega, rfl, Hid.out HBO, Hid.out HGO, Hid.out HQO, by omega⟩
            case round =>
              obtain ⟨m, hm, rfl, hbi, hfi, hqi, hni⟩ := hrel
              have HBI := hidden hbi
              have HF := hidden hfi
              have HQ := hidden hqi
              have HNI := hidden hni
              by_cases hmk : m < k
              · obtain ⟨b2, off2, e2, hlt2, hc2⟩ := ((Hid.out H).later (by rw [hn]; exact hbi)).at hkl
                cases e2
                obtain ⟨o, ho⟩ : ∃ o, o = l.getD m nosg := ⟨_, rfl⟩
                have hat := hc2 m (by omega)
                have ko := Hid.out HOK m (by omega)
                rw [← ho] at hat ko
                have HO3 := hidden hat
                have HO := hidden ho
                have hmk2 : (m : Int) < (k : Int) := by omega
                have hml : m < l.length := by omega
                have ks := Hid.out HKS
                clear hbi hfi hqi hni hc2 ho hat
                go_upto_region 17 with (fail)
                generalize wr = W7 at HBI HF HQ HO3 hlt2 ⊢
                go_cut [98] from 74 to 98 (fun x98 wx => x98 = .bool (shareB s o) ∧ Below W7.heap.size W7 wx)
                case first =>
                  by_cases c1 : s.at_ / 256 ≤ lastPg o
                  · clear H HB HG HN HE HS HBO HGO HQO HBI HNI HO
                    refine wp_region_on later_below [79, 80, 81, 82, 83, 84, 85, 86, 87, 88, 89, 90, 91, 92, 93, 94, 95, 96, 97, 98] 20 (phiRcT n b off l.length cap m s o) (by kernel_rfl) (by kernel_rfl) rfl rfl (phiRcT_mono n b off l.length cap m s o) ?_ ?_
                    · intro j hj xs w3 hxs hR hpre
                      obtain ⟨x0, x1, x2, x3, x4, x5, x6, x7, x8, x9, x10, x11, x12, x13, x14, x15, x16, x17, x18, x19, rfl⟩ := list20 xs hxs
                      have hq3 : Blk w3 q #[.int .u32 (s.at_ : Int), .string ⟨s.data.toArray⟩, .int .u32 (s.size : Int), .int .i64 s.perm] 43 := (Hid.out HQ).later hR
                      have hf3 : w3.cell? ⟨n, 1, none⟩ = some (.slice (some ⟨b, off, none⟩) l.length cap) := ((Hid.out HF).later hR).cell rfl
                      have ho3 : SegAt w3 b (off + m * 4) o := (Hid.out HO3).later hlt2 hR
                      rcases (show j = 0 ∨ j = 1 ∨ j = 2 ∨ j = 3 ∨ j = 4 ∨ j = 5 ∨ j = 6 ∨ j = 7 ∨ j = 8 ∨ j = 9 ∨ j = 10 ∨ j = 11 ∨ j = 12 ∨ j = 13 ∨ j = 14 ∨ j = 15 ∨ j = 16 ∨ j = 17 ∨ j = 18 ∨ j = 19 by omega) with rfl | rfl | rfl | rfl | rfl | rfl | rfl | rfl | rfl | rfl | rfl | rfl | rfl | rfl | rfl | rfl | rfl | rfl | rfl | rfl
                      · exact wpOp_run (.agg #[.int .u32 (s.at_ : Int), .string ⟨s.data.toArray⟩, .int .u32 (s.size : Int), .int .i64 s.perm]) rfl (by kernel_rfl) (exec_load 43 rfl (by kernel_rfl) w3 (load43 hq3)) ⟨_, by kernel_rfl, rfl, Below.refl _ _⟩
                      · have e0 : x0 = .agg #[.int .u32 (s.at_ : Int), .string ⟨s.data.toArray⟩, .int .u32 (s.size : Int), .int .i64 s.perm] := hpre 0 (by kernel_rfl)
                        subst e0
                        refine wpOp_callR (R := fun u w4 => u = .int .i64 ((s.at_ / 256 : Nat) : Int) ∧ Below w3.heap.size w3 w4) 35 #[.agg #[.int .u32 (s.at_ : Int), .string ⟨s.data.toArray⟩, .int .u32 (s.size : Int), .int .i64 s.perm]] rfl (by kernel_rfl) (by kernel_rfl) ((rfirst_any s ks w3).mono fun e w4 ⟨he, hb⟩ => ⟨_, he, rfl, hb⟩) ?_
                        rintro u w4 ⟨hu, hb4⟩
                        exact ⟨_, by kernel_rfl, hu, hb4⟩
                      · exact wpOp_run (.pointer (some ⟨n, 1, none⟩)) rfl (by kernel_rfl) (by kernel_rfl) ⟨_, by kernel_rfl, rfl, Below.refl _ _⟩
                      · have e2 : x2 = .pointer (some ⟨n, 1, none⟩) := hpre 2 (by kernel_rfl)
                        subst e2
                        exact wpOp_run (.slice (some ⟨b, off, none⟩) l.length cap) rfl (by kernel_rfl) (exec_load 24 rfl (by kernel_rfl) w3 (load23s hf3)) ⟨_, by kernel_rfl, rfl, Below.refl _ _⟩
                      · exact wpOp_run (.int .i64 (m : Int)) rfl (by kernel_rfl) (exec_move rfl (by kernel_rfl) w3) ⟨_, by kernel_rfl, rfl, Below.refl _ _⟩
                      · have e3 : x3 = .slice (some ⟨b, off, none⟩) l.length cap := hpre 3 (by kernel_rfl)
                        subst e3
                        have e4 : x4 = .int .i64 (m : Int) := hpre 4 (by kernel_rfl)
                        subst e4
                        exact wpOp_run (.pointer (some ⟨b, off + m * 4, none⟩)) rfl (by kernel_rfl) (exec_index44 (cap := cap) rfl (by kernel_rfl) (by kernel_rfl) hml w3) ⟨_, by kernel_rfl, rfl, Below.refl _ _⟩
                      · have e5 : x5 = .pointer (some ⟨b, off + m * 4, none⟩) := hpre 5 (by kernel_rfl)
                        subst e5
                        exact wpOp_run (.agg #[.int .u32 (o.at_ : Int), .string ⟨o.data.toArray⟩, .int .u32 (o.size : Int), .int .i64 o.perm]) rfl (by kernel_rfl) (exec_load 43 rfl (by kernel_rfl) w3 (load44at ho3)) ⟨_, by kernel_rfl, rfl, Below.refl _ _⟩
                      · have e6 : x6 = .agg #[.int .u32 (o.at_ : Int), .string ⟨o.data.toArray⟩, .int .u32 (o.size : Int), .int .i64 o.perm] := hpre 6 (by kernel_rfl)
                        subst e6
                        refine wpOp_callR (R := fun u w4 => u = .int .i64 (lastPg o : Int) ∧ Below w3.heap.size w3 w4) 36 #[.agg #[.int .u32 (o.at_ : Int), .string ⟨o.data.toArray⟩, .int .u32 (o.size : Int), .int .i64 o.perm]] rfl (by kernel_rfl) (by kernel_rfl) ((rlast_any o ko w3).mono fun e w4 ⟨he, hb⟩ => ⟨_, he, rfl, hb⟩) ?_
                        rintro u w4 ⟨hu, hb4⟩
                        exact ⟨_, by kernel_rfl, hu, hb4⟩
                      · have e1 : x1 = .int .i64 ((s.at_ / 256 : Nat) : Int) := hpre 1 (by kernel_rfl)
                        subst e1
                        have e7 : x7 = .int .i64 (lastPg o : Int) := hpre 7 (by kernel_rfl)
                        subst e7
                        exact wpOp_run (.bool true) rfl (by kernel_rfl) ((exec_leqI rfl (by kernel_rfl) (by kernel_rfl) w3).trans (by rw [decide_eq_true c1])) ⟨_, by kernel_rfl, rfl, Below.refl _ _⟩
                      · have e8 : x8 = .bool true := hpre 8 (by kernel_rfl)
                        subst e8
                        exact wpOp_run (.bool true) rfl (by kernel_rfl) (exec_move rfl (by kernel_rfl) w3) ⟨_, by kernel_rfl, rfl, Below.refl _ _⟩
                      · have e9 : x9 = .bool true := hpre 9 (by kernel_rfl)
                        subst e9
                        exact wpOp_run (.pointer (some ⟨n, 1, none⟩)) rfl (by kernel_rfl) (by kernel_rfl) ⟨_, by kernel_rfl, rfl, Below.refl _ _⟩
                      · have e9 : x9 = .bool true := hpre 9 (by kernel_rfl)
                        subst e9
                        have e10 : x10 = .pointer (some ⟨n, 1, none⟩) := hpre 10 (by kernel_rfl)
                        subst e10
                        exact wpOp_run (.slice (some ⟨b, off, none⟩) l.length cap) rfl (by kernel_rfl) (exec_load 24 rfl (by kernel_rfl) w3 (load23s hf3)) ⟨_, by kernel_rfl, rfl, Below.refl _ _⟩
                      · have e9 : x9 = .bool true := hpre 9 (by kernel_rfl)
                        subst e9
                        exact wpOp_run (.int .i64 (m : Int)) rfl (by kernel_rfl) (exec_move rfl (by kernel_rfl) w3) ⟨_, by kernel_rfl, rfl, Below.refl _ _⟩
                      · have e9 : x9 = .bool true := hpre 9 (by kernel_rfl)
                        subst e9
                        have e11 : x11 = .slice (some ⟨b, off, none⟩) l.length cap := hpre 11 (by kernel_rfl)
                        subst e11
                        have e12 : x12 = .int .i64 (m : Int) := hpre 12 (by kernel_rfl)
                        subst e12
                        exact wpOp_run (.pointer (some ⟨b, off + m * 4, none⟩)) rfl (by kernel_rfl) (exec_index44 (cap := cap) rfl (by kernel_rfl) (by kernel_rfl) hml w3) ⟨_, by kernel_rfl, rfl, Below.refl _ _⟩
                      · have e9 : x9 = .bool true := hpre 9 (by kernel_rfl)
                        subst e9
                        have e13 : x13 = .pointer (some ⟨b, off + m * 4, none⟩) := hpre 13 (by kernel_rfl)
                        subst e13
                        exact wpOp_run (.agg #[.int .u32 (o.at_ : Int), .string ⟨o.data.toArray⟩, .int .u32 (o.size : Int), .int .i64 o.perm]) rfl (by kernel_rfl) (exec_load 43 rfl (by kernel_rfl) w3 (load44at ho3)) ⟨_, by kernel_rfl, rfl, Below.refl _ _⟩
                      · have e9 : x9 = .bool true := hpre 9 (by kernel_rfl)
                        subst e9
                        have e14 : x14 = .agg #[.int .u32 (o.at_ : Int), .string ⟨o.data.toArray⟩, .int .u32 (o.size : Int), .int .i64 o.perm] := hpre 14 (by kernel_rfl)
                        subst e14
                        refine wpOp_callR (R := fun u w4 => u = .int .i64 ((o.at_ / 256 : Nat) : Int) ∧ Below w3.heap.size w3 w4) 35 #[.agg #[.int .u32 (o.at_ : Int), .string ⟨o.data.toArray⟩, .int .u32 (o.size : Int), .int .i64 o.perm]] rfl (by kernel_rfl) (by kernel_rfl) ((rfirst_any o ko w3).mono fun e w4 ⟨he, hb⟩ => ⟨_, he, rfl, hb⟩) ?_
                        rintro u w4 ⟨hu, hb4⟩
                        exact ⟨_, by kernel_rfl, hu, hb4⟩
                      · have e9 : x9 = .bool true := hpre 9 (by kernel_rfl)
                        subst e9
                        exact wpOp_run (.agg #[.int .u32 (s.at_ : Int), .string ⟨s.data.toArray⟩, .int .u32 (s.size : Int), .int .i64 s.perm]) rfl (by kernel_rfl) (exec_load 43 rfl (by kernel_rfl) w3 (load43 hq3)) ⟨_, by kernel_rfl, rfl, Below.refl _ _⟩
                      · have e9 : x9 = .bool true := hpre 9 (by kernel_rfl)
                        subst e9
                        have e16 : x16 = .agg #[.int .u32 (s.at_ : Int), .string ⟨s.data.toArray⟩, .int .u32 (s.size : Int), .int .i64 s.perm] := hpre 16 (by kernel_rfl)
                        subst e16
                        refine wpOp_callR (R := fun u w4 => u = .int .i64 (lastPg s : Int) ∧ Below w3.heap.size w3 w4) 36 #[.agg #[.int .u32 (s.at_ : Int), .string ⟨s.data.toArray⟩, .int .u32 (s.size : Int), .int .i64 s.perm]] rfl (by kernel_rfl) (by kernel_rfl) ((rlast_any s ks w3).mono fun e w4 ⟨he, hb⟩ => ⟨_, he, rfl, hb⟩) ?_
                        rintro u w4 ⟨hu, hb4⟩
                        exact ⟨_, by kernel_rfl, hu, hb4⟩
                      · have e9 : x9 = .bool true := hpre 9 (by kernel_rfl)
                        subst e9
                        have e15 : x15 = .int .i64 ((o.at_ / 256 : Nat) : Int) := hpre 15 (by kernel_rfl)
                        subst e15
                        have e17 : x17 = .int .i64 (lastPg s : Int) := hpre 17 (by kernel_rfl)
                        subst e17
                        exact wpOp_run (.bool (decide (o.at_ / 256 ≤ lastPg s))) rfl (by kernel_rfl) (exec_leqI rfl (by kernel_rfl) (by kernel_rfl) w3) ⟨_, by kernel_rfl, rfl, Below.refl _ _⟩
                      · have e9 : x9 = .bool true := hpre 9 (by kernel_rfl)
                        subst e9
                        have e18 : x18 = .bool (decide (o.at_ / 256 ≤ lastPg s)) := hpre 18 (by kernel_rfl)
                        subst e18
                        exact wpOp_run (.bool (decide (o.at_ / 256 ≤ lastPg s))) rfl (by kernel_rfl) (by kernel_rfl) ⟨_, by kernel_rfl, rfl, Below.refl _ _⟩
                    · intro xs w3 hxs hR hall
                      obtain ⟨x0, x1, x2, x3, x4, x5, x6, x7, x8, x9, x10, x11, x12, x13, x14, x15, x16, x17, x18, x19, rfl⟩ := list20 xs hxs
                      have e0 : x0 = .agg #[.int .u32 (s.at_ : Int), .string ⟨s.data.toArray⟩, .int .u32 (s.size : Int), .int .i64 s.perm] := hall 0 (by omega)
                      subst e0
                      have e1 : x1 = .int .i64 ((s.at_ / 256 : Nat) : Int) := hall 1 (by omega)
                      subst e1
                      have e2 : x2 = .pointer (some ⟨n, 1, none⟩) := hall 2 (by omega)
                      subst e2
                      have e3 : x3 = .slice (some ⟨b, off, none⟩) l.length cap := hall 3 (by omega)
                      subst e3
                      have e4 : x4 = .int .i64 (m : Int) := hall 4 (by omega)
                      subst e4
                      have e5 : x5 = .pointer (some ⟨b, off + m * 4, none⟩) := hall 5 (by omega)
                      subst e5
                      have e6 : x6 = .agg #[.int .u32 (o.at_ : Int), .string ⟨o.data.toArray⟩, .int .u32 (o.size : Int), .int .i64 o.perm] := hall 6 (by omega)
                      subst e6
                      have e7 : x7 = .int .i64 (lastPg o : Int) := hall 7 (by omega)
                      subst e7
                      have e8 : x8 = .bool true := hall 8 (by omega)
                      subst e8
                      have e9 : x9 = .bool true := hall 9 (by omega)
                      subst e9
                      have e10 : x10 = .pointer (some ⟨n, 1, none⟩) := hall 10 (by omega)
                      subst e10
                      have e11 : x11 = .slice (some ⟨b, off, none⟩) l.length cap := hall 11 (by omega)
                      subst e11
                      have e12 : x12 = .int .i64 (m : Int) := hall 12 (by omega)
                      subst e12
                      have e13 : x13 = .pointer (some ⟨b, off + m * 4, none⟩) := hall 13 (by omega)
                      subst e13
                      have e14 : x14 = .agg #[.int .u32 (o.at_ : Int), .string ⟨o.data.toArray⟩, .int .u32 (o.size : Int), .int .i64 o.perm] := hall 14 (by omega)
                      subst e14
                      have e15 : x15 = .int .i64 ((o.at_ / 256 : Nat) : Int) := hall 15 (by omega)
                      subst e15
                      have e16 : x16 = .agg #[.int .u32 (s.at_ : Int), .string ⟨s.data.toArray⟩, .int .u32 (s.size : Int), .int .i64 s.perm] := hall 16 (by omega)
                      subst e16
                      have e17 : x17 = .int .i64 (lastPg s : Int) := hall 17 (by omega)
                      subst e17
                      have e18 : x18 = .bool (decide (o.at_ / 256 ≤ lastPg s)) := hall 18 (by omega)
                      subst e18
                      have e19 : x19 = .bool (decide (o.at_ / 256 ≤ lastPg s)) := hall 19 (by omega)
                      subst e19
                      have HR := hidden hR
                      clear hall hR hxs
                      simp only [slotsOn, putAll, List.set_cons_succ, List.set_cons_zero]
                      go_wp2
                      go_meet
                      case rel => exact ⟨by unfold shareB; rw [decide_eq_true c1, Bool.true_and], Hid.out HR⟩
                  · clear H HB HG HN HE HS HBO HGO HQO HBI HNI HO
                    refine wp_region_on later_below [79, 80, 81, 82, 83, 84, 85, 86, 87, 88, 89, 90, 91, 92, 93, 94, 95, 96, 97, 98] 20 (phiRcF n b off l.length cap m s o) (by kernel_rfl) (by kernel_rfl) rfl rfl (phiRcF_mono n b off l.length cap m s o) ?_ ?_
                    · intro j hj xs w3 hxs hR hpre
                      obtain ⟨x0, x1, x2, x3, x4, x5, x6, x7, x8, x9, x10, x11, x12, x13, x14, x15, x16, x17, x18, x19, rfl⟩ := list20 xs hxs
                      have hq3 : Blk w3 q #[.int .u32 (s.at_ : Int), .string ⟨s.data.toArray⟩, .int .u32 (s.size : Int), .int .i64 s.perm] 43 := (Hid.out HQ).later hR
                      have hf3 : w3.cell? ⟨n, 1, none⟩ = some (.slice (some ⟨b, off, none⟩) l.length cap) := ((Hid.out HF).later hR).cell rfl
                      have ho3 : SegAt w3 b (off + m * 4) o := (Hid.out HO3).later hlt2 hR
                      rcases (show j = 0 ∨ j = 1 ∨ j = 2 ∨ j = 3 ∨ j = 4 ∨ j = 5 ∨ j = 6 ∨ j = 7 ∨ j = 8 ∨ j = 9 ∨ j = 10 ∨ j = 11 ∨ j = 12 ∨ j = 13 ∨ j = 14 ∨ j = 15 ∨ j = 16 ∨ j = 17 ∨ j = 18 ∨ j = 19 by omega) with rfl | rfl | rfl | rfl | rfl | rfl | rfl | rfl | rfl | rfl | rfl | rfl | rfl | rfl | rfl | rfl | rfl | rfl | rfl | rfl
                      · exact wpOp_run (.agg #[.int .u32 (s.at_ : Int), .string ⟨s.data.toArray⟩, .int .u32 (s.size : Int), .int .i64 s.perm]) rfl (by kernel_rfl) (exec_load 43 rfl (by kernel_rfl) w3 (load43 hq3)) ⟨_, by kernel_rfl, rfl, Below.refl _ _⟩
                      · have e0 : x0 = .agg #[.int .u32 (s.at_ : Int), .string ⟨s.data.toArray⟩, .int .u32 (s.size : Int), .int .i64 s.perm] := hpre 0 (by kernel_rfl)
                        subst e0
                        refine wpOp_callR (R := fun u w4 => u = .int .i64 ((s.at_ / 256 : Nat) : Int) ∧ Below w3.heap.size w3 w4) 35 #[.agg #[.int .u32 (s.at_ : Int), .string ⟨s.data.toArray⟩, .int .u32 (s.size : Int), .int .i64 s.perm]] rfl (by kernel_rfl) (by kernel_rfl) ((rfirst_any s ks w3).mono fun e w4 ⟨he, hb⟩ => ⟨_, he, rfl, hb⟩) ?_
                        rintro u w4 ⟨hu, hb4⟩
                        exact ⟨_, by kernel_rfl, hu, hb4⟩
                      · exact wpOp_run (.pointer (some ⟨n, 1, none⟩)) rfl (by kernel_rfl) (by kernel_rfl) ⟨_, by kernel_rfl, rfl, Below.refl _ _⟩
                      · have e2 : x2 = .pointer (some ⟨n, 1, none⟩) := hpre 2 (by kernel_rfl)
                        subst e2
                        exact wpOp_run (.slice (some ⟨b, off, none⟩) l.length cap) rfl (by kernel_rfl) (exec_load 24 rfl (by kernel_rfl) w3 (load23s hf3)) ⟨_, by kernel_rfl, rfl, Below.refl _ _⟩
                      · exact wpOp_run (.int .i64 (m : Int)) rfl (by kernel_rfl) (exec_move rfl (by kernel_rfl) w3) ⟨_, by kernel_rfl, rfl, Below.refl _ _⟩
                      · have e3 : x3 = .slice (some ⟨b, off, none⟩) l.length cap := hpre 3 (by kernel_rfl)
                        subst e3
                        have e4 : x4 = .int .i64 (m : Int) := hpre 4 (by kernel_rfl)
                        subst e4
                        exact wpOp_run (.pointer (some ⟨b, off + m * 4, none⟩)) rfl (by kernel_rfl) (exec_index44 (cap := cap) rfl (by kernel_rfl) (by kernel_rfl) hml w3) ⟨_, by kernel_rfl, rfl, Below.refl _ _⟩
                      · have e5 : x5 = .pointer (some ⟨b, off + m * 4, none⟩) := hpre 5 (by kernel_rfl)
                        subst e5
                        exact wpOp_run (.agg #[.int .u32 (o.at_ : Int), .string ⟨o.data.toArray⟩, .int .u32 (o.size : Int), .int .i64 o.perm]) rfl (by kernel_rfl) (exec_load 43 rfl (by kernel_rfl) w3 (load44at ho3)) ⟨_, by kernel_rfl, rfl, Below.refl _ _⟩
                      · have e6 : x6 = .agg #[.int .u32 (o.at_ : Int), .string ⟨o.data.toArray⟩, .int .u32 (o.size : Int), .int .i64 o.perm] := hpre 6 (by kernel_rfl)
                        subst e6
                        refine wpOp_callR (R := fun u w4 => u = .int .i64 (lastPg o : Int) ∧ Below w3.heap.size w3 w4) 36 #[.agg #[.int .u32 (o.at_ : Int), .string ⟨o.data.toArray⟩, .int .u32 (o.size : Int), .int .i64 o.perm]] rfl (by kernel_rfl) (by kernel_rfl) ((rlast_any o ko w3).mono fun e w4 ⟨he, hb⟩ => ⟨_, he, rfl, hb⟩) ?_
                        rintro u w4 ⟨hu, hb4⟩
                        exact ⟨_, by kernel_rfl, hu, hb4⟩
                      · have e1 : x1 = .int .i64 ((s.at_ / 256 : Nat) : Int) := hpre 1 (by kernel_rfl)
                        subst e1
                        have e7 : x7 = .int .i64 (lastPg o : Int) := hpre 7 (by kernel_rfl)
                        subst e7
                        exact wpOp_run (.bool false) rfl (by kernel_rfl) ((exec_leqI rfl (by kernel_rfl) (by kernel_rfl) w3).trans (by rw [decide_eq_false c1])) ⟨_, by kernel_rfl, rfl, Below.refl _ _⟩
                      · have e8 : x8 = .bool false := hpre 8 (by kernel_rfl)
                        subst e8
                        exact wpOp_run (.bool false) rfl (by kernel_rfl) (exec_move rfl (by kernel_rfl) w3) ⟨_, by kernel_rfl, rfl, Below.refl _ _⟩
                      · have e9 : x9 = .bool false := hpre 9 (by kernel_rfl)
                        subst e9
                        exact wpOp_skip rfl (by kernel_rfl) ⟨undef, by kernel_rfl, rfl, Below.refl _ _⟩
                      · have e9 : x9 = .bool false := hpre 9 (by kernel_rfl)
                        subst e9
                        exact wpOp_skip rfl (by kernel_rfl) ⟨undef, by kernel_rfl, rfl, Below.refl _ _⟩
                      · have e9 : x9 = .bool false := hpre 9 (by kernel_rfl)
                        subst e9
                        exact wpOp_skip rfl (by kernel_rfl) ⟨undef, by kernel_rfl, rfl, Below.refl _ _⟩
                      · have e9 : x9 = .bool false := hpre 9 (by kernel_rfl)
                        subst e9
                        exact wpOp_skip rfl (by kernel_rfl) ⟨undef, by kernel_rfl, rfl, Below.refl _ _⟩
                      · have e9 : x9 = .bool false := hpre 9 (by kernel_rfl)
                        subst e9
                        exact wpOp_skip rfl (by kernel_rfl) ⟨undef, by kernel_rfl, rfl, Below.refl _ _⟩
                      · have e9 : x9 = .bool false := hpre 9 (by kernel_rfl)
                        subst e9
                        exact wpOp_skip rfl (by kernel_rfl) ⟨undef, by kernel_rfl, rfl, Below.refl _ _⟩
                      · have e9 : x9 = .bool false := hpre 9 (by kernel_rfl)
                        subst e9
                        exact wpOp_skip rfl (by kernel_rfl) ⟨undef, by kernel_rfl, rfl, Below.refl _ _⟩
                      · have e9 : x9 = .bool false := hpre 9 (by kernel_rfl)
                        subst e9
                        exact wpOp_skip rfl (by kernel_rfl) ⟨undef, by kernel_rfl, rfl, Below.refl _ _⟩
                      · have e9 : x9 = .bool false := hpre 9 (by kernel_rfl)
                        subst e9
                        exact wpOp_skip rfl (by kernel_rfl) ⟨undef, by kernel_rfl, rfl, Below.refl _ _⟩
                      · have e9 : x9 = .bool false := hpre 9 (by kernel_rfl)
                        subst e9
                        have e18 : x18 = undef := hpre 18 (by kernel_rfl)
                        subst e18
                        exact wpOp_run (.bool false) rfl (by kernel_rfl) (by kernel_rfl) ⟨_, by kernel_rfl, rfl, Below.refl _ _⟩
                    · intro xs w3 hxs hR hall
                      obtain ⟨x0, x1, x2, x3, x4, x5, x6, x7, x8, x9, x10, x11, x12, x13, x14, x15, x16, x17, x18, x19, rfl⟩ := list20 xs hxs
                      have e0 : x0 = .agg #[.int .u32 (s.at_ : Int), .string ⟨s.data.toArray⟩, .int .u32 (s.size : Int), .int .i64 s.perm] := hall 0 (by omega)
                      subst e0
                      have e1 : x1 = .int .i64 ((s.at_ / 256 : Nat) : Int) := hall 1 (by omega)
                      subst e1
                      have e2 : x2 = .pointer (some ⟨n, 1, none⟩) := hall 2 (by omega)
                      subst e2
                      have e3 : x3 = .slice (some ⟨b, off, none⟩) l.length cap := hall 3 (by omega)
                      subst e3
                      have e4 : x4 = .int .i64 (m : Int) := hall 4 (by omega)
                      subst e4
                      have e5 : x5 = .pointer (some ⟨b, off + m * 4, none⟩) := hall 5 (by omega)
                      subst e5
                      have e6 : x6 = .agg #[.int .u32 (o.at_ : Int), .string ⟨o.data.toArray⟩, .int .u32 (o.size : Int), .int .i64 o.perm] := hall 6 (by omega)
                      subst e6
                      have e7 : x7 = .int .i64 (lastPg o : Int) := hall 7 (by omega)
                      subst e7
                      have e8 : x8 = .bool false := hall 8 (by omega)
                      subst e8
                      have e9 : x9 = .bool false := hall 9 (by omega)
                      subst e9
                      have e10 : x10 = undef := hall 10 (by omega)
                      subst e10
                      have e11 : x11 = undef := hall 11 (by omega)
                      subst e11
                      have e12 : x12 = undef := hall 12 (by omega)
                      subst e12
                      have e13 : x13 = undef := hall 13 (by omega)
                      subst e13
                      have e14 : x14 = undef := hall 14 (by omega)
                      subst e14
                      have e15 : x15 = undef := hall 15 (by omega)
                      subst e15
                      have e16 : x16 = undef := hall 16 (by omega)
                      subst e16
                      have e17 : x17 = undef := hall 17 (by omega)
                      subst e17
                      have e18 : x18 = undef := hall 18 (by omega)
                      subst e18
                      have e19 : x19 = .bool false := hall 19 (by omega)
                      subst e19
                      have HR := hidden hR
                      clear hall hR hxs
                      simp only [slotsOn, putAll, List.set_cons_succ, List.set_cons_zero]
                      go_wp2
                      go_meet
                      case rel => exact ⟨by unfold shareB; rw [decide_eq_false c1, Bool.false_and], Hid.out HR⟩
                case rest =>
                  obtain ⟨rfl, hbw⟩ := hcut
                  have hnW : n ≤ W7.heap.size := Nat.le_of_lt (Hid.out HF).lt
                  have HBX : Hid (Below n w wc) := (Hid.out HBI).trans (hbw.mono hnW)
                  have HFX := hidden ((Hid.out HF).later hbw)
                  have HQX := hidden ((Hid.out HQ).later hbw)
                  clear hbw
                  cases hsh : shareB s o
                  · have HSH := hidden hsh
                    clear hsh
                    go_wp2
                    go_roundw
                    case rel => exact ⟨m + 1, by omega, by simp, Hid.out HBX, Hid.out HFX, Hid.out HQX, fun b hb => by rcases Nat.lt_or_eq_of_le (Nat.le_of_lt_succ hb) with h | h; exact Hid.out HNI b h; rw [h, ← Hid.out HO]; exact Hid.out HSH⟩
                    case measure => simp [intOf]; omega
                  · have HR : Hid (checkE ent l = 11) := by
                      show checkE ent l = 11
                      unfold checkE
                      rw [if_neg h8, if_neg (by rw [all_yes (Hid.out HOK)]; simp), if_pos (over_yes hmk hkl (by rw [← Hid.out HS, ← Hid.out HO]; exact hsh))]
                    clear hsh
                    go_wp2
                    go_ret
                    exact ⟨by rw [Hid.out HR]; rfl, by first | exact Hid.out HBX | (rw [hn]; exact Hid.out HBX)⟩
              · have hmk2 : ¬ (m : Int) < (k : Int) := by omega
                obtain rfl : m = k := by omega
                have r0 : wr.cell? ⟨n, 0, none⟩ = some (.int .u32 (ent : Int)) := hfi.cell rfl
                have s0 : wr.cell? ⟨q, 0, none⟩ = some (.int .u32 (s.at_ : Int)) := hqi.cell rfl
                have s2 : wr.cell? ⟨q, 2, none⟩ = some (.int .u32 (s.size : Int)) := hqi.cell rfl
                have s3 : wr.cell? ⟨q, 3, none⟩ = some (.int .i64 s.perm) := hqi.cell rfl
                have HNN : Hid (∀ a b, b < a → a < m + 1 → shareB (l.getD a nosg) (l.getD b nosg) = false) := by
                  intro a b h1 h2
                  by_cases e : a = m
                  · rw [e, ← Hid.out HS]; exact Hid.out HNI b (by omega)
                  · exact Hid.out HN a b h1 (by omega)
                have HES : Hid (∀ r, runsB ent s = r → (l.take (m + 1)).any (runsB ent) = (eb || r)) := by
                  intro r hr
                  rw [any_snoc ent m l hkl, ← Hid.out HE, ← Hid.out HS, hr]
                have ha1 := and1 s.perm
                have g4 := (ok_size (Hid.out HKS)).2.2.2.1
                clear hbi hfi hqi hni HNI HN c0 c1 c2 c3
                cases eb
                · by_cases p1 : s.perm % 2 = 1
                  · by_cases p2 : s.at_ ≤ ent
                    · have p22 : (s.at_ : Int) ≤ (ent : Int) := by omega
                      by_cases p3 : ent < s.at_ + s.size
                      · have p32 : (ent : Int) < (s.at_ : Int) + (s.size : Int) := by omega
                        have HRR := hidden (Hid.out HES true (by unfold runsB; rw [decide_eq_true p1, decide_eq_true p2, decide_eq_true p3]; rfl))
                        go_wp2
                        go_roundw
                        case rel => exact ⟨m + 1, by omega, by simp, by rw [Hid.out HRR]; first | rfl | simp, Hid.out HBI, Hid.out HF, Hid.out HNN⟩
                        case measure => simp [intOf]; omega
                      · have p32 : ¬ (ent : Int) < (s.at_ : Int) + (s.size : Int) := by omega
                        have HRR := hidden (Hid.out HES false (by unfold runsB; rw [decide_eq_false p3, Bool.and_false]))
                        go_wp2
                        go_roundw
                        case rel => exact ⟨m + 1, by omega, by simp, by rw [Hid.out HRR]; first | rfl | simp, Hid.out HBI, Hid.out HF, Hid.out HNN⟩
                        case measure => simp [intOf]; omega
                    · have p22 : decide ((s.at_ : Int) ≤ (ent : Int)) = false := by simp; omega
                      have HRR := hidden (Hid.out HES false (by unfold runsB; rw [decide_eq_false p2, Bool.and_false, Bool.false_and]))
                      go_wp2
                      go_roundw
                      case rel => exact ⟨m + 1, by omega, by simp, by rw [Hid.out HRR]; first | rfl | simp, Hid.out HBI, Hid.out HF, Hid.out HNN⟩
                      case measure => simp [intOf]; omega
                  · have p12 : s.perm % 2 = 0 := by omega
                    have HRR := hidden (Hid.out HES false (by unfold runsB; rw [decide_eq_false p1, Bool.false_and, Bool.false_and]))
                    clear p1
                    go_wp2
                    go_roundw
                    case rel => exact ⟨m + 1, by omega, by simp, by rw [Hid.out HRR]; first | rfl | simp, Hid.out HBI, Hid.out HF, Hid.out HNN⟩
                    case measure => simp [intOf]; omega
                · have HRR := hidden (Hid.out HES _ rfl)
                  go_wp2
                  go_roundw
                  case rel => exact ⟨m + 1, by omega, by simp, by rw [Hid.out HRR]; first | rfl | simp, Hid.out HBI, Hid.out HF, Hid.out HNN⟩
                  case measure => simp [intOf]; omega
          · have hkl2 : ¬ (k : Int) < (l.length : Int) := by omega
            obtain rfl : k = l.length := by omega
            have HCE : Hid (checkE ent l = if enterB ent l = false then 12 else 0) := by
              show checkE ent l = _
              unfold checkE
              rw [if_neg h8, if_neg (by rw [all_yes (Hid.out HOK)]; simp), if_neg (by rw [over_none (Hid.out HN)]; simp)]
            have HEE : Hid (enterB ent l = (decide (ent % 4 = 0) && eb)) := by
              show enterB ent l = _
              unfold enterB
              rw [Hid.out HE, List.take_of_length_le (Nat.le_refl _)]
            clear hbel hgn hno
            cases eb
            · have HR : Hid (checkE ent l = 12) := by
                show checkE ent l = 12
                rw [Hid.out HCE, Hid.out HEE, Bool.and_false]; rfl
              go_wp2
              go_ret
              exact ⟨by rw [Hid.out HR]; rfl, by first | exact Hid.out HB | (rw [hn]; exact Hid.out HB)⟩
            · by_cases h4 : ent % 4 = 0
              · have h42 : (ent : Int) % 4 = 0 := by omega
                have HR : Hid (checkE ent l = 0) := by
                  show checkE ent l = 0
                  rw [Hid.out HCE, Hid.out HEE, decide_eq_true h4]; rfl
                go_wp2
                go_ret
                exact ⟨by rw [Hid.out HR]; rfl, by first | exact Hid.out HB | (rw [hn]; exact Hid.out HB)⟩
              · have h42 : ¬ (ent : Int) % 4 = 0 := by omega
                have HR : Hid (checkE ent l = 12) := by
                  show checkE ent l = 12
                  rw [Hid.out HCE, Hid.out HEE, decide_eq_false h4]; rfl
                go_wp2
                go_ret
                exact ⟨by rw [Hid.out HR]; rfl, by first | exact Hid.out HB | (rw [hn]; exact Hid.out HB)⟩
end Go.Proofs.Ytjpmagekianpdaa

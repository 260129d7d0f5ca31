/- Chapter 6's own first and last page of a segment. -/
import Derived.Test.YtpknppicamefgaaQMAK
import Derived.Deep.Cut
import Derived.Deep.CutRange
import Derived.Deep.MidRow
import Derived.Test.YtpknppicamefgaaQMAX
namespace Go.Proofs.Ytpknppicamefgaa
open Go.ChangeShapes Go.WideShapes Go.ChangeAt Go.RowKit
set_option maxRecDepth 20000 in
theorem rfirst_any (s : Sg) (h : okB s = true) (w : World) : Calls Try.prog 52 #[.agg #[.int .u32 (s.at_ : Int), .string ⟨s.data.toArray⟩, .int .u32 (s.size : Int), .int .i64 s.perm]] w fun e w' => e = .returned (.int .i64 ((s.at_ / 256 : Nat) : Int)) ∧ Below w.heap.size w w' := by
  obtain ⟨h1, h2, h3, h4, h5, h6⟩ := ok_size h
  obtain ⟨at_, data, size, perm⟩ := s
  clear h
  simp only at h1 h2 h3 h4 h5 h6 ⊢
  go_enter Try.func52, Try.ntmps52
  go_wp2
  go_ret
  exact ⟨ret_int (by omega), (Below.refl _ _).alloc (Nat.le_refl _) _⟩
set_option maxRecDepth 20000 in
theorem rlast_any (s : Sg) (h : okB s = true) (w : World) : Calls Try.prog 53 #[.agg #[.int .u32 (s.at_ : Int), .string ⟨s.data.toArray⟩, .int .u32 (s.size : Int), .int .i64 s.perm]] w fun e w' => e = .returned (.int .i64 (lastPg s : Int)) ∧ Below w.heap.size w w' := by
  obtain ⟨h1, h2, h3, h4, h5, h6⟩ := ok_size h
  unfold lastPg
  obtain ⟨at_, data, size, perm⟩ := s
  clear h
  simp only at h1 h2 h3 h4 h5 h6 ⊢
  go_enter Try.func53, Try.ntmps53
  go_wp2
  go_ret
  exact ⟨ret_int (by omega), (Below.refl _ _).alloc (Nat.le_refl _) _⟩
end Go.Proofs.Ytpknppicamefgaa
namespace Go.Proofs.Ytpknppicamefgaa
open Go.ChangeShapes Go.WideShapes Go.ChangeAt Go.RowKit
set_option linter.unusedVariables false
section
variable {ρ : Operand → Value} {o : Oper}
theorem load23s {w : World} {a : Addr} {v : Value} (hc : w.cell? a = some v) : (loadVar 23 a).run Try.prog w = .ok v w := by
  simp [loadVar, isAgg, Sem.run_bind, run_underlying Try.underlying23, hc, go_sem]
theorem load44at {w : World} {b o : Nat} {s : Sg} (h : SegAt w b o s) : (loadVar 44 ⟨b, o, none⟩).run Try.prog w = .ok (.agg #[.int .u32 (s.at_ : Int), .string ⟨s.data.toArray⟩, .int .u32 (s.size : Int), .int .i64 s.perm]) w :=
  run_loadVar_mid w b o 44 [.int .u32 (s.at_ : Int), .string ⟨s.data.toArray⟩, .int .u32 (s.size : Int), .int .i64 s.perm] _ (fun j v hv => by
    match j, hv with
    | 0, hv => cases hv; exact h.c0
    | 1, hv => cases hv; exact h.c1
    | 2, hv => cases hv; exact h.c2
    | 3, hv => cases hv; exact h.c3
    | j + 4, hv => simp at hv) Try.underlying44 rfl size43
theorem exec_index44 {x y : Operand} {b off n cap k : Nat} (hop : o.op = .indexAddr 23 x y) (hx : ρ x = .slice (some ⟨b, off, none⟩) n cap) (hy : ρ y = .int .i64 (k : Int)) (hk : k < n) (w : World) : (execOp ρ o).run Try.prog w = .ok (.value (.pointer (some ⟨b, off + k * 4, none⟩))) w := by
  have hs := size43
  cases hq : Try.prog.info? 44 with
  | none => simp [hq] at hs
  | some i =>
    have hs2 : i.size = 4 := by simpa [hq] using hs
    unfold execOp
    rw [hop]
    simp [hx, hy, Instr.indexAt, run_underlying Try.underlying23, sizeOf, typeInfo, hq, hs2, hk, Addr.add_lit, go_sem]
theorem exec_leqI {x y : Operand} {a b : Nat} (hop : o.op = .binOp .leq 3 x y 3) (hx : ρ x = .int .i64 (a : Int)) (hy : ρ y = .int .i64 (b : Int)) (w : World) : (execOp ρ o).run Try.prog w = .ok (.value (.bool (decide (a ≤ b)))) w := by
  unfold execOp
  rw [hop]
  simp [hx, hy, go_sem]
end
theorem list20 : ∀ xs : List Value, xs.length = 20 → ∃ x0 x1 x2 x3 x4 x5 x6 x7 x8 x9 x10 x11 x12 x13 x14 x15 x16 x17 x18 x19, xs = [x0, x1, x2, x3, x4, x5, x6, x7, x8, x9, x10, x11, x12, x13, x14, x15, x16, x17, x18, x19]
  | [x0, x1, x2, x3, x4, x5, x6, x7, x8, x9, x10, x11, x12, x13, x14, x15, x16, x17, x18, x19], _ => ⟨_, _, _, _, _, _, _, _, _, _, _, _, _, _, _, _, _, _, _, _, rfl⟩
/-- What the slots of the region hold, whatever the order. -/
def phiRcT (n b off len cap m : Nat) (s o : Sg) : Nat → Value → World → Prop
  | 0, x, _ => x = .agg #[.int .u32 (s.at_ : Int), .string ⟨s.data.toArray⟩, .int .u32 (s.size : Int), .int .i64 s.perm]
  | 1, x, _ => x = .int .i64 ((s.at_ / 256 : Nat) : Int)
  | 2, x, _ => x = .pointer (some ⟨n, 1, none⟩)
  | 3, x, _ => x = .slice (some ⟨b, off, none⟩) len cap
  | 4, x, _ => x = .int .i64 (m : Int)
  | 5, x, _ => x = .pointer (some ⟨b, off + m * 4, none⟩)
  | 6, x, _ => x = .agg #[.int .u32 (o.at_ : Int), .string ⟨o.data.toArray⟩, .int .u32 (o.size : Int), .int .i64 o.perm]
  | 7, x, _ => x = .int .i64 (lastPg o : Int)
  | 8, x, _ => x = .bool true
  | 9, x, _ => x = .bool true
  | 10, x, _ => x = .pointer (some ⟨n, 1, none⟩)
  | 11, x, _ => x = .slice (some ⟨b, off, none⟩) len cap
  | 12, x, _ => x = .int .i64 (m : Int)
  | 13, x, _ => x = .pointer (some ⟨b, off + m * 4, none⟩)
  | 14, x, _ => x = .agg #[.int .u32 (o.at_ : Int), .string ⟨o.data.toArray⟩, .int .u32 (o.size : Int), .int .i64 o.perm]
  | 15, x, _ => x = .int .i64 ((o.at_ / 256 : Nat) : Int)
  | 16, x, _ => x = .agg #[.int .u32 (s.at_ : Int), .string ⟨s.data.toArray⟩, .int .u32 (s.size : Int), .int .i64 s.perm]
  | 17, x, _ => x = .int .i64 (lastPg s : Int)
  | 18, x, _ => x = .bool (decide (o.at_ / 256 ≤ lastPg s))
  | 19, x, _ => x = .bool (decide (o.at_ / 256 ≤ lastPg s))
  | _ + 20, _, _ => True
theorem phiRcT_mono (n b off len cap m : Nat) (s o : Sg) : ∀ i x w w', phiRcT n b off len cap m s o i x w → Below w.heap.size w w' → phiRcT n b off len cap m s o i x w'
  | 0, _, _, _, h, _ => h
  | 1, _, _, _, h, _ => h
  | 2, _, _, _, h, _ => h
  | 3, _, _, _, h, _ => h
  | 4, _, _, _, h, _ => h
  | 5, _, _, _, h, _ => h
  | 6, _, _, _, h, _ => h
  | 7, _, _, _, h, _ => h
  | 8, _, _, _, h, _ => h
  | 9, _, _, _, h, _ => h
  | 10, _, _, _, h, _ => h
  | 11, _, _, _, h, _ => h
  | 12, _, _, _, h, _ => h
  | 13, _, _, _, h, _ => h
  | 14, _, _, _, h, _ => h
  | 15, _, _, _, h, _ => h
  | 16, _, _, _, h, _ => h
  | 17, _, _, _, h, _ => h
  | 18, _, _, _, h, _ => h
  | 19, _, _, _, h, _ => h
  | _ + 20, _, _, _, _, _ => trivial
/-- What the slots of the region hold, whatever the order. -/
def phiRcF (n b off len cap m : Nat) (s o : Sg) : Nat → Value → World → Prop
  | 0, x, _ => x = .agg #[.int .u32 (s.at_ : Int), .string ⟨s.data.toArray⟩, .int .u32 (s.size : Int), .int .i64 s.perm]
  | 1, x, _ => x = .int .i64 ((s.at_ / 256 : Nat) : Int)
  | 2, x, _ => x = .pointer (some ⟨n, 1, none⟩)
  | 3, x, _ => x = .slice (some ⟨b, off, none⟩) len cap
  | 4, x, _ => x = .int .i64 (m : Int)
  | 5, x, _ => x = .pointer (some ⟨b, off + m * 4, none⟩)
  | 6, x, _ => x = .agg #[.int .u32 (o.at_ : Int), .string ⟨o.data.toArray⟩, .int .u32 (o.size : Int), .int .i64 o.perm]
  | 7, x, _ => x = .int .i64 (lastPg o : Int)
  | 8, x, _ => x = .bool false
  | 9, x, _ => x = .bool false
  | 10, x, _ => x = undef
  | 11, x, _ => x = undef
  | 12, x, _ => x = undef
  | 13, x, _ => x = undef
  | 14, x, _ => x = undef
  | 15, x, _ => x = undef
  | 16, x, _ => x = undef
  | 17, x, _ => x = undef
  | 18, x, _ => x = undef
  | 19, x, _ => x = .bool false
  | _ + 20, _, _ => True
theorem phiRcF_mono (n b off len cap m : Nat) (s o : Sg) : ∀ i x w w', phiRcF n b off len cap m s o i x w → Below w.heap.size w w' → phiRcF n b off len cap m s o i x w'
  | 0, _, _, _, h, _ => h
  | 1, _, _, _, h, _ => h
  | 2, _, _, _, h, _ => h
  | 3, _, _, _, h, _ => h
  | 4, _, _, _, h, _ => h
  | 5, _, _, _, h, _ => h
  | 6, _, _, _, h, _ => h
  | 7, _, _, _, h, _ => h
  | 8, _, _, _, h, _ => h
  | 9, _, _, _, h, _ => h
  | 10, _, _, _, h, _ => h
  | 11, _, _, _, h, _ => h
  | 12, _, _, _, h, _ => h
  | 13, _, _, _, h, _ => h
  | 14, _, _, _, h, _ => h
  | 15, _, _, _, h, _ => h
  | 16, _, _, _, h, _ => h
  | 17, _, _, _, h, _ => h
  | 18, _, _, _, h, _ => h
  | 19, _, _, _, h, _ => h
  | _ + 20, _, _, _, _, _ => trivial
theorem over_none {l : List Sg} (h : ∀ a b, b < a → a < l.length → shareB (l.getD a nosg) (l.getD b nosg) = false) : overB l = false := by
  unfold overB
  rw [List.any_eq_false]
  intro a ha
  rw [List.mem_range] at ha
  simp only [Bool.not_eq_true, List.any_eq_false]
  intro b hb
  rw [List.mem_range] at hb
  exact h a b hb ha
theorem any_snoc (e k : Nat) (l : List Sg) (h : k < l.length) : (l.take (k + 1)).any (runsB e) = ((l.take k).any (runsB e) || runsB e (l.getD k nosg)) := by
  rw [List.take_add_one, List.getElem?_eq_getElem h, List.any_append]
  simp [List.getD_eq_getElem?_getD, h]
set_option maxRecDepth 20000 in
set_option maxHeartbeats 8000000 in
theorem rcheck_any (w : World) (ao : Option Addr) (cap ent : Nat) (l : List Sg) (h : Segs w ao l) (hcap : l.length ≤ cap) (hmax : cap ≤ 9223372036854775807) (he : ent < 4294967296) : Calls Try.prog 23 #[.agg #[.int .u32 (ent : Int), .slice ao l.length cap]] w fun e w' => e = .returned (.int .i64 (checkE ent l : Int)) ∧ Below w.heap.size w w' := by
  have H := hidden h
  obtain ⟨n, hn⟩ : ∃ n, w.heap.size = n := ⟨_, rfl⟩
  obtain ⟨wa, hwa⟩ : ∃ wa, w.alloc (.cells #[.int .u32 (ent : Int), .slice ao l.length cap] 25) = wa := ⟨_, rfl⟩
  have hb0 : Below n w wa := by rw [← hwa, ← hn]; exact below_new w _
  have hg0 : Blk wa n #[.int .u32 (ent : Int), .slice ao l.length cap] 25 := by rw [← hwa, ← hn]; exact Blk.new w _ _
  have q1 : wa.cell? ⟨n, 1, none⟩ = some (.slice ao l.length cap) := hg0.cell rfl
  have HB0 := hidden hb0
  have HG0 := hidden hg0
  clear h hb0 hg0
  by_cases h8 : 8 < l.length
  · have h82 : (8 : Int) < (l.length : Int) := by omega
    have HR : Hid (checkE ent l = 2) := by
      show checkE ent l = 2
      unfold checkE
      rw [if_pos h8]
    go_enter Try.func23, Try.ntmps23
    go_wp2
    go_ret
    exact ⟨by rw [Hid.out HR]; rfl, by rw [hn]; exact Hid.out HB0⟩
  · have h82 : ¬ (8 : Int) < (l.length : Int) := by omega
    go_enter Try.func23, Try.ntmps23
    go_wp2
    go_loopw [3] (fun x3 wr => ∃ k : Nat, k ≤ l.length ∧ x3 = .int .i64 (k : Int) ∧ Below n w wr ∧ Blk wr n #[.int .u32 (ent : Int), .slice ao l.length cap] 25 ∧ ∀ a, a < k → okB (l.getD a nosg) = true) (fun x3 _ => l.length - (intOf x3).toNat)
    case atStart => exact ⟨0, by omega, rfl, Hid.out HB0, Hid.out HG0, by omega⟩
    case round =>
      obtain ⟨k, hk, rfl, hbel, hgn, hno⟩ := hrel
      have HB := hidden hbel
      have HG := hidden hgn
      have HN := hidden hno
      have r1 : wr.cell? ⟨n, 1, none⟩ = some (.slice ao l.length cap) := hgn.cell rfl
      by_cases hkl : k < l.length
      · obtain ⟨b, off, rfl, hlt, hc⟩ := ((Hid.out H).later (by rw [hn]; exact hbel)).at hkl
        obtain ⟨s, hs⟩ : ∃ s, s = l.getD k nosg := ⟨_, rfl⟩
        have hat := hc k hkl
        rw [← hs] at hat
        obtain ⟨c0, c1, c2, c3, fit⟩ := hat
        have fa := fit.la
        have fs := fit.ls
        have fd := fit.ld
        have HS := hidden hs
        have hkl2 : (k : Int) < (l.length : Int) := by omega
        have hnl : n ≤ wr.heap.size := Nat.le_of_lt hgn.lt
        have HBO : Hid (∀ o, Below n w (wr.alloc o)) := fun o => hbel.alloc hnl o
        have HGO : Hid (∀ o, Blk (wr.alloc o) n #[.int .u32 (ent : Int), .slice (some ⟨b, off, none⟩) l.length cap] 25) := fun o => hgn.later (below_new wr _)
        have hds : (ByteArray.mk s.data.toArray).size = s.data.length := by simp [ByteArray.size]
        have HNO : Hid (okB s = false → checkE ent l = 10) := by
          intro hf
          unfold checkE
          rw [if_neg h8, if_pos (all_no hkl (by rw [← Hid.out HS]; exact hf))]
        clear hc hbel hs hgn hno fit
        by_cases z0 : s.size = 0
        · have y0 : (s.size : Int) = 0 := by omega
          have HR := hidden (Hid.out HNO (by unfold okB fitsB; simp; omega))
          go_wp2
          go_ret
          exact ⟨by rw [Hid.out HR]; rfl, by first | exact Hid.out HBO _ | (rw [hn]; exact Hid.out HBO _)⟩
        have y0 : ¬ (s.size : Int) = 0 := by omega
        by_cases z1 : 16384 < s.size
        · have y1 : (16384 : Int) < (s.size : Int) := by omega
          have HR := hidden (Hid.out HNO (by unfold okB fitsB; simp; omega))
          go_wp2
          go_ret
          exact ⟨by rw [Hid.out HR]; rfl, by first | exact Hid.out HBO _ | (rw [hn]; exact Hid.out HBO _)⟩
        have y1 : decide ((16384 : Int) < (s.size : Int)) = false := by simp; omega
        by_cases z2 : s.size < s.data.length
        · have y2 : (s.size : Int) < (s.data.length : Int) := by omega
          have HR := hidden (Hid.out HNO (by unfold okB fitsB; simp; omega))
          go_wp2
          go_ret
          exact ⟨by rw [Hid.out HR]; rfl, by first | exact Hid.out HBO _ | (rw [hn]; exact Hid.out HBO _)⟩
        have y2 : decide ((s.size : Int) < (s.data.length : Int)) = false := by simp; omega
        by_cases z3 : 2147483648 < s.at_ + s.size
        · have y3 : (2147483648 : Int) < (s.at_ : Int) + (s.size : Int) := by omega
          have HR := hidden (Hid.out HNO (by unfold okB fitsB; simp; omega))
          go_wp2
          go_ret
          exact ⟨by rw [Hid.out HR]; rfl, by first | exact Hid.out HBO _ | (rw [hn]; exact Hid.out HBO _)⟩
        have y3 : decide ((2147483648 : Int) < (s.at_ : Int) + (s.size : Int)) = false := by simp; omega
        by_cases z4 : s.perm < 0
        · have y4 : s.perm < 0 := by omega
          have HR := hidden (Hid.out HNO (by unfold okB fitsB; simp; omega))
          go_wp2
          go_ret
          exact ⟨by rw [Hid.out HR]; rfl, by first | exact Hid.out HBO _ | (rw [hn]; exact Hid.out HBO _)⟩
        have y4 : decide (s.perm < 0) = false := by simp; omega
        by_cases z5 : 7 < s.perm
        · have y5 : (7 : Int) < s.perm := by omega
          have HR := hidden (Hid.out HNO (by unfold okB fitsB; simp; omega))
          go_wp2
          go_ret
          exact ⟨by rw [Hid.out HR]; rfl, by first | exact Hid.out HBO _ | (rw [hn]; exact Hid.out HBO _)⟩
        have y5 : decide ((7 : Int) < s.perm) = false := by simp; omega
        have HOKS : Hid (okB s = true) := by
          show okB s = true
          unfold okB fitsB
          simp
          omega
        go_wp2
        go_roundw
        case rel => first | exact ⟨k + 1, by omega, by simp, Hid.out HBO _, Hid.out HGO _, upto (P := fun a => okB (l.getD a nosg) = true) (Hid.out HN) (by rw [← Hid.out HS]; exact Hid.out HOKS)⟩ | ((repeat apply Exists.intro); first | exact ⟨⟨k + 1, by omega, by simp, Hid.out HBO _, Hid.out HGO _, upto (P := fun a => okB (l.getD a nosg) = true) (Hid.out HN) (by rw [← Hid.out HS]; exact Hid.out HOKS)⟩, rfl⟩ | exact ⟨⟨k + 1, by omega, by simp, Hid.out HBO _, Hid.out HGO _, upto (P := fun a => okB (l.getD a nosg) = true) (Hid.out HN) (by rw [← Hid.out HS]; exact Hid.out HOKS)⟩, rfl, rfl⟩)
        case measure => simp [intOf]; omega
      · have hkl2 : ¬ (k : Int) < (l.length : Int) := by omega
        obtain rfl : k = l.length := by omega
        have HOK : Hid (∀ j, j < l.length → okB (l.getD j nosg) = true) := hno
        clear hbel hgn hno
        go_wp2
        go_loopw [5, 6] (fun x5 x6 wr => ∃ k : Nat, k ≤ l.length ∧ x6 = .int .i64 (k : Int) ∧ x5 = .bool ((l.take k).any (runsB ent)) ∧ Below n w wr ∧ Blk wr n #[.int .u32 (ent : Int), .slice ao l.length cap] 25 ∧ ∀ a b, b < a → a < k → shareB (l.getD a nosg) (l.getD b nosg) = false) (fun _ x6 _ => l.length - (intOf x6).toNat)
        case atStart => exact ⟨0, by omega, rfl, by simp, Hid.out HB, Hid.out HG, by omega⟩
        case round =>
          obtain ⟨k, hk, rfl, rfl, hbel, hgn, hno⟩ := hrel
          have HB := hidden hbel
          have HG := hidden hgn
          have HN := hidden hno
          have r0 : wr.cell? ⟨n, 0, none⟩ = some (.int .u32 (ent : Int)) := hgn.cell rfl
          have r1 : wr.cell? ⟨n, 1, none⟩ = some (.slice ao l.length cap) := hgn.cell rfl
          obtain ⟨eb, heb⟩ : ∃ eb, eb = (l.take k).any (runsB ent) := ⟨_, rfl⟩
          rw [← heb]
          have HE := hidden heb
          clear heb
          by_cases hkl : k < l.length
          · obtain ⟨b, off, rfl, hlt, hc⟩ := ((Hid.out H).later (by rw [hn]; exact hbel)).at hkl
            obtain ⟨s, hs⟩ : ∃ s, s = l.getD k nosg := ⟨_, rfl⟩
            have hat := hc k hkl
            have ks := Hid.out HOK k hkl
            rw [← hs] at hat ks
            obtain ⟨c0, c1, c2, c3, fit⟩ := hat
            have fa := fit.la
            have fs := fit.ls
            have HS := hidden hs
            have HKS := hidden ks
            have hkl2 : (k : Int) < (l.length : Int) := by omega
            have hnl : n ≤ wr.heap.size := Nat.le_of_lt hgn.lt
            obtain ⟨q, hq⟩ : ∃ q, wr.heap.size = q := ⟨_, rfl⟩
            obtain ⟨wo, hwo⟩ : ∃ wo, wr.alloc (.cells #[.int .u32 (s.at_ : Int), .string ⟨s.data.toArray⟩, .int .u32 (s.size : Int), .int .i64 s.perm] 44) = wo := ⟨_, rfl⟩
            have hbo : Below n w wo := by rw [← hwo]; exact hbel.alloc hnl _
            have hgo : Blk wo n #[.int .u32 (ent : Int), .slice (some ⟨b, off, none⟩) l.length cap] 25 := by rw [← hwo]; exact hgn.later (below_new wr _)
            have hqo : Blk wo q #[.int .u32 (s.at_ : Int), .string ⟨s.data.toArray⟩, .int .u32 (s.size : Int), .int .i64 s.perm] 44 := by rw [← hwo, ← hq]; exact Blk.new wr _ _
            have HBO := hidden hbo
            have HGO := hidden hgo
            have HQO := hidden hqo
            clear hc hbel hs hgn hno fit ks hbo hgo hqo
            go_wp2
            go_loopw [8] (fun x8 wi => ∃ m : Nat, m ≤ k ∧ x8 = .int .i64 (m : Int) ∧ Below n w wi ∧ Blk wi n #[.int .u32 (ent : Int), .slice (some ⟨b, off, none⟩) l.length cap] 25 ∧ Blk wi q #[.int .u32 (s.at_ : Int), .string ⟨s.data.toArray⟩, .int .u32 (s.size : Int), .int .i64 s.perm] 44 ∧ ∀ b, b < m → shareB s (l.getD b nosg) = false) (fun x8 _ => k - (intOf x8).toNat)
            case atStart => exact ⟨0, by omega, rfl, Hid.out HBO, Hid.out HGO, Hid.out HQO, by omega⟩
            case round =>
              obtain ⟨m, hm, rfl, hbi, hfi, hqi, hni⟩ := hrel
              have HBI := hidden hbi
              have HF := hidden hfi
              have HQ := hidden hqi
              have HNI := hidden hni
              by_cases hmk : m < k
              · obtain ⟨b2, off2, e2, hlt2, hc2⟩ := ((Hid.out H).later (by rw [hn]; exact hbi)).at hkl
                cases e2
                obtain ⟨o, ho⟩ : ∃ o, o = l.getD m nosg := ⟨_, rfl⟩
                have hat := hc2 m (by omega)
                have ko := Hid.out HOK m (by omega)
                rw [← ho] at hat ko
                have HO3 := hidden hat
                have HO := hidden ho
                have hmk2 : (m : Int) < (k : Int) := by omega
                have hml : m < l.length := by omega
                have ks := Hid.out HKS
                clear hbi hfi hqi hni hc2 ho hat
                go_upto_region 17 with (fail)
                generalize wr = W7 at HBI HF HQ HO3 hlt2 ⊢
                go_cut [98] from 74 to 98 (fun x98 wx => x98 = .bool (shareB s o) ∧ Below W7.heap.size W7 wx)
                case first =>
                  by_cases c1 : s.at_ / 256 ≤ lastPg o
                  · clear H HB HG HN HE HS HBO HGO HQO HBI HNI HO
                    refine wp_region_on later_below [79, 80, 81, 82, 83, 84, 85, 86, 87, 88, 89, 90, 91, 92, 93, 94, 95, 96, 97, 98] 20 (phiRcT n b off l.length cap m s o) (by kernel_rfl) (by kernel_rfl) rfl rfl (phiRcT_mono n b off l.length cap m s o) ?_ ?_
                    · intro j hj xs w3 hxs hR hpre
                      obtain ⟨x0, x1, x2, x3, x4, x5, x6, x7, x8, x9, x10, x11, x12, x13, x14, x15, x16, x17, x18, x19, rfl⟩ := list20 xs hxs
                      have hq3 : Blk w3 q #[.int .u32 (s.at_ : Int), .string ⟨s.data.toArray⟩, .int .u32 (s.size : Int), .int .i64 s.perm] 44 := (Hid.out HQ).later hR
                      have hf3 : w3.cell? ⟨n, 1, none⟩ = some (.slice (some ⟨b, off, none⟩) l.length cap) := ((Hid.out HF).later hR).cell rfl
                      have ho3 : SegAt w3 b (off + m * 4) o := (Hid.out HO3).later hlt2 hR
                      rcases (show j = 0 ∨ j = 1 ∨ j = 2 ∨ j = 3 ∨ j = 4 ∨ j = 5 ∨ j = 6 ∨ j = 7 ∨ j = 8 ∨ j = 9 ∨ j = 10 ∨ j = 11 ∨ j = 12 ∨ j = 13 ∨ j = 14 ∨ j = 15 ∨ j = 16 ∨ j = 17 ∨ j = 18 ∨ j = 19 by omega) with rfl | rfl | rfl | rfl | rfl | rfl | rfl | rfl | rfl | rfl | rfl | rfl | rfl | rfl | rfl | rfl | rfl | rfl | rfl | rfl
                      · exact wpOp_run (.agg #[.int .u32 (s.at_ : Int), .string ⟨s.data.toArray⟩, .int .u32 (s.size : Int), .int .i64 s.perm]) rfl (by kernel_rfl) (exec_load 44 rfl (by kernel_rfl) w3 (load43 hq3)) ⟨_, by kernel_rfl, rfl, Below.refl _ _⟩
                      · have e0 : x0 = .agg #[.int .u32 (s.at_ : Int), .string ⟨s.data.toArray⟩, .int .u32 (s.size : Int), .int .i64 s.perm] := hpre 0 (by kernel_rfl)
                        subst e0
                        refine wpOp_callR (R := fun u w4 => u = .int .i64 ((s.at_ / 256 : Nat) : Int) ∧ Below w3.heap.size w3 w4) 52 #[.agg #[.int .u32 (s.at_ : Int), .string ⟨s.data.toArray⟩, .int .u32 (s.size : Int), .int .i64 s.perm]] rfl (by kernel_rfl) (by kernel_rfl) ((rfirst_any s ks w3).mono fun e w4 ⟨he, hb⟩ => ⟨_, he, rfl, hb⟩) ?_
                        rintro u w4 ⟨hu, hb4⟩
                        exact ⟨_, by kernel_rfl, hu, hb4⟩
                      · exact wpOp_run (.pointer (some ⟨n, 1, none⟩)) rfl (by kernel_rfl) (by kernel_rfl) ⟨_, by kernel_rfl, rfl, Below.refl _ _⟩
                      · have e2 : x2 = .pointer (some ⟨n, 1, none⟩) := hpre 2 (by kernel_rfl)
                        subst e2
                        exact wpOp_run (.slice (some ⟨b, off, none⟩) l.length cap) rfl (by kernel_rfl) (exec_load 23 rfl (by kernel_rfl) w3 (load23s hf3)) ⟨_, by kernel_rfl, rfl, Below.refl _ _⟩
                      · exact wpOp_run (.int .i64 (m : Int)) rfl (by kernel_rfl) (exec_move rfl (by kernel_rfl) w3) ⟨_, by kernel_rfl, rfl, Below.refl _ _⟩
                      · have e3 : x3 = .slice (some ⟨b, off, none⟩) l.length cap := hpre 3 (by kernel_rfl)
                        subst e3
                        have e4 : x4 = .int .i64 (m : Int) := hpre 4 (by kernel_rfl)
                        subst e4
                        exact wpOp_run (.pointer (some ⟨b, off + m * 4, none⟩)) rfl (by kernel_rfl) (exec_index44 (cap := cap) rfl (by kernel_rfl) (by kernel_rfl) hml w3) ⟨_, by kernel_rfl, rfl, Below.refl _ _⟩
                      · have e5 : x5 = .pointer (some ⟨b, off + m * 4, none⟩) := hpre 5 (by kernel_rfl)
                        subst e5
                        exact wpOp_run (.agg #[.int .u32 (o.at_ : Int), .string ⟨o.data.toArray⟩, .int .u32 (o.size : Int), .int .i64 o.perm]) rfl (by kernel_rfl) (exec_load 44 rfl (by kernel_rfl) w3 (load44at ho3)) ⟨_, by kernel_rfl, rfl, Below.refl _ _⟩
                      · have e6 : x6 = .agg #[.int .u32 (o.at_ : Int), .string ⟨o.data.toArray⟩, .int .u32 (o.size : Int), .int .i64 o.perm] := hpre 6 (by kernel_rfl)
                        subst e6
                        refine wpOp_callR (R := fun u w4 => u = .int .i64 (lastPg o : Int) ∧ Below w3.heap.size w3 w4) 53 #[.agg #[.int .u32 (o.at_ : Int), .string ⟨o.data.toArray⟩, .int .u32 (o.size : Int), .int .i64 o.perm]] rfl (by kernel_rfl) (by kernel_rfl) ((rlast_any o ko w3).mono fun e w4 ⟨he, hb⟩ => ⟨_, he, rfl, hb⟩) ?_
                        rintro u w4 ⟨hu, hb4⟩
                        exact ⟨_, by kernel_rfl, hu, hb4⟩
                      · have e1 : x1 = .int .i64 ((s.at_ / 256 : Nat) : Int) := hpre 1 (by kernel_rfl)
                        subst e1
                        have e7 : x7 = .int .i64 (lastPg o : Int) := hpre 7 (by kernel_rfl)
                        subst e7
                        exact wpOp_run (.bool true) rfl (by kernel_rfl) ((exec_leqI rfl (by kernel_rfl) (by kernel_rfl) w3).trans (by rw [decide_eq_true c1])) ⟨_, by kernel_rfl, rfl, Below.refl _ _⟩
                      · have e8 : x8 = .bool true := hpre 8 (by kernel_rfl)
                        subst e8
                        exact wpOp_run (.bool true) rfl (by kernel_rfl) (exec_move rfl (by kernel_rfl) w3) ⟨_, by kernel_rfl, rfl, Below.refl _ _⟩
                      · have e9 : x9 = .bool true := hpre 9 (by kernel_rfl)
                        subst e9
                        exact wpOp_run (.pointer (some ⟨n, 1, none⟩)) rfl (by kernel_rfl) (by kernel_rfl) ⟨_, by kernel_rfl, rfl, Below.refl _ _⟩
                      · have e9 : x9 = .bool true := hpre 9 (by kernel_rfl)
                        subst e9
                        have e10 : x10 = .pointer (some ⟨n, 1, none⟩) := hpre 10 (by kernel_rfl)
                        subst e10
                        exact wpOp_run (.slice (some ⟨b, off, none⟩) l.length cap) rfl (by kernel_rfl) (exec_load 23 rfl (by kernel_rfl) w3 (load23s hf3)) ⟨_, by kernel_rfl, rfl, Below.refl _ _⟩
                      · have e9 : x9 = .bool true := hpre 9 (by kernel_rfl)
                        subst e9
                        exact wpOp_run (.int .i64 (m : Int)) rfl (by kernel_rfl) (exec_move rfl (by kernel_rfl) w3) ⟨_, by kernel_rfl, rfl, Below.refl _ _⟩
                      · have e9 : x9 = .bool true := hpre 9 (by kernel_rfl)
                        subst e9
                        have e11 : x11 = .slice (some ⟨b, off, none⟩) l.length cap := hpre 11 (by kernel_rfl)
                        subst e11
                        have e12 : x12 = .int .i64 (m : Int) := hpre 12 (by kernel_rfl)
                        subst e12
                        exact wpOp_run (.pointer (some ⟨b, off + m * 4, none⟩)) rfl (by kernel_rfl) (exec_index44 (cap := cap) rfl (by kernel_rfl) (by kernel_rfl) hml w3) ⟨_, by kernel_rfl, rfl, Below.refl _ _⟩
                      · have e9 : x9 = .bool true := hpre 9 (by kernel_rfl)
                        subst e9
                        have e13 : x13 = .pointer (some ⟨b, off + m * 4, none⟩) := hpre 13 (by kernel_rfl)
                        subst e13
                        exact wpOp_run (.agg #[.int .u32 (o.at_ : Int), .string ⟨o.data.toArray⟩, .int .u32 (o.size : Int), .int .i64 o.perm]) rfl (by kernel_rfl) (exec_load 44 rfl (by kernel_rfl) w3 (load44at ho3)) ⟨_, by kernel_rfl, rfl, Below.refl _ _⟩
                      · have e9 : x9 = .bool true := hpre 9 (by kernel_rfl)
                        subst e9
                        have e14 : x14 = .agg #[.int .u32 (o.at_ : Int), .string ⟨o.data.toArray⟩, .int .u32 (o.size : Int), .int .i64 o.perm] := hpre 14 (by kernel_rfl)
                        subst e14
                        refine wpOp_callR (R := fun u w4 => u = .int .i64 ((o.at_ / 256 : Nat) : Int) ∧ Below w3.heap.size w3 w4) 52 #[.agg #[.int .u32 (o.at_ : Int), .string ⟨o.data.toArray⟩, .int .u32 (o.size : Int), .int .i64 o.perm]] rfl (by kernel_rfl) (by kernel_rfl) ((rfirst_any o ko w3).mono fun e w4 ⟨he, hb⟩ => ⟨_, he, rfl, hb⟩) ?_
                        rintro u w4 ⟨hu, hb4⟩
                        exact ⟨_, by kernel_rfl, hu, hb4⟩
                      · have e9 : x9 = .bool true := hpre 9 (by kernel_rfl)
                        subst e9
                        exact wpOp_run (.agg #[.int .u32 (s.at_ : Int), .string ⟨s.data.toArray⟩, .int .u32 (s.size : Int), .int .i64 s.perm]) rfl (by kernel_rfl) (exec_load 44 rfl (by kernel_rfl) w3 (load43 hq3)) ⟨_, by kernel_rfl, rfl, Below.refl _ _⟩
                      · have e9 : x9 = .bool true := hpre 9 (by kernel_rfl)
                        subst e9
                        have e16 : x16 = .agg #[.int .u32 (s.at_ : Int), .string ⟨s.data.toArray⟩, .int .u32 (s.size : Int), .int .i64 s.perm] := hpre 16 (by kernel_rfl)
                        subst e16
                        refine wpOp_callR (R := fun u w4 => u = .int .i64 (lastPg s : Int) ∧ Below w3.heap.size w3 w4) 53 #[.agg #[.int .u32 (s.at_ : Int), .string ⟨s.data.toArray⟩, .int .u32 (s.size : Int), .int .i64 s.perm]] rfl (by kernel_rfl) (by kernel_rfl) ((rlast_any s ks w3).mono fun e w4 ⟨he, hb⟩ => ⟨_, he, rfl, hb⟩) ?_
                        rintro u w4 ⟨hu, hb4⟩
                        exact ⟨_, by kernel_rfl, hu, hb4⟩
                      · have e9 : x9 = .bool true := hpre 9 (by kernel_rfl)
                        subst e9
                        have e15 : x15 = .int .i64 ((o.at_ / 256 : Nat) : Int) := hpre 15 (by kernel_rfl)
                        subst e15
                        have e17 : x17 = .int .i64 (lastPg s : Int) := hpre 17 (by kernel_rfl)
                        subst e17
                        exact wpOp_run (.bool (decide (o.at_ / 256 ≤ lastPg s))) rfl (by kernel_rfl) (exec_leqI rfl (by kernel_rfl) (by kernel_rfl) w3) ⟨_, by kernel_rfl, rfl, Below.refl _ _⟩
                      · have e9 : x9 = .bool true := hpre 9 (by kernel_rfl)
                        subst e9
                        have e18 : x18 = .bool (decide (o.at_ / 256 ≤ lastPg s)) := hpre 18 (by kernel_rfl)
                        subst e18
                        exact wpOp_run (.bool (decide (o.at_ / 256 ≤ lastPg s))) rfl (by kernel_rfl) (by kernel_rfl) ⟨_, by kernel_rfl, rfl, Below.refl _ _⟩
                    · intro xs w3 hxs hR hall
                      obtain ⟨x0, x1, x2, x3, x4, x5, x6, x7, x8, x9, x10, x11, x12, x13, x14, x15, x16, x17, x18, x19, rfl⟩ := list20 xs hxs
                      have e0 : x0 = .agg #[.int .u32 (s.at_ : Int), .string ⟨s.data.toArray⟩, .int .u32 (s.size : Int), .int .i64 s.perm] := hall 0 (by omega)
                      subst e0
                      have e1 : x1 = .int .i64 ((s.at_ / 256 : Nat) : Int) := hall 1 (by omega)
                      subst e1
                      have e2 : x2 = .pointer (some ⟨n, 1, none⟩) := hall 2 (by omega)
                      subst e2
                      have e3 : x3 = .slice (some ⟨b, off, none⟩) l.length cap := hall 3 (by omega)
                      subst e3
                      have e4 : x4 = .int .i64 (m : Int) := hall 4 (by omega)
                      subst e4
                      have e5 : x5 = .pointer (some ⟨b, off + m * 4, none⟩) := hall 5 (by omega)
                      subst e5
                      have e6 : x6 = .agg #[.int .u32 (o.at_ : Int), .string ⟨o.data.toArray⟩, .int .u32 (o.size : Int), .int .i64 o.perm] := hall 6 (by omega)
                      subst e6
                      have e7 : x7 = .int .i64 (lastPg o : Int) := hall 7 (by omega)
                      subst e7
                      have e8 : x8 = .bool true := hall 8 (by omega)
                      subst e8
                      have e9 : x9 = .bool true := hall 9 (by omega)
                      subst e9
                      have e10 : x10 = .pointer (some ⟨n, 1, none⟩) := hall 10 (by omega)
                      subst e10
                      have e11 : x11 = .slice (some ⟨b, off, none⟩) l.length cap := hall 11 (by omega)
                      subst e11
                      have e12 : x12 = .int .i64 (m : Int) := hall 12 (by omega)
                      subst e12
                      have e13 : x13 = .pointer (some ⟨b, off + m * 4, none⟩) := hall 13 (by omega)
                      subst e13
                      have e14 : x14 = .agg #[.int .u32 (o.at_ : Int), .string ⟨o.data.toArray⟩, .int .u32 (o.size : Int), .int .i64 o.perm] := hall 14 (by omega)
                      subst e14
                      have e15 : x15 = .int .i64 ((o.at_ / 256 : Nat) : Int) := hall 15 (by omega)
                      subst e15
                      have e16 : x16 = .agg #[.int .u32 (s.at_ : Int), .string ⟨s.data.toArray⟩, .int .u32 (s.size : Int), .int .i64 s.perm] := hall 16 (by omega)
                      subst e16
                      have e17 : x17 = .int .i64 (lastPg s : Int) := hall 17 (by omega)
                      subst e17
                      have e18 : x18 = .bool (decide (o.at_ / 256 ≤ lastPg s)) := hall 18 (by omega)
                      subst e18
                      have e19 : x19 = .bool (decide (o.at_ / 256 ≤ lastPg s)) := hall 19 (by omega)
                      subst e19
                      have HR := hidden hR
                      clear hall hR hxs
                      simp only [slotsOn, putAll, List.set_cons_succ, List.set_cons_zero]
                      go_wp2
                      go_meet
                      case rel => exact ⟨by unfold shareB; rw [decide_eq_true c1, Bool.true_and], Hid.out HR⟩
                  · clear H HB HG HN HE HS HBO HGO HQO HBI HNI HO
                    refine wp_region_on later_below [79, 80, 81, 82, 83, 84, 85, 86, 87, 88, 89, 90, 91, 92, 93, 94, 95, 96, 97, 98] 20 (phiRcF n b off l.length cap m s o) (by kernel_rfl) (by kernel_rfl) rfl rfl (phiRcF_mono n b off l.length cap m s o) ?_ ?_
                    · intro j hj xs w3 hxs hR hpre
                      obtain ⟨x0, x1, x2, x3, x4, x5, x6, x7, x8, x9, x10, x11, x12, x13, x14, x15, x16, x17, x18, x19, rfl⟩ := list20 xs hxs
                      have hq3 : Blk w3 q #[.int .u32 (s.at_ : Int), .string ⟨s.data.toArray⟩, .int .u32 (s.size : Int), .int .i64 s.perm] 44 := (Hid.out HQ).later hR
                      have hf3 : w3.cell? ⟨n, 1, none⟩ = some (.slice (some ⟨b, off, none⟩) l.length cap) := ((Hid.out HF).later hR).cell rfl
                      have ho3 : SegAt w3 b (off + m * 4) o := (Hid.out HO3).later hlt2 hR
                      rcases (show j = 0 ∨ j = 1 ∨ j = 2 ∨ j = 3 ∨ j = 4 ∨ j = 5 ∨ j = 6 ∨ j = 7 ∨ j = 8 ∨ j = 9 ∨ j = 10 ∨ j = 11 ∨ j = 12 ∨ j = 13 ∨ j = 14 ∨ j = 15 ∨ j = 16 ∨ j = 17 ∨ j = 18 ∨ j = 19 by omega) with rfl | rfl | rfl | rfl | rfl | rfl | rfl | rfl | rfl | rfl | rfl | rfl | rfl | rfl | rfl | rfl | rfl | rfl | rfl | rfl
                      · exact wpOp_run (.agg #[.int .u32 (s.at_ : Int), .string ⟨s.data.toArray⟩, .int .u32 (s.size : Int), .int .i64 s.perm]) rfl (by kernel_rfl) (exec_load 44 rfl (by kernel_rfl) w3 (load43 hq3)) ⟨_, by kernel_rfl, rfl, Below.refl _ _⟩
                      · have e0 : x0 = .agg #[.int .u32 (s.at_ : Int), .string ⟨s.data.toArray⟩, .int .u32 (s.size : Int), .int .i64 s.perm] := hpre 0 (by kernel_rfl)
                        subst e0
                        refine wpOp_callR (R := fun u w4 => u = .int .i64 ((s.at_ / 256 : Nat) : Int) ∧ Below w3.heap.size w3 w4) 52 #[.agg #[.int .u32 (s.at_ : Int), .string ⟨s.data.toArray⟩, .int .u32 (s.size : Int), .int .i64 s.perm]] rfl (by kernel_rfl) (by kernel_rfl) ((rfirst_any s ks w3).mono fun e w4 ⟨he, hb⟩ => ⟨_, he, rfl, hb⟩) ?_
                        rintro u w4 ⟨hu, hb4⟩
                        exact ⟨_, by kernel_rfl, hu, hb4⟩
                      · exact wpOp_run (.pointer (some ⟨n, 1, none⟩)) rfl (by kernel_rfl) (by kernel_rfl) ⟨_, by kernel_rfl, rfl, Below.refl _ _⟩
                      · have e2 : x2 = .pointer (some ⟨n, 1, none⟩) := hpre 2 (by kernel_rfl)
                        subst e2
                        exact wpOp_run (.slice (some ⟨b, off, none⟩) l.length cap) rfl (by kernel_rfl) (exec_load 23 rfl (by kernel_rfl) w3 (load23s hf3)) ⟨_, by kernel_rfl, rfl, Below.refl _ _⟩
                      · exact wpOp_run (.int .i64 (m : Int)) rfl (by kernel_rfl) (exec_move rfl (by kernel_rfl) w3) ⟨_, by kernel_rfl, rfl, Below.refl _ _⟩
                      · have e3 : x3 = .slice (some ⟨b, off, none⟩) l.length cap := hpre 3 (by kernel_rfl)
                        subst e3
                        have e4 : x4 = .int .i64 (m : Int) := hpre 4 (by kernel_rfl)
                        subst e4
                        exact wpOp_run (.pointer (some ⟨b, off + m * 4, none⟩)) rfl (by kernel_rfl) (exec_index44 (cap := cap) rfl (by kernel_rfl) (by kernel_rfl) hml w3) ⟨_, by kernel_rfl, rfl, Below.refl _ _⟩
                      · have e5 : x5 = .pointer (some ⟨b, off + m * 4, none⟩) := hpre 5 (by kernel_rfl)
                        subst e5
                        exact wpOp_run (.agg #[.int .u32 (o.at_ : Int), .string ⟨o.data.toArray⟩, .int .u32 (o.size : Int), .int .i64 o.perm]) rfl (by kernel_rfl) (exec_load 44 rfl (by kernel_rfl) w3 (load44at ho3)) ⟨_, by kernel_rfl, rfl, Below.refl _ _⟩
                      · have e6 : x6 = .agg #[.int .u32 (o.at_ : Int), .string ⟨o.data.toArray⟩, .int .u32 (o.size : Int), .int .i64 o.perm] := hpre 6 (by kernel_rfl)
                        subst e6
                        refine wpOp_callR (R := fun u w4 => u = .int .i64 (lastPg o : Int) ∧ Below w3.heap.size w3 w4) 53 #[.agg #[.int .u32 (o.at_ : Int), .string ⟨o.data.toArray⟩, .int .u32 (o.size : Int), .int .i64 o.perm]] rfl (by kernel_rfl) (by kernel_rfl) ((rlast_any o ko w3).mono fun e w4 ⟨he, hb⟩ => ⟨_, he, rfl, hb⟩) ?_
                        rintro u w4 ⟨hu, hb4⟩
                        exact ⟨_, by kernel_rfl, hu, hb4⟩
                      · have e1 : x1 = .int .i64 ((s.at_ / 256 : Nat) : Int) := hpre 1 (by kernel_rfl)
                        subst e1
                        have e7 : x7 = .int .i64 (lastPg o : Int) := hpre 7 (by kernel_rfl)
                        subst e7
                        exact wpOp_run (.bool false) rfl (by kernel_rfl) ((exec_leqI rfl (by kernel_rfl) (by kernel_rfl) w3).trans (by rw [decide_eq_false c1])) ⟨_, by kernel_rfl, rfl, Below.refl _ _⟩
                      · have e8 : x8 = .bool false := hpre 8 (by kernel_rfl)
                        subst e8
                        exact wpOp_run (.bool false) rfl (by kernel_rfl) (exec_move rfl (by kernel_rfl) w3) ⟨_, by kernel_rfl, rfl, Below.refl _ _⟩
                      · have e9 : x9 = .bool false := hpre 9 (by kernel_rfl)
                        subst e9
                        exact wpOp_skip rfl (by kernel_rfl) ⟨undef, by kernel_rfl, rfl, Below.refl _ _⟩
                      · have e9 : x9 = .bool false := hpre 9 (by kernel_rfl)
                        subst e9
                        exact wpOp_skip rfl (by kernel_rfl) ⟨undef, by kernel_rfl, rfl, Below.refl _ _⟩
                      · have e9 : x9 = .bool false := hpre 9 (by kernel_rfl)
                        subst e9
                        exact wpOp_skip rfl (by kernel_rfl) ⟨undef, by kernel_rfl, rfl, Below.refl _ _⟩
                      · have e9 : x9 = .bool false := hpre 9 (by kernel_rfl)
                        subst e9
                        exact wpOp_skip rfl (by kernel_rfl) ⟨undef, by kernel_rfl, rfl, Below.refl _ _⟩
                      · have e9 : x9 = .bool false := hpre 9 (by kernel_rfl)
                        subst e9
                        exact wpOp_skip rfl (by kernel_rfl) ⟨undef, by kernel_rfl, rfl, Below.refl _ _⟩
                      · have e9 : x9 = .bool false := hpre 9 (by kernel_rfl)
                        subst e9
                        exact wpOp_skip rfl (by kernel_rfl) ⟨undef, by kernel_rfl, rfl, Below.refl _ _⟩
                      · have e9 : x9 = .bool false := hpre 9 (by kernel_rfl)
                        subst e9
                        exact wpOp_skip rfl (by kernel_rfl) ⟨undef, by kernel_rfl, rfl, Below.refl _ _⟩
                      · have e9 : x9 = .bool false := hpre 9 (by kernel_rfl)
                        subst e9
                        exact wpOp_skip rfl (by kernel_rfl) ⟨undef, by kernel_rfl, rfl, Below.refl _ _⟩
                      · have e9 : x9 = .bool false := hpre 9 (by kernel_rfl)
                        subst e9
                        exact wpOp_skip rfl (by kernel_rfl) ⟨undef, by kernel_rfl, rfl, Below.refl _ _⟩
                      · have e9 : x9 = .bool false := hpre 9 (by kernel_rfl)
                        subst e9
                        have e18 : x18 = undef := hpre 18 (by kernel_rfl)
                        subst e18
                        exact wpOp_run (.bool false) rfl (by kernel_rfl) (by kernel_rfl) ⟨_, by kernel_rfl, rfl, Below.refl _ _⟩
                    · intro xs w3 hxs hR hall
                      obtain ⟨x0, x1, x2, x3, x4, x5, x6, x7, x8, x9, x10, x11, x12, x13, x14, x15, x16, x17, x18, x19, rfl⟩ := list20 xs hxs
                      have e0 : x0 = .agg #[.int .u32 (s.at_ : Int), .string ⟨s.data.toArray⟩, .int .u32 (s.size : Int), .int .i64 s.perm] := hall 0 (by omega)
                      subst e0
                      have e1 : x1 = .int .i64 ((s.at_ / 256 : Nat) : Int) := hall 1 (by omega)
                      subst e1
                      have e2 : x2 = .pointer (some ⟨n, 1, none⟩) := hall 2 (by omega)
                      subst e2
                      have e3 : x3 = .slice (some ⟨b, off, none⟩) l.length cap := hall 3 (by omega)
                      subst e3
                      have e4 : x4 = .int .i64 (m : Int) := hall 4 (by omega)
                      subst e4
                      have e5 : x5 = .pointer (some ⟨b, off + m * 4, none⟩) := hall 5 (by omega)
                      subst e5
                      have e6 : x6 = .agg #[.int .u32 (o.at_ : Int), .string ⟨o.data.toArray⟩, .int .u32 (o.size : Int), .int .i64 o.perm] := hall 6 (by omega)
                      subst e6
                      have e7 : x7 = .int .i64 (lastPg o : Int) := hall 7 (by omega)
                      subst e7
                      have e8 : x8 = .bool false := hall 8 (by omega)
                      subst e8
                      have e9 : x9 = .bool false := hall 9 (by omega)
                      subst e9
                      have e10 : x10 = undef := hall 10 (by omega)
                      subst e10
                      have e11 : x11 = undef := hall 11 (by omega)
                      subst e11
                      have e12 : x12 = undef := hall 12 (by omega)
                      subst e12
                      have e13 : x13 = undef := hall 13 (by omega)
                      subst e13
                      have e14 : x14 = undef := hall 14 (by omega)
                      subst e14
                      have e15 : x15 = undef := hall 15 (by omega)
                      subst e15
                      have e16 : x16 = undef := hall 16 (by omega)
                      subst e16
                      have e17 : x17 = undef := hall 17 (by omega)
                      subst e17
                      have e18 : x18 = undef := hall 18 (by omega)
                      subst e18
                      have e19 : x19 = .bool false := hall 19 (by omega)
                      subst e19
                      have HR := hidden hR
                      clear hall hR hxs
                      simp only [slotsOn, putAll, List.set_cons_succ, List.set_cons_zero]
                      go_wp2
                      go_meet
                      case rel => exact ⟨by unfold shareB; rw [decide_eq_false c1, Bool.false_and], Hid.out HR⟩
                case rest =>
                  obtain ⟨rfl, hbw⟩ := hcut
                  have hnW : n ≤ W7.heap.size := Nat.le_of_lt (Hid.out HF).lt
                  have HBX : Hid (Below n w wc) := (Hid.out HBI).trans (hbw.mono hnW)
                  have HFX := hidden ((Hid.out HF).later hbw)
                  have HQX := hidden ((Hid.out HQ).later hbw)
                  clear hbw
                  cases hsh : shareB s o
                  · have HSH := hidden hsh
                    clear hsh
                    go_wp2
                    go_roundw
                    case rel => exact ⟨m + 1, by omega, by simp, Hid.out HBX, Hid.out HFX, Hid.out HQX, fun b hb => by rcases Nat.lt_or_eq_of_le (Nat.le_of_lt_succ hb) with h | h; exact Hid.out HNI b h; rw [h, ← Hid.out HO]; exact Hid.out HSH⟩
                    case measure => simp [intOf]; omega
                  · have HR : Hid (checkE ent l = 11) := by
                      show checkE ent l = 11
                      unfold checkE
                      rw [if_neg h8, if_neg (by rw [all_yes (Hid.out HOK)]; simp), if_pos (over_yes hmk hkl (by rw [← Hid.out HS, ← Hid.out HO]; exact hsh))]
                    clear hsh
                    go_wp2
                    go_ret
                    exact ⟨by rw [Hid.out HR]; rfl, by first | exact Hid.out HBX | (rw [hn]; exact Hid.out HBX)⟩
              · have hmk2 : ¬ (m : Int) < (k : Int) := by omega
                obtain rfl : m = k := by omega
                have r0 : wr.cell? ⟨n, 0, none⟩ = some (.int .u32 (ent : Int)) := hfi.cell rfl
                have s0 : wr.cell? ⟨q, 0, none⟩ = some (.int .u32 (s.at_ : Int)) := hqi.cell rfl
                have s2 : wr.cell? ⟨q, 2, none⟩ = some (.int .u32 (s.size : Int)) := hqi.cell rfl
                have s3 : wr.cell? ⟨q, 3, none⟩ = some (.int .i64 s.perm) := hqi.cell rfl
                have HNN : Hid (∀ a b, b < a → a < m + 1 → shareB (l.getD a nosg) (l.getD b nosg) = false) := by
                  intro a b h1 h2
                  by_cases e : a = m
                  · rw [e, ← Hid.out HS]; exact Hid.out HNI b (by omega)
                  · exact Hid.out HN a b h1 (by omega)
                have HES : Hid (∀ r, runsB ent s = r → (l.take (m + 1)).any (runsB ent) = (eb || r)) := by
                  intro r hr
                  rw [any_snoc ent m l hkl, ← Hid.out HE, ← Hid.out HS, hr]
                have ha1 := and1 s.perm
                have g4 := (ok_size (Hid.out HKS)).2.2.2.1
                clear hbi hfi hqi hni HNI HN c0 c1 c2 c3
                cases eb
                · by_cases p1 : s.perm % 2 = 1
                  · by_cases p2 : s.at_ ≤ ent
                    · have p22 : (s.at_ : Int) ≤ (ent : Int) := by omega
                      by_cases p3 : ent < s.at_ + s.size
                      · have p32 : (ent : Int) < (s.at_ : Int) + (s.size : Int) := by omega
                        have HRR := hidden (Hid.out HES true (by unfold runsB; rw [decide_eq_true p1, decide_eq_true p2, decide_eq_true p3]; rfl))
                        go_wp2
                        go_roundw
                        case rel => exact ⟨m + 1, by omega, by simp, by rw [Hid.out HRR]; first | rfl | simp, Hid.out HBI, Hid.out HF, Hid.out HNN⟩
                        case measure => simp [intOf]; omega
                      · have p32 : ¬ (ent : Int) < (s.at_ : Int) + (s.size : Int) := by omega
                        have HRR := hidden (Hid.out HES false (by unfold runsB; rw [decide_eq_false p3, Bool.and_false]))
                        go_wp2
                        go_roundw
                        case rel => exact ⟨m + 1, by omega, by simp, by rw [Hid.out HRR]; first | rfl | simp, Hid.out HBI, Hid.out HF, Hid.out HNN⟩
                        case measure => simp [intOf]; omega
                    · have p22 : decide ((s.at_ : Int) ≤ (ent : Int)) = false := by simp; omega
                      have HRR := hidden (Hid.out HES false (by unfold runsB; rw [decide_eq_false p2, Bool.and_false, Bool.false_and]))
                      go_wp2
                      go_roundw
                      case rel => exact ⟨m + 1, by omega, by simp, by rw [Hid.out HRR]; first | rfl | simp, Hid.out HBI, Hid.out HF, Hid.out HNN⟩
                      case measure => simp [intOf]; omega
                  · have p12 : s.perm % 2 = 0 := by omega
                    have HRR := hidden (Hid.out HES false (by unfold runsB; rw [decide_eq_false p1, Bool.false_and, Bool.false_and]))
                    clear p1
                    go_wp2
                    go_roundw
                    case rel => exact ⟨m + 1, by omega, by simp, by rw [Hid.out HRR]; first | rfl | simp, Hid.out HBI, Hid.out HF, Hid.out HNN⟩
                    case measure => simp [intOf]; omega
                · have HRR := hidden (Hid.out HES _ rfl)
                  go_wp2
                  go_roundw
                  case rel => exact ⟨m + 1, by omega, by simp, by rw [Hid.out HRR]; first | rfl | simp, Hid.out HBI, Hid.out HF, Hid.out HNN⟩
                  case measure => simp [intOf]; omega
          · have hkl2 : ¬ (k : Int) < (l.length : Int) := by omega
            obtain rfl : k = l.length := by omega
            have HCE : Hid (checkE ent l = if enterB ent l = false then 12 else 0) := by
              show checkE ent l = _
              unfold checkE
              rw [if_neg h8, if_neg (by rw [all_yes (Hid.out HOK)]; simp), if_neg (by rw [over_none (Hid.out HN)]; simp)]
            have HEE : Hid (enterB ent l = (decide (ent % 4 = 0) && eb)) := by
              show enterB ent l = _
              unfold enterB
              rw [Hid.out HE, List.take_of_length_le (Nat.le_refl _)]
            clear hbel hgn hno
            cases eb
            · have HR : Hid (checkE ent l = 12) := by
                show checkE ent l = 12
                rw [Hid.out HCE, Hid.out HEE, Bool.and_false]; rfl
              go_wp2
              go_ret
              exact ⟨by rw [Hid.out HR]; rfl, by first | exact Hid.out HB | (rw [hn]; exact Hid.out HB)⟩
            · by_cases h4 : ent % 4 = 0
              · have h42 : (ent : Int) % 4 = 0 := by omega
                have HR : Hid (checkE ent l = 0) := by
                  show checkE ent l = 0
                  rw [Hid.out HCE, Hid.out HEE, decide_eq_true h4]; rfl
                go_wp2
                go_ret
                exact ⟨by rw [Hid.out HR]; rfl, by first | exact Hid.out HB | (rw [hn]; exact Hid.out HB)⟩
              · have h42 : ¬ (ent : Int) % 4 = 0 := by omega
                have HR : Hid (checkE ent l = 12) := by
                  show checkE ent l = 12
                  rw [Hid.out HCE, Hid.out HEE, decide_eq_false h4]; rfl
                go_wp2
                go_ret
                exact ⟨by rw [Hid.out HR]; rfl, by first | exact Hid.out HB | (rw [hn]; exact Hid.out HB)⟩
end Go.Proofs.Ytpknppicamefgaa
namespace Go.Proofs.Ytpknppicamefgaa
open Go.ChangeShapes Go.WideShapes Go.ChangeAt Go.RowKit
set_option linter.unusedVariables false
theorem check_facts {ent : Nat} {l : List Sg} (h : checkE ent l = 0) : l.length ≤ 8 ∧ (∀ k, k < l.length → okB (l.getD k nosg) = true) ∧ overB l = false ∧ enterB ent l = true := by
  unfold checkE at h
  by_cases h1 : 8 < l.length
  · rw [if_pos h1] at h; omega
  · rw [if_neg h1] at h
    by_cases h2 : l.all okB = false
    · rw [if_pos h2] at h; omega
    · rw [if_neg h2] at h
      by_cases h3 : overB l = true
      · rw [if_pos h3] at h; omega
      · rw [if_neg h3] at h
        by_cases h4 : enterB ent l = false
        · rw [if_pos h4] at h; omega
        · refine ⟨by omega, fun k hk => ?_, by simpa using h3, by simpa using h4⟩
          have ha : l.all okB = true := by simpa using h2
          rw [List.all_eq_true] at ha
          have e : l.getD k nosg = l[k] := by simp [List.getD_eq_getElem?_getD, hk]
          rw [e]
          exact ha _ (List.getElem_mem hk)
theorem enter_small {ent : Nat} {l : List Sg} (h : checkE ent l = 0) : ent ≤ 2147483648 := by
  obtain ⟨_, h2, _, h4⟩ := check_facts h
  unfold enterB at h4
  rw [Bool.and_eq_true, List.any_eq_true] at h4
  obtain ⟨_, g, hg, hr⟩ := h4
  obtain ⟨k, hk, e⟩ := List.getElem_of_mem hg
  have h5 := h2 k hk
  have e2 : l.getD k nosg = l[k] := by simp [List.getD_eq_getElem?_getD, hk]
  rw [e2, e] at h5
  have := ok_size h5
  simp only [runsB, Bool.and_eq_true, decide_eq_true_eq] at hr
  omega
/-- What Load answers. -/
def LoadSays (w : World) (ent : Nat) (l : List Sg) (z : Int) (e : Ending) (w' : World) : Prop :=
  (checkE ent l ≠ 0 ∧ e = .returned (.tuple #[.pointer none, .agg (stC 0 0 0), .int .i64 (checkE ent l : Int)]) ∧ Below w.heap.size w w') ∨
  (checkE ent l = 0 ∧ allKs (cutMost z) l = none ∧ e = .returned (.tuple #[.pointer none, .agg (stC 0 0 0), .int .i64 2]) ∧ Below w.heap.size w w') ∨
  (checkE ent l = 0 ∧ ∃ s, e = .returned (.tuple #[.pointer (some ⟨s.mb, 0, none⟩), .agg (stC 2147479536 (ent : Int) ((ent : Int) + 4)), .int .i64 0]) ∧ Loaded w w' (cutMost z) l s)
theorem Own.back {u v w : World} {s : MS} (h : Own v w s) (hb : Below u.heap.size u v) : Own u w s :=
  ⟨h.mem, hb.trans (h.below.mono hb.size), fun b hf => Nat.le_trans hb.size (h.foot b hf)⟩
theorem Loaded.back {u v w : World} {mo : Nat} {l : List Sg} {s : MS} (h : Loaded v w mo l s) (hb : Below u.heap.size u v) : Loaded u w mo l s := ⟨h.own.back hb, h.most, h.ks, h.abs, h.ts⟩
theorem own_only {u w w' : World} {s : MS} {g : Nat} (h : Own u w s) (ho : Only g w w') (hg : u.heap.size ≤ g) (hf : ¬ foot s g) : Own u w' s :=
  ⟨h.mem.keep (Keep.of_only ho) fun b hb e => hf (e ▸ hb), only_below h.below ho hg, h.foot⟩
set_option maxRecDepth 20000 in
set_option maxHeartbeats 2000000 in
theorem load_no (w : World) (ao : Option Addr) (cap ent : Nat) (l : List Sg) (z : Int) (h : Segs w ao l) (hcap : l.length ≤ cap) (hmax : cap ≤ 9223372036854775807) (he : ent < 4294967296) (hc : checkE ent l ≠ 0) : Calls Try.prog 9 #[.agg #[.int .u32 (ent : Int), .slice ao l.length cap], .int .i64 z] w (LoadSays w ent l z) := by
  obtain ⟨n, hn⟩ : ∃ n, w.heap.size = n := ⟨_, rfl⟩
  obtain ⟨wa, hwa⟩ : ∃ wa, w.alloc (.cells #[.int .u32 (ent : Int), .slice ao l.length cap] 25) = wa := ⟨_, rfl⟩
  have hba : Below n w wa := by rw [← hwa, ← hn]; exact below_new w _
  have hka : Blk wa n #[.int .u32 (ent : Int), .slice ao l.length cap] 25 := by rw [← hwa, ← hn]; exact Blk.new w _ _
  have hsa : wa.heap.size = n + 1 := by rw [← hwa]; simp [hn]
  have H15 : Hid (∀ w1, Blk w1 (n + 1) (stC 0 0 0) 31 → w1.heap.size = n + 1 + 1 → Below (n + 1) wa w1 → w1.cell? ⟨n, 0, none⟩ = some (.int .u32 (ent : Int)) ∧ w1.cell? ⟨n, 1, none⟩ = some (.slice ao l.length cap) ∧ Calls Try.prog 15 #[.agg #[.int .u32 (ent : Int), .slice ao l.length cap]] w1 fun e w' => e = .returned (.int .i64 (checkE ent l : Int)) ∧ Below n w w' ∧ Blk w' (n + 1) (stC 0 0 0) 31) := by
    intro w1 hk1 hs1 hb1
    have hw1 : Below n w w1 := hba.trans (hb1.mono (by omega))
    have hk := (hb1.block n (by omega)).trans hka
    refine ⟨Blk.cell hk rfl, Blk.cell hk rfl, ?_⟩
    refine (check_any w1 ao cap ent l (h.later (by rw [hn]; exact hw1)) hcap hmax he).mono ?_
    rintro e w' ⟨h1, h2⟩
    exact ⟨h1, hw1.trans (h2.mono (by omega)), hk1.later h2⟩
  have hc2 : ¬ (checkE ent l : Int) = 0 := by omega
  have HC := hidden hc
  clear h hka hba hc
  go_enter Try.func9, Try.ntmps9
  go_wp2_with (first
    | (refine wpList_allocSt rfl rfl ?_; rw [hsa]; rintro w1 hk1 hs1 hb1; obtain ⟨c0, c1, h15⟩ := Hid.out H15 w1 hk1 hs1 hb1; have HH := hidden h15; clear h15 hk1 hb1)
    | (go_at_call 15; with_reducible refine (Hid.out HH).mono ?_; rintro e w2 ⟨rfl, hb2, hk2⟩; have HB2 := hidden hb2; have HK2 := hidden hk2; clear hb2 hk2)
    | (refine wpList_buildSt rfl rfl ?_)
    | (refine wpList_storeSt rfl _ _ rfl (n + 1) (stC 0 0 0) rfl rfl (stC 0 0 0) (Hid.out HK2) (stC_size _ _ _) (stC_size _ _ _) (stC_one _ _ _) ?_; rintro w3 hk3 ho3; have HK3 := hidden hk3; have HO3 := hidden ho3; clear hk3 ho3))
  refine bodyPost_ret (results_tct rfl _ _ (n + 1) _ rfl (load31 (Hid.out HK3))) rfl (.inl ⟨Hid.out HC, rfl, ?_⟩)
  rw [hn]
  exact only_below (Hid.out HB2) (Hid.out HO3) (by omega)
theorem LM.later {u wr w' : World} {mb mo k : Nat} {l : List Sg} {s : MS} (h : LM u wr mb mo l k s) (hb : Below wr.heap.size wr w') : LM u w' mb mo l k s :=
  ⟨h.own.step (Step.later h.own.mem hb), h.mb, h.most, h.ks, h.abs, h.ts, h.c⟩
theorem LM.start {u w' : World} {mb bm mo : Nat} {l : List Sg} (hm : MemW w' (fresh mb bm mo)) (hb : Below u.heap.size u w') (hf : ∀ b, foot (fresh mb bm mo) b → u.heap.size ≤ b) : LM u w' mb mo l 0 (fresh mb bm mo) :=
  ⟨⟨hm, hb, hf⟩, rfl, rfl, rfl, by funext k; simp [MS.abs, fresh, loadAm], rfl, by simp [fresh]⟩
theorem loadKs_stop {mo k : Nat} {l : List Sg} (h : loadKs mo [] (l.take k) = none) : allKs mo l = none := by
  unfold allKs
  rw [← List.take_append_drop k l, loadKs_append, h]
  rfl
set_option maxRecDepth 20000 in
set_option maxHeartbeats 4000000 in
theorem load_yes (w : World) (ao : Option Addr) (cap ent : Nat) (l : List Sg) (z : Int) (h : Segs w ao l) (hcap : l.length ≤ cap) (hmax : cap ≤ 9223372036854775807) (he : ent < 4294967296) (hc : checkE ent l = 0) : Calls Try.prog 9 #[.agg #[.int .u32 (ent : Int), .slice ao l.length cap], .int .i64 z] w (LoadSays w ent l z) := by
  obtain ⟨h8, hok, _, _⟩ := check_facts hc
  have hen := enter_small hc
  obtain ⟨n, hn⟩ : ∃ n, w.heap.size = n := ⟨_, rfl⟩
  obtain ⟨wa, hwa⟩ : ∃ wa, w.alloc (.cells #[.int .u32 (ent : Int), .slice ao l.length cap] 25) = wa := ⟨_, rfl⟩
  have hba : Below n w wa := by rw [← hwa, ← hn]; exact below_new w _
  have hka : Blk wa n #[.int .u32 (ent : Int), .slice ao l.length cap] 25 := by rw [← hwa, ← hn]; exact Blk.new w _ _
  have hsa : wa.heap.size = n + 1 := by rw [← hwa]; simp [hn]
  have H15 : Hid (∀ w1, Blk w1 (n + 1) (stC 0 0 0) 31 → w1.heap.size = n + 1 + 1 → Below (n + 1) wa w1 → w1.cell? ⟨n, 0, none⟩ = some (.int .u32 (ent : Int)) ∧ w1.cell? ⟨n, 1, none⟩ = some (.slice ao l.length cap) ∧ Calls Try.prog 15 #[.agg #[.int .u32 (ent : Int), .slice ao l.length cap]] w1 fun e w' => e = .returned (.int .i64 0) ∧ Below n w w' ∧ Blk w' (n + 1) (stC 0 0 0) 31 ∧ Blk w' n #[.int .u32 (ent : Int), .slice ao l.length cap] 25 ∧ n + 2 ≤ w'.heap.size) := by
    intro w1 hk1 hs1 hb1
    have hw1 : Below n w w1 := hba.trans (hb1.mono (by omega))
    have hk : Blk w1 n #[.int .u32 (ent : Int), .slice ao l.length cap] 25 := (hb1.block n (by omega)).trans hka
    refine ⟨Blk.cell hk rfl, Blk.cell hk rfl, ?_⟩
    refine (check_any w1 ao cap ent l (h.later (by rw [hn]; exact hw1)) hcap hmax he).mono ?_
    rintro e w' ⟨h1, h2⟩
    rw [hc] at h1
    exact ⟨h1, hw1.trans (h2.mono (by omega)), hk1.later h2, hk.later h2, by have := h2.size; omega⟩
  have H26 : Hid (∀ w2, n + 2 ≤ w2.heap.size → Blk w2 n #[.int .u32 (ent : Int), .slice ao l.length cap] 25 → Calls Try.prog 26 #[.int .i64 z] w2 fun e w' => ∃ mb bm, e = .returned (.pointer (some ⟨mb, 0, none⟩)) ∧ LM w2 w' mb (cutMost z) l 0 (fresh mb bm (cutMost z)) ∧ w'.cell? ⟨n, 1, none⟩ = some (.slice ao l.length cap)) := by
    intro w2 hs2 hk2
    refine (newMem_step z w2).mono ?_
    rintro e w' ⟨mb, bm, h1, h2, h3, h4⟩
    exact ⟨mb, bm, h1, LM.start h2 h3 h4, (hk2.later h3).cell rfl⟩
  have H := hidden h
  have HOK := hidden hok
  have HC := hidden hc
  obtain ⟨mo, hmo⟩ : ∃ mo, cutMost z = mo := ⟨_, rfl⟩
  rw [hmo] at H26
  have HMO' := hidden hmo
  clear hmo
  clear h hka hba hc hok
  go_enter Try.func9, Try.ntmps9
  go_wp2_with (first
    | (refine wpList_allocSt rfl rfl ?_; rw [hsa]; rintro w1 hk1 hs1 hb1; obtain ⟨c0, c1, h15⟩ := Hid.out H15 w1 hk1 hs1 hb1; have HH := hidden h15; clear h15 hk1 hb1)
    | (go_at_call 15; with_reducible refine (Hid.out HH).mono ?_; rintro e w2 ⟨rfl, hb2, hk2, hf2, hs2⟩; have HH6 := hidden (Hid.out H26 w2 hs2 hf2); have HB2 := hidden hb2; have HK2 := hidden hk2; have HF2 := hidden hf2; clear hb2 hk2 hf2)
    | (go_at_call 26; with_reducible refine (Hid.out HH6).mono ?_; rintro e w3 ⟨mb, bm, rfl, hm3, d1⟩; have HM3 := hidden hm3; clear hm3))
  clear c0 c1 HH HH6 H15 H26
  go_loopw [24] (fun x24 wr => ∃ (k : Nat) (s : MS), k ≤ l.length ∧ x24 = .int .i64 (k : Int) ∧ LM w2 wr mb mo l k s) (fun x24 _ => l.length - (intOf x24).toNat)
  case atStart => exact ⟨0, _, by omega, rfl, Hid.out HM3⟩
  case round =>
    obtain ⟨k, s, hk, rfl, hL⟩ := hrel
    have HL := hidden hL
    have hbw : Below n w wr := (Hid.out HB2).trans (hL.own.below.mono (by omega))
    have HBW := hidden hbw
    have hst : Blk wr (n + 1) (stC 0 0 0) 31 := (hL.own.below.block (n + 1) (by omega)).trans (Hid.out HK2)
    have hfl : Blk wr n #[.int .u32 (ent : Int), .slice ao l.length cap] 25 := (hL.own.below.block n (by omega)).trans (Hid.out HF2)
    by_cases hkl : k < l.length
    · have hok := Hid.out HOK k hkl
      obtain ⟨b, off, rfl, hlt, hcc⟩ := ((Hid.out H).later (by rw [hn]; exact hbw)).at hkl
      obtain ⟨g, hg⟩ : ∃ g, g = l.getD k nosg := ⟨_, rfl⟩
      have hat := hcc k hkl
      rw [← hg] at hat hok
      obtain ⟨c0, c1, c2, c3, fit⟩ := hat
      have hkl2 : (k : Int) < (l.length : Int) := by omega
      have hbo := below_new wr (.cells #[.int .u32 (g.at_ : Int), .string ⟨g.data.toArray⟩, .int .u32 (g.size : Int), .int .i64 g.perm] 44)
      have hL2 := hL.later hbo
      have h27 := hL2.laid hkl (by rw [← hg]; exact hok)
      rw [← hg] at h27
      have hqb : Blk (wr.alloc (.cells #[.int .u32 (g.at_ : Int), .string ⟨g.data.toArray⟩, .int .u32 (g.size : Int), .int .i64 g.perm] 44)) wr.heap.size #[.int .u32 (g.at_ : Int), .string ⟨g.data.toArray⟩, .int .u32 (g.size : Int), .int .i64 g.perm] 44 := Blk.new wr _ _
      have hqs : (wr.alloc (.cells #[.int .u32 (g.at_ : Int), .string ⟨g.data.toArray⟩, .int .u32 (g.size : Int), .int .i64 g.perm] 44)).heap.size = wr.heap.size + 1 := by simp
      have hnf : ¬ foot s wr.heap.size := fun hf => by have := hL.own.mem.lt hf; omega
      cases hks : loadKs mo [] (l.take (k + 1)) with
      | none =>
        have H27 : Hid (Calls Try.prog 27 #[.pointer (some ⟨mb, 0, none⟩), .int .u32 (g.at_ : Int), .int .u32 (g.size : Int), .int .i64 g.perm] (wr.alloc (.cells #[.int .u32 (g.at_ : Int), .string ⟨g.data.toArray⟩, .int .u32 (g.size : Int), .int .i64 g.perm] 44)) fun e w' => e = .returned (.int .i64 2) ∧ Below w2.heap.size w2 w') := h27.mono (by
          rintro e w' ⟨h1, h2, h3, (⟨h4, s', h5, _⟩ | ⟨h4, h5⟩)⟩
          · have := h5.ks
            rw [hks] at this
            cases this
          · exact ⟨h4, h1⟩)
        have HKN := hidden hks
        have HBN : Hid (∀ w', Below w2.heap.size w2 w' → Blk w' (n + 1) (stC 0 0 0) 31) := fun w' hb => (hb.block (n + 1) (by omega)).trans (Hid.out HK2)
        have HG := hidden hg
        clear hL hbw hst hfl hok hcc fit hbo hL2 h27 hqb hqs hnf hks hg
        go_wp2_with (first
          | (go_at_call 27; with_reducible refine (Hid.out H27).mono ?_; rintro e w4 ⟨rfl, hb4⟩; have HB4 := hidden hb4; clear hb4)
          | (refine wpList_buildSt rfl rfl ?_)
          | (refine wpList_storeSt rfl _ _ rfl (n + 1) (stC 0 0 0) rfl rfl (stC 0 0 0) (Hid.out HBN _ (Hid.out HB4)) (stC_size _ _ _) (stC_size _ _ _) (stC_one _ _ _) ?_; rintro w5 hk5 ho5; have HK5 := hidden hk5; have HO5 := hidden ho5; clear hk5 ho5))
        refine bodyPost_ret (results_tct rfl _ _ (n + 1) _ rfl (load31 (Hid.out HK5))) rfl (.inr (.inl ⟨Hid.out HC, by rw [Hid.out HMO']; exact loadKs_stop (Hid.out HKN), rfl, ?_⟩))
        rw [hn]
        exact only_below ((Hid.out HB2).trans ((Hid.out HB4).mono (by omega))) (Hid.out HO5) (by omega)
      | some ks =>
        have H27 : Hid (Calls Try.prog 27 #[.pointer (some ⟨mb, 0, none⟩), .int .u32 (g.at_ : Int), .int .u32 (g.size : Int), .int .i64 g.perm] (wr.alloc (.cells #[.int .u32 (g.at_ : Int), .string ⟨g.data.toArray⟩, .int .u32 (g.size : Int), .int .i64 g.perm] 44)) fun e w' => e = .returned (.int .i64 0) ∧ (w'.cell? ⟨wr.heap.size, 0, none⟩ = some (.int .u32 (g.at_ : Int)) ∧ w'.cell? ⟨wr.heap.size, 1, none⟩ = some (.string ⟨g.data.toArray⟩) ∧ w'.cell? ⟨wr.heap.size, 2, none⟩ = some (.int .u32 (g.size : Int)) ∧ w'.cell? ⟨wr.heap.size, 3, none⟩ = some (.int .i64 g.perm)) ∧ Calls Try.prog 28 #[.pointer (some ⟨mb, 0, none⟩), .agg #[.int .u32 (g.at_ : Int), .string ⟨g.data.toArray⟩, .int .u32 (g.size : Int), .int .i64 g.perm]] w' fun e w' => e = .returned (.tuple #[]) ∧ ∃ s', LM w2 w' mb mo l (k + 1) s') := h27.mono (by
          rintro e w' ⟨h1, h2, h3, (⟨h4, s', h5, _⟩ | ⟨h4, h5⟩)⟩
          · have hq2 : Blk w' wr.heap.size #[.int .u32 (g.at_ : Int), .string ⟨g.data.toArray⟩, .int .u32 (g.size : Int), .int .i64 g.perm] 44 := (h2 wr.heap.size (by omega) hnf).trans hqb
            have h28 := h5.filled hkl (by omega) (by rw [← hg]; exact hok)
            rw [← hg] at h28
            exact ⟨h4, ⟨hq2.cell rfl, hq2.cell rfl, hq2.cell rfl, hq2.cell rfl⟩, h28⟩
          · rw [hks] at h5
            cases h5)
        have HG := hidden hg
        clear hL hbw hst hfl hok hcc fit hbo hL2 h27 hqb hqs hnf hks hg
        go_wp2_with (first
          | (go_at_call 27; with_reducible refine (Hid.out H27).mono ?_; rintro e w4 ⟨rfl, ⟨e0, e1, e2, e3⟩, h28⟩; have H28 := hidden h28; clear h28)
          | (go_at_call 28; with_reducible refine (Hid.out H28).mono ?_; rintro e w5 ⟨rfl, s5, h5⟩; have H5 := hidden h5; clear h5))
        go_roundw
        case rel => first | exact ⟨k + 1, s5, by omega, by simp, Hid.out H5⟩ | ((repeat apply Exists.intro); first | exact ⟨⟨k + 1, s5, by omega, by simp, Hid.out H5⟩, rfl⟩ | exact ⟨⟨k + 1, s5, by omega, by simp, Hid.out H5⟩, rfl, rfl⟩ | exact ⟨⟨k + 1, s5, by omega, by simp, Hid.out H5⟩, rfl, rfl, rfl⟩)
        case measure => simp [intOf]; omega
    · have hkl2 : ¬ (k : Int) < (l.length : Int) := by omega
      obtain rfl : k = l.length := by omega
      have h27 := hL.stack
      cases hks : allKs mo l with
      | none =>
        have H27 : Hid (Calls Try.prog 27 #[.pointer (some ⟨mb, 0, none⟩), .int .u32 2147479040, .int .u32 512, .int .i64 6] wr fun e w' => e = .returned (.int .i64 2) ∧ Below w2.heap.size w2 w') := h27.mono (by
          rintro e w' ⟨h1, (⟨h4, s', _, h5⟩ | ⟨h4, h5⟩)⟩
          · have := h5.ks
            rw [hks] at this
            cases this
          · exact ⟨h4, h1⟩)
        have HKN := hidden hks
        have HBN : Hid (∀ w', Below w2.heap.size w2 w' → Blk w' (n + 1) (stC 0 0 0) 31) := fun w' hb => (hb.block (n + 1) (by omega)).trans (Hid.out HK2)
        clear hL hbw hst hfl h27 hks
        go_wp2_with (first
          | (go_at_call 27; with_reducible refine (Hid.out H27).mono ?_; rintro e w4 ⟨rfl, hb4⟩; have HB4 := hidden hb4; clear hb4)
          | (refine wpList_buildSt rfl rfl ?_)
          | (refine wpList_storeSt rfl _ _ rfl (n + 1) (stC 0 0 0) rfl rfl (stC 0 0 0) (Hid.out HBN _ (Hid.out HB4)) (stC_size _ _ _) (stC_size _ _ _) (stC_one _ _ _) ?_; rintro w5 hk5 ho5; have HK5 := hidden hk5; have HO5 := hidden ho5; clear hk5 ho5))
        refine bodyPost_ret (results_tct rfl _ _ (n + 1) _ rfl (load31 (Hid.out HK5))) rfl (.inr (.inl ⟨Hid.out HC, by rw [Hid.out HMO']; exact Hid.out HKN, rfl, ?_⟩))
        rw [hn]
        exact only_below ((Hid.out HB2).trans ((Hid.out HB4).mono (by omega))) (Hid.out HO5) (by omega)
      | some ks =>
        have H27 : Hid (Calls Try.prog 27 #[.pointer (some ⟨mb, 0, none⟩), .int .u32 2147479040, .int .u32 512, .int .i64 6] wr fun e w' => e = .returned (.int .i64 0) ∧ w'.cell? ⟨n, 0, none⟩ = some (.int .u32 (ent : Int)) ∧ ∃ s', s'.mb = mb ∧ Loaded w2 w' mo l s' ∧ Calls Try.prog 29 #[.int .u32 (ent : Int)] w' fun e w6 => e = .returned (.agg (stC 2147479536 (ent : Int) ((ent : Int) + 4))) ∧ Loaded w2 w6 mo l s' ∧ Blk w6 (n + 1) (stC 0 0 0) 31) := h27.mono (by
          rintro e w' ⟨h1, (⟨h4, s', h6, h5⟩ | ⟨h4, h5⟩)⟩
          · have hf : Blk w' n #[.int .u32 (ent : Int), .slice ao l.length cap] 25 := (h1.block n (by omega)).trans (Hid.out HF2)
            refine ⟨h4, hf.cell rfl, s', h6, h5, (begin_any w' ent hen).mono ?_⟩
            rintro e w6 ⟨he6, hb6⟩
            have ho := h5.own.step (Step.later h5.own.mem hb6)
            exact ⟨he6, ⟨ho, h5.most, h5.ks, h5.abs, h5.ts⟩, (ho.below.block (n + 1) (by omega)).trans (Hid.out HK2)⟩
          · rw [hks] at h5
            cases h5)
        clear hL hbw hst hfl h27 hks
        go_wp2_with (first
          | (go_at_call 27; with_reducible refine (Hid.out H27).mono ?_; rintro e w4 ⟨rfl, f0, s4, hmb4, h4, h29⟩; have H29 := hidden h29; have HMB4 := hidden hmb4; clear h29 h4 hmb4)
          | (go_at_call 29; with_reducible refine (Hid.out H29).mono ?_; rintro e w6 ⟨rfl, h6, hk6⟩; have H6 := hidden h6; have HK6 := hidden hk6; clear h6 hk6)
          | (refine wpList_storeSt rfl _ _ rfl (n + 1) (stC 2147479536 (ent : Int) ((ent : Int) + 4)) rfl rfl (stC 0 0 0) (Hid.out HK6) (stC_size _ _ _) (stC_size _ _ _) (stC_one _ _ _) ?_; rintro w7 hk7 ho7; have HK7 := hidden hk7; have HO7 := hidden ho7; clear hk7 ho7))
        have h6 := (Hid.out H6).back (by rw [hn]; exact Hid.out HB2)
        have hnf : ¬ foot s4 (n + 1) := fun hf => by have := (Hid.out H6).own.foot _ hf; omega
        refine bodyPost_ret (results_tct rfl _ _ (n + 1) _ rfl (load31 (Hid.out HK7))) rfl (.inr (.inr ⟨Hid.out HC, s4, by rw [Hid.out HMB4]; rfl, ⟨own_only h6.own (Hid.out HO7) (by omega) hnf, by rw [Hid.out HMO']; exact h6.most, by rw [Hid.out HMO']; exact h6.ks, h6.abs, h6.ts⟩⟩))
theorem load_file (w : World) (ao : Option Addr) (cap ent : Nat) (l : List Sg) (z : Int) (h : Segs w ao l) (hcap : l.length ≤ cap) (hmax : cap ≤ 9223372036854775807) (he : ent < 4294967296) : Calls Try.prog 9 #[.agg #[.int .u32 (ent : Int), .slice ao l.length cap], .int .i64 z] w (LoadSays w ent l z) := by
  by_cases hc : checkE ent l = 0
  · exact load_yes w ao cap ent l z h hcap hmax he hc
  · exact load_no w ao cap ent l z h hcap hmax he hc
end Go.Proofs.Ytpknppicamefgaa

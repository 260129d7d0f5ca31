/- fill: a segment's bytes, where its pages are. -/
import Derived.Test.YtpknppicamefgaaPLayW
namespace Go.Proofs.Ytpknppicamefgaa
open Go.ChangeShapes Go.WideShapes Go.ChangeAt Go.RowKit
set_option linter.unusedVariables false
def fillAm (f : AM) (a : Nat) (d : List UInt8) : Nat → AM
  | 0 => f
  | k + 1 => apoke (fillAm f a d k) (a + k) (d.getD k 0)
/-- A memory behind bytes that were put. -/
structure Put (s : MS) (a : Nat) (d : List UInt8) (k : Nat) (s' : MS) : Prop where
  mb : s'.mb = s.mb
  bm : s'.bm = s.bm
  most : s'.most = s.most
  ks : s'.ks = s.ks
  on : s'.on = s.on
  ts : s'.ts = s.ts
  c : s'.c ≤ s.c + k
  abs : s'.abs = fillAm s.abs a d k
theorem pokeAt_bm (s : MS) (a : Nat) (v : UInt8) (tv : Value) : (s.pokeAt a v tv).bm = s.bm := by unfold MS.pokeAt; split <;> rfl
theorem Put.poke {s s' : MS} {a k : Nat} {d : List UInt8} (h : Put s a d k s') (hoff : ∀ j ∈ s.ks, s.on j = false) (tv : Value) : Put s a d (k + 1) (s'.pokeAt (a + k) (d.getD k 0) tv) := by
  have hw : s'.watched (a + k) = false := by
    unfold MS.watched
    rw [h.ks, h.on]
    by_cases hk : pageOf (a + k) ∈ s.ks
    · rw [hoff _ hk, Bool.and_false]
    · rw [decide_eq_false hk, Bool.false_and]
  have hc := pokeAt_c s' (a + k) (d.getD k 0) tv
  have hc' := h.c
  exact ⟨(pokeAt_mb _ _ _ _).trans h.mb, (pokeAt_bm _ _ _ _).trans h.bm, (pokeAt_most _ _ _ _).trans h.most, (pokeAt_ks _ _ _ _).trans h.ks, (pokeAt_on _ _ _ _).trans h.on, by rw [pokeAt_ts, hw]; simpa using h.ts, by omega, by rw [abs_pokeAt, h.abs]; rfl⟩
theorem str_index (d : List UInt8) (k : Nat) (h : k < d.length) (w : World) : (Instr.index 9 (.string ⟨d.toArray⟩) (.int .i64 (k : Int))).run Try.prog w = .ok (.int .u8 ((d.getD k 0).toNat : Int)) w := by
  have hs : (ByteArray.mk d.toArray).size = d.length := by simp [ByteArray.size]
  rw [run_index_string w 9 _ _ _ Try.underlying9, dif_pos ⟨by omega, by omega⟩]
  have e : (ByteArray.mk d.toArray)[(k : Int).toNat]'(by omega) = d.getD k 0 := by
    show d.toArray[(k : Int).toNat]'(by simpa using h) = _
    simp [List.getD_eq_getElem?_getD, h]
  rw [e]
set_option maxRecDepth 20000 in
set_option maxHeartbeats 1000000 in
theorem fill_any (w : World) (s : MS) (g : Sg) (h : MemW w s) (hoff : ∀ j ∈ s.ks, s.on j = false) (hd : g.at_ + g.data.length ≤ 2147483648) (hc : s.c + g.data.length ≤ 1000000) : Calls Try.prog 28 #[.pointer (some ⟨s.mb, 0, none⟩), .agg #[.int .u32 (g.at_ : Int), .string ⟨g.data.toArray⟩, .int .u32 (g.size : Int), .int .i64 g.perm]] w fun e w' => e = .returned (.tuple #[]) ∧ ∃ s', Put s g.at_ g.data g.data.length s' ∧ Step w s w' s' := by
  obtain ⟨a, d, sz, pm⟩ := g
  simp only at hd hc ⊢
  have hsz : (ByteArray.mk d.toArray).size = d.length := by simp [ByteArray.size]
  obtain ⟨n, hn⟩ : ∃ n, w.heap.size = n := ⟨_, rfl⟩
  obtain ⟨w1, hw1⟩ : ∃ w1, w.alloc (.cells #[.int .u32 (a : Int), .string ⟨d.toArray⟩, .int .u32 (sz : Int), .int .i64 pm] 44) = w1 := ⟨_, rfl⟩
  have hbn := Blk.new w #[.int .u32 (a : Int), .string ⟨d.toArray⟩, .int .u32 (sz : Int), .int .i64 pm] 44
  have hst : Step w s w1 s := by rw [← hw1]; exact Step.later h (below_new w _)
  have hnf : ¬ foot s n := fun hf => by have := h.lt hf; omega
  have hnl : n < w1.heap.size := by rw [← hw1]; simp [hn]
  rw [hw1, hn] at hbn
  have HB := hidden hbn
  have HS := hidden hst
  have HN := hidden hnf
  have HO := hidden hoff
  have c0 : w1.cell? ⟨n, 1, none⟩ = some (.string ⟨d.toArray⟩) := hbn.cell rfl
  clear hbn hst hnf hoff h
  go_enter Try.func28, Try.ntmps28
  go_wp2
  go_loopw [8] (fun x8 wr => ∃ (k : Nat) (s' : MS), k ≤ d.length ∧ x8 = .int .i64 (k : Int) ∧ Put s a d k s' ∧ Step w1 s wr s') (fun x8 _ => d.length - (intOf x8).toNat)
  case atStart => exact ⟨0, s, by omega, rfl, ⟨rfl, rfl, rfl, rfl, rfl, rfl, by omega, rfl⟩, Step.refl (Hid.out HS).mem⟩
  case round =>
    obtain ⟨k, s', hk, rfl, hP, hS⟩ := hrel
    have HP := hidden hP
    have HS2 := hidden hS
    by_cases hkd : k < d.length
    · have hkd2 : (k : Int) < (d.length : Int) := by omega
      have hb2 : Blk wr n #[.int .u32 (a : Int), .string ⟨d.toArray⟩, .int .u32 (sz : Int), .int .i64 pm] 44 := (hS.keep.block n hnl (Hid.out HN)).trans (Hid.out HB)
      have d0 : wr.cell? ⟨n, 0, none⟩ = some (.int .u32 (a : Int)) := hb2.cell rfl
      have d1 : wr.cell? ⟨n, 1, none⟩ = some (.string ⟨d.toArray⟩) := hb2.cell rfl
      have hix : ∀ w2, (Instr.index 9 (.string ⟨d.toArray⟩) (.int .i64 (k : Int))).run Try.prog w2 = .ok (.int .u8 ((d.getD k 0).toNat : Int)) w2 := str_index d k hkd
      have H58 : Hid (∀ m, Calls Try.prog 58 #[.pointer (some ⟨s.mb, 0, none⟩), .int .u32 ((a : Int) + (k : Int)), .int .u8 ((d.getD k 0).toNat : Int)] (wr.drewN m) fun e w' => ∃ b, e = .returned (.bool b) ∧ ∃ s2, Put s a d (k + 1) s2 ∧ Step w1 s w' s2) := fun m => by
        have hcc := hP.c
        have h21 := poke_any (wr.drewN m) s' (a + k) (d.getD k 0) (hS.mem.drewN m) (by omega) (by omega)
        rw [hP.mb, show ((a + k : Nat) : Int) = (a : Int) + (k : Int) by omega] at h21
        refine h21.mono ?_
        rintro e w' ⟨he, tv, st⟩
        exact ⟨_, he, _, hP.poke (Hid.out HO) tv, hS.trans ((Step.drew hS.mem ⟨m, rfl⟩).trans st)⟩
      generalize d.getD k 0 = v at hix H58
      clear hP hS hb2
      go_wp2
      refine wp_region_tail 10 (by kernel_rfl) (by kernel_rfl) ?_
      simp only [List.take_succ_cons, List.take_zero, List.drop_succ_cons, List.drop_zero]
      repeat (go_big_quiet_step (fail))
      refine wpQuiet_nil ?_
      rintro _ ⟨nq, rfl⟩
      go_wp2_with (go_at_call 58; with_reducible refine (Hid.out H58 nq).mono ?_; rintro e w4 ⟨rb, rfl, s4, hi4, hk4⟩; have HI4 := hidden hi4; have HK4 := hidden hk4; clear hi4 hk4)
      go_roundw
      case rel => first | exact ⟨k + 1, s4, by omega, by simp, Hid.out HI4, Hid.out HK4⟩ | ((repeat apply Exists.intro); exact ⟨⟨k + 1, s4, by omega, by simp, Hid.out HI4, Hid.out HK4⟩, rfl⟩)
      case measure => simp [intOf]; omega
    · have hkd2 : ¬ (k : Int) < (d.length : Int) := by omega
      obtain rfl : k = d.length := by omega
      clear hP hS
      go_wp2
      go_end0
      exact ⟨rfl, s', Hid.out HP, (Hid.out HS).trans (Hid.out HS2)⟩
end Go.Proofs.Ytpknppicamefgaa

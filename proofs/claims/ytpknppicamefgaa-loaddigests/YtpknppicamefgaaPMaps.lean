/- Map: a page is there from now on. -/
import Derived.Test.YtpknppicamefgaaPWrites
namespace Go.Proofs.Ytpknppicamefgaa
open Go.ChangeShapes Go.WideShapes Go.ChangeAt Go.RowKit
set_option linter.unusedVariables false
theorem Pg.drewN {T : TypeId} {w : World} {b : Nat} {l : List UInt8} {p n : Int} (h : Pg T w b l p n) (m : Nat) : Pg T (w.drewN m) b l p n := h.same rfl
/-- What a page may be, and what it may be besides. -/
def orP (p z : Int) : Int := bits .or .i64 p z % 8
def MS.also (s : MS) (k : Nat) (z : Int) : MS := { s with pm := upd s.pm k (orP (s.pm k) z) }
theorem also_memW {w w' : World} {s : MS} {k : Nat} {z : Int} (h : MemW w s) (hk : k ∈ s.ks) (hw : w' = w.setCell ⟨s.pb k, 256, none⟩ (.int .i64 (orP (s.pm k) z))) : MemW w' (s.also k z) ∧ Keep (· = s.pb k) w w' := by
  subst hw
  have out : ∀ b, b ≠ s.pb k → (w.setCell ⟨s.pb k, 256, none⟩ (.int .i64 (orP (s.pm k) z))).heap[b]? = w.heap[b]? := fun b hb => Below.heap_setCell _ _ _ _ hb
  refine ⟨⟨(out _ (h.pb_ne_mb hk).symm).trans h.self, (out _ (h.pb_ne_bm hk).symm).trans h.map, fun j hj => (out _ (h.pb_ne_hb hk hj).symm).trans (h.held j hj), fun j hj => ?_, h.nodup, h.hbi, h.pbi, h.key, fun j hj => ?_, h.room, h.great, ownsRow_same h.touched fun g hg => out g (h.tv_ne_pb hg hk), h.few⟩, keep_setCell _ _ _ _⟩
  · obtain ⟨n, h0, h1, hp⟩ := h.page j hj
    refine ⟨n, h0, h1, ?_⟩
    by_cases e : j = k
    · subst e
      simp only [MS.also, upd_same]
      exact hp.setPerm _
    · simp only [MS.also, upd_other _ _ e]
      exact hp.same (out _ fun e' => e (h.pbi j hj k hk e'))
  · by_cases e : j = k
    · subst e
      simp only [MS.also, upd_same, orP]
      exact ⟨Int.emod_nonneg _ (by omega), Int.emod_lt_of_pos _ (by omega)⟩
    · simp only [MS.also, upd_other _ _ e]
      exact h.perm j hj
theorem map_in (w : World) (s : MS) (a : Nat) (z : Int) (h : MemW w s) (ha : a < 4294967296) (hk : pageOf a ∈ s.ks) : Calls Try.prog 57 #[.pointer (some ⟨s.mb, 0, none⟩), .int .u32 (a : Int), .int .i64 z] w fun e w' => e = .returned (.int .i64 0) ∧ MemW w' (s.also (pageOf a) z) ∧ Keep (· = s.pb (pageOf a)) w w' := by
  have H := hidden (find_in w s a h ha hk)
  obtain ⟨c, _, _, hp⟩ := h.page _ hk
  have HC : Hid (∀ w1 n, w1 = w.drewN n → w1.cell? ⟨s.hb (pageOf a), 0, none⟩ = some (.pointer (some ⟨s.pb (pageOf a), 0, none⟩)) ∧ Pg 109 w1 (s.pb (pageOf a)) (s.data (pageOf a)) (s.pm (pageOf a)) c) := by
    intro w1 n e
    subst e
    exact ⟨h.held0 hk, hp.same rfl⟩
  have HE : Hid (∀ w1 w2 n m, w1 = w.drewN n → w2 = (w1.drewN m).setCell ⟨s.pb (pageOf a), 256, none⟩ (.int .i64 (orP (s.pm (pageOf a)) z)) → MemW w2 (s.also (pageOf a) z) ∧ Keep (· = s.pb (pageOf a)) w w2) := by
    intro w1 w2 n m e1 e2
    subst e1
    have := also_memW ((h.drewN n).drewN m) hk e2
    exact ⟨this.1, (((Keep.refl _ w).drewN n).drewN m).trans this.2 fun _ _ e => e⟩
  clear h hk ha hp
  generalize pageOf a = k at H HC HE
  unfold orP at HE
  generalize s.pm k = p at HC HE
  generalize hv : bits .or .i64 p z = v at HE
  go_enter Try.func57, Try.ntmps57
  go_wp2_with (go_at_call 45; refine (Hid.out H).mono ?_; rintro e w1 ⟨rfl, n, hww⟩; obtain ⟨hc, hp1⟩ := Hid.out HC w1 n hww; have HP := hidden hp1; have HW := hidden hww; clear hww hp1 HC)
  refine wp_region_tail 11 (by kernel_rfl) (by kernel_rfl) ?_
  simp only [List.take_succ_cons, List.take_zero, List.drop_succ_cons, List.drop_zero]
  repeat (go_big_quiet_step ((go_at_call 46; exact Calls.quiet_of_same (perm_any _ _ _ _ _ (Pg.drewN (Hid.out HP) _)))))
  refine wpQuiet_nil ?_
  rintro _ ⟨nq, rfl⟩
  go_wp2_with (go_at_call 77; refine (setPerm_any _ _ _ _ _ _ (Pg.drewN (Hid.out HP) _)).mono ?_; rintro e w2 ⟨rfl, hww⟩; have HE2 := hidden (Hid.out HE w1 w2 n nq (Hid.out HW) hww); clear hww)
  go_ret
  exact ⟨rfl, Hid.out HE2⟩
theorem map_full (w : World) (s : MS) (a : Nat) (z : Int) (h : MemW w s) (ha : a < 4294967296) (hk : pageOf a ∉ s.ks) (hroom : ¬ s.ks.length < s.most) : Calls Try.prog 57 #[.pointer (some ⟨s.mb, 0, none⟩), .int .u32 (a : Int), .int .i64 z] w fun e w' => e = .returned (.int .i64 2) ∧ ∃ n, w' = w.drewN n := by
  have H := hidden (find_out w s a h ha hk)
  have hr : (s.most : Int) ≤ (s.ks.length : Int) := by omega
  have HC : Hid (∀ w1 n, w1 = w.drewN n → w1.cell? ⟨s.mb, 1, none⟩ = some (.int .i64 (s.ks.length : Int)) ∧ w1.cell? ⟨s.mb, 2, none⟩ = some (.int .i64 (s.most : Int))) := by
    intro w1 n e
    subst e
    exact ⟨h.cell1, h.cell2⟩
  clear h hk ha hroom
  generalize (s.ks.length : Int) = x at hr HC
  generalize (s.most : Int) = y at hr HC
  go_enter Try.func57, Try.ntmps57
  go_wp2_with (go_at_call 45; refine (Hid.out H).mono ?_; rintro e w1 ⟨rfl, n, hww⟩; obtain ⟨hc1, hc2⟩ := Hid.out HC w1 n hww; have HW := hidden hww; clear hww HC)
  go_quiet ((go_at_call 78; exact Calls.quiet_of_same (load_at _ _ _ _ hc1)))
  go_wp2
  go_ret
  exact ⟨rfl, drewN_two (Hid.out HW) _⟩
theorem build75 (b : Nat) (w : World) : (Instr.build 75 #[(0, .pointer (some ⟨b, 0, none⟩))]).run Try.prog w = .ok (.agg #[.pointer (some ⟨b, 0, none⟩), .bool false]) w := by kernel_rfl
theorem held_new (w1 : World) (z : Int) (c : Nat) : Held ((w1.alloc (.cells (pcells zeros (z % 8) 0) 109)).alloc (.cells #[.pointer (some ⟨w1.heap.size, 0, none⟩), .bool false] 75)) (w1.heap.size + 1) w1.heap.size zeros (z % 8) false c := by
  have hs : (w1.alloc (.cells (pcells zeros (z % 8) 0) 109)).heap.size = w1.heap.size + 1 := by simp
  refine ⟨?_, ⟨0, by omega, by omega, ?_⟩, Int.emod_nonneg _ (by omega), Int.emod_lt_of_pos _ (by omega)⟩
  · have := heap_alloc_new (w1.alloc (.cells (pcells zeros (z % 8) 0) 109)) (.cells #[.pointer (some ⟨w1.heap.size, 0, none⟩), .bool false] 75)
    rw [hs] at this
    exact this
  · exact (pg_new 109 w1 zeros (z % 8) 0 zeros_len).later ((Below.refl _ _).alloc (Nat.le_refl _) _)
theorem map_new (w : World) (s : MS) (a : Nat) (z : Int) (h : MemW w s) (ha : a < 4294967296) (hk : pageOf a ∉ s.ks) (hroom : s.ks.length < s.most) : Calls Try.prog 57 #[.pointer (some ⟨s.mb, 0, none⟩), .int .u32 (a : Int), .int .i64 z] w fun e w' => e = .returned (.int .i64 0) ∧ MemW w' (s.lay (pageOf a) (w.heap.size + 1) w.heap.size zeros (z % 8) false) ∧ Keep (fun b => b = s.mb ∨ b = s.bm) w w' := by
  have H := hidden (find_out w s a h ha hk)
  have hr : ¬ (s.most : Int) ≤ (s.ks.length : Int) := by omega
  have HC : Hid (∀ w1 n, w1 = w.drewN n → w1.cell? ⟨s.mb, 1, none⟩ = some (.int .i64 (s.ks.length : Int)) ∧ w1.cell? ⟨s.mb, 2, none⟩ = some (.int .i64 (s.most : Int))) := by
    intro w1 n e
    subst e
    exact ⟨h.cell1, h.cell2⟩
  have HA : Hid (∀ w1 n m, w1 = w.drewN n → Calls Try.prog 79 #[.pointer (some ⟨s.mb, 0, none⟩), .int .u32 (a : Int), .pointer (some ⟨w1.heap.size + 1, 0, none⟩)] (((w1.drewN m).alloc (.cells (pcells zeros (z % 8) 0) 109)).alloc (.cells #[.pointer (some ⟨w1.heap.size, 0, none⟩), .bool false] 75)) fun e w' => e = .returned (.tuple #[]) ∧ MemW w' (s.lay (pageOf a) (w.heap.size + 1) w.heap.size zeros (z % 8) false) ∧ Keep (fun b => b = s.mb ∨ b = s.bm) w w') := by
    intro w1 n m e
    subst e
    have hb : Below w.heap.size w (((w.drewN n).drewN m).alloc (.cells (pcells zeros (z % 8) 0) 109)) := (below_drewN (below_drewN (Below.refl _ w) n) m).alloc (Nat.le_refl _) _
    have hb2 : Below w.heap.size w ((((w.drewN n).drewN m).alloc (.cells (pcells zeros (z % 8) 0) 109)).alloc (.cells #[.pointer (some ⟨(w.drewN n).heap.size, 0, none⟩), .bool false] 75)) := hb.alloc hb.size _
    refine (addPage_any _ s a (w.heap.size + 1) w.heap.size zeros (z % 8) false (h.later hb2) ha hk (held_new ((w.drewN n).drewN m) z s.c) hroom (fun hf => ?_) (fun hf => ?_)).mono ?_
    · have := h.lt hf; omega
    · have := h.lt hf; omega
    · rintro e w' ⟨he, hm, hkp⟩
      exact ⟨he, hm, (Keep.of_below (F := fun b => b = s.mb ∨ b = s.bm) hb2).trans hkp fun _ _ e => e⟩
  clear h hk ha hroom
  have hb := build75
  generalize hx : (s.ks.length : Int) = x at hr HC
  generalize (s.most : Int) = y at hr HC
  clear hx
  go_enter Try.func57, Try.ntmps57
  go_wp2_with (go_at_call 45; refine (Hid.out H).mono ?_; rintro e w1 ⟨rfl, n, hww⟩; obtain ⟨hc1, hc2⟩ := Hid.out HC w1 n hww; have HW := hidden hww; clear hww HC)
  go_quiet ((go_at_call 78; exact Calls.quiet_of_same (load_at _ _ _ _ hc1)))
  go_wp2_with (first | (go_at_call 80; refine (new_any z _).mono ?_; rintro e w2 ⟨rfl, hww⟩; rw [hww]; clear hww w2) | (go_at_call 79; refine (Hid.out HA w1 n nq (Hid.out HW)).mono ?_; rintro e w2 ⟨rfl, hm2, hk2⟩; have HM2 := hidden hm2; have HK2 := hidden hk2; clear hm2 hk2))
  go_ret
  exact ⟨rfl, Hid.out HM2, Hid.out HK2⟩
end Go.Proofs.Ytpknppicamefgaa

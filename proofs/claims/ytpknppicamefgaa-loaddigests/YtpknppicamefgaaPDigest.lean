/- load's Digest, of a file of one segment, and of none. -/
import Derived.Test.YtpknppicamefgaaPFront
namespace Go.Proofs.Ytpknppicamefgaa
open Go.ChangeShapes Go.WideShapes Go.ChangeAt Go.RowKit
set_option linter.unusedVariables false
theorem rowN_lies {w : World} {ao : Option Addr} {l : List UInt8} (h : Lies w ao l) : RowN w ao (l.map UInt8.toNat) := by
  rcases h with hl | ⟨b, off, e, hc⟩
  · left; rw [hl]; rfl
  · exact .inr ⟨b, off, e, fun j hj => by
      rw [List.length_map] at hj
      rw [hc j hj]
      simp [List.getD_eq_getElem?_getD, hj]⟩
theorem more8L (c : Nat) (hc : c < 4294967296) (w : World) (ao : Option Addr) (l : List UInt8) (cap : Nat) (h : Lies w ao l) (hlen : l.length ≤ 140737488351232) : Calls Try.prog 40 #[.int .u32 (c : Int), .slice ao l.length cap] w fun e w' => e = .returned (.int .u32 (sumB c l : Int)) ∧ w' = w := by
  have := more_any c hc ao cap (l.map UInt8.toNat) (small8 l) w (rowN_lies h) (by rw [List.length_map]; exact hlen)
  rw [List.length_map] at this
  exact this
set_option maxRecDepth 20000 in
set_option maxHeartbeats 2000000 in
theorem digest1_any (w : World) (b off cap ent : Nat) (s : Sg) (h : SegAt w b off s) (hc1 : 1 ≤ cap) (hc2 : cap ≤ 9223372036854775807) (hok : checkE ent [s] = 0) (he : ent < 4294967296) : Calls Try.prog 13 #[.agg #[.int .u32 (ent : Int), .slice (some ⟨b, off, none⟩) 1 cap]] w fun e w' => e = .returned (.int .u32 (sumB 0 (fileB ent [s]) : Int)) ∧ Below w.heap.size w w' := by
  obtain ⟨n, hn⟩ : ∃ n, w.heap.size = n := ⟨_, rfl⟩
  obtain ⟨wa, hwa⟩ : ∃ wa, w.alloc (.cells #[.int .u32 (ent : Int), .slice (some ⟨b, off, none⟩) 1 cap] 25) = wa := ⟨_, rfl⟩
  have hba : Below n w wa := by rw [← hwa, ← hn]; exact below_new w _
  have k0 : Blk wa n #[.int .u32 (ent : Int), .slice (some ⟨b, off, none⟩) 1 cap] 25 := by rw [← hwa, ← hn]; exact Blk.new w _ _
  have hbl := World.block_lt_of_cell? _ _ h.c0
  simp only at hbl
  have q0 : wa.cell? ⟨n, 0, none⟩ = some (.int .u32 (ent : Int)) := k0.cell rfl
  have q1 : wa.cell? ⟨n, 1, none⟩ = some (.slice (some ⟨b, off, none⟩) 1 cap) := k0.cell rfl
  have hds0 : s.data.length ≤ 16384 := by
    obtain ⟨_, ho, _, _⟩ := check_facts hok
    have := ok_size (ho 0 (by simp))
    have e : ([s] : List Sg).getD 0 nosg = s := rfl
    rw [e] at this
    omega
  have hsum : sumB 0 (fileB ent [s]) = sumB (sumB 0 (tableB ent [s])) s.data := by
    rw [← sumB_append 0 _ _ (by omega)]
    simp [fileB, datasB]
  have H15 : Hid (Calls Try.prog 15 #[.agg #[.int .u32 (ent : Int), .slice (some ⟨b, off, none⟩) 1 cap]] wa fun e w1 => e = .returned (.int .i64 0) ∧ w1.cell? ⟨n, 0, none⟩ = some (.int .u32 (ent : Int)) ∧ w1.cell? ⟨n, 1, none⟩ = some (.slice (some ⟨b, off, none⟩) 1 cap) ∧ Calls Try.prog 39 #[.agg #[.int .u32 (ent : Int), .slice (some ⟨b, off, none⟩) 1 cap]] w1 fun e w2 => ∃ g c, e = .returned (.slice (some ⟨g, 0, none⟩) 84 c) ∧ Calls Try.prog 38 #[.slice (some ⟨g, 0, none⟩) 84 c] w2 fun e w3 => e = .returned (.int .u32 (sumB 0 (tableB ent [s]) : Int)) ∧ w3.cell? ⟨n, 1, none⟩ = some (.slice (some ⟨b, off, none⟩) 1 cap) ∧ Below n w w3) := by
    refine (check_any wa (some ⟨b, off, none⟩) cap ent [s] (.inr ⟨b, off, rfl, Nat.lt_of_lt_of_le hbl (by rw [hn]; exact (by have := hba.size; omega)), fun j hj => ?_⟩) (by simpa using hc1) hc2 he).mono ?_
    · obtain rfl : j = 0 := by simpa using hj
      rw [Nat.zero_mul, Nat.add_zero]
      exact h.later hbl (by rw [hn]; exact hba)
    · rintro e w1 ⟨h1, h2⟩
      rw [hok] at h1
      have b1 : Below n w w1 := hba.trans (h2.mono (by have := k0.lt; omega))
      have k1 : Blk w1 n #[.int .u32 (ent : Int), .slice (some ⟨b, off, none⟩) 1 cap] 25 := k0.later h2
      refine ⟨h1, k1.cell rfl, k1.cell rfl, (front1_any w1 b off cap ent s (h.later hbl (by rw [hn]; exact b1)) hok he).mono ?_⟩
      rintro e w2 ⟨g, c, h3, h4, h5, h6, h7⟩
      have h84 : (tableB ent [s]).length = 84 := by simp [tableB_len]
      have hof := of8 w2 _ _ c h6 (by omega)
      rw [h84] at hof
      refine ⟨g, c, h3, hof.mono ?_⟩
      rintro e w3 ⟨h8, rfl⟩
      exact ⟨h8, (k1.later h7).cell rfl, b1.trans (h7.mono (by have := k1.lt; omega))⟩
  have HSG := hidden h
  have HSUM := hidden hsum
  have hlt := sumB_lt 0 (tableB ent [s])
  generalize sumB 0 (tableB ent [s]) = t0 at H15 HSUM hlt
  clear hba k0 hsum hok
  go_enter Try.func13, Try.ntmps13
  go_wp2_with (first
    | (go_at_call 15; with_reducible refine (Hid.out H15).mono ?_; rintro e w1 ⟨rfl, p0, p1, h39⟩; have H39 := hidden h39; clear h39)
    | (go_at_call 39; with_reducible refine (Hid.out H39).mono ?_; rintro e w2 ⟨g, c, rfl, h38⟩; have H38 := hidden h38; clear h38)
    | (go_at_call 38; with_reducible refine (Hid.out H38).mono ?_; rintro e w3 ⟨rfl, r1, hb3⟩; have HB3 := hidden hb3; clear hb3))
  go_loopw [3, 15] (fun x3 x15 wr => ∃ (k t : Nat), k ≤ 1 ∧ x15 = .int .i64 (k : Int) ∧ x3 = .int .u32 (t : Int) ∧ (k = 0 → t = t0) ∧ (k = 1 → t = sumB 0 (fileB ent [s])) ∧ Below n w wr) (fun _ x15 _ => 1 - (intOf x15).toNat)
  case atStart => exact ⟨0, t0, by omega, rfl, rfl, (fun _ => rfl), by omega, Hid.out HB3⟩
  case round =>
    obtain ⟨k, t, hk, rfl, rfl, h0, h1, hb⟩ := hrel
    by_cases hk0 : k = 0
    · subst hk0
      obtain rfl := h0 rfl
      obtain ⟨c0, c1, c2, c3, fit⟩ := (Hid.out HSG).later hbl (by rw [hn]; exact hb)
      obtain ⟨wo, hwo⟩ : ∃ wo, wr.alloc (.cells #[.int .u32 (s.at_ : Int), .string ⟨s.data.toArray⟩, .int .u32 (s.size : Int), .int .i64 s.perm] 44) = wo := ⟨_, rfl⟩
      have hbo := below_new wr (.cells #[.int .u32 (s.at_ : Int), .string ⟨s.data.toArray⟩, .int .u32 (s.size : Int), .int .i64 s.perm] 44)
      rw [hwo] at hbo
      have hqo : Blk wo wr.heap.size #[.int .u32 (s.at_ : Int), .string ⟨s.data.toArray⟩, .int .u32 (s.size : Int), .int .i64 s.perm] 44 := by rw [← hwo]; exact Blk.new wr _ _
      have s1 : wo.cell? ⟨wr.heap.size, 1, none⟩ = some (.string ⟨s.data.toArray⟩) := hqo.cell rfl
      have hsz := hb.size
      have hbw : Below n w wo := hb.trans (hbo.mono (by omega))
      obtain ⟨gb, cb, w5, hcv, hly, hb5⟩ := run_bytes wo s.data
      have hbw5 : Below n w w5 := hbw.trans (hb5.mono (by have := hbw.size; omega))
      have H40 : Hid (Calls Try.prog 40 #[.int .u32 (t : Int), .slice (some ⟨gb, 0, none⟩) s.data.length cb] w5 fun e w6 => e = .returned (.int .u32 (sumB 0 (fileB ent [s]) : Int)) ∧ w6 = w5) := by
        have := more8L t hlt w5 _ s.data cb hly (by omega)
        rw [← Hid.out HSUM] at this
        exact this
      have HB5 := hidden hbw5
      clear hb hbo hqo hbw hly hb5 hbw5 h0 h1 fit
      generalize sumB 0 (fileB ent [s]) = t1 at H40 ⊢
      go_wp2_with (go_at_call 40; with_reducible refine (Hid.out H40).mono ?_; rintro e w6 ⟨rfl, hww⟩; rw [hww]; clear hww w6)
      go_roundw
      case rel => exact ⟨1, t1, by omega, by simp, rfl, by omega, (fun _ => rfl), Hid.out HB5⟩
      case measure => simp [intOf]
    · obtain rfl : k = 1 := by omega
      obtain rfl := h1 rfl
      have HB := hidden hb
      clear hb h0 h1
      go_wp2
      go_ret
      exact ⟨rfl, by first | exact Hid.out HB | (rw [hn]; exact Hid.out HB)⟩
set_option maxRecDepth 20000 in
theorem digest0_any (w : World) : Calls Try.prog 13 #[.agg #[.int .u32 0, .slice none 0 0]] w fun e w' => e = .returned (.int .u32 0) ∧ Below w.heap.size w w' := by
  obtain ⟨n, hn⟩ : ∃ n, w.heap.size = n := ⟨_, rfl⟩
  obtain ⟨wa, hwa⟩ : ∃ wa, w.alloc (.cells #[.int .u32 0, .slice none 0 0] 25) = wa := ⟨_, rfl⟩
  have hba : Below n w wa := by rw [← hwa, ← hn]; exact below_new w _
  have k0 : Blk wa n #[.int .u32 0, .slice none 0 0] 25 := by rw [← hwa, ← hn]; exact Blk.new w _ _
  have q0 : wa.cell? ⟨n, 0, none⟩ = some (.int .u32 0) := k0.cell rfl
  have q1 : wa.cell? ⟨n, 1, none⟩ = some (.slice none 0 0) := k0.cell rfl
  have H15 : Hid (Calls Try.prog 15 #[.agg #[.int .u32 0, .slice none 0 0]] wa fun e w1 => e = .returned (.int .i64 12) ∧ Below n w w1) := by
    have hc := check_any wa none 0 0 [] (.inl rfl) (by simp) (by omega) (by omega)
    have e0 : checkE 0 [] = 12 := by decide
    rw [e0] at hc
    refine Calls.mono hc ?_
    rintro e w1 ⟨h1, h2⟩
    exact ⟨h1, hba.trans (h2.mono (by have := k0.lt; omega))⟩
  clear hba k0
  go_enter Try.func13, Try.ntmps13
  go_wp2_with (go_at_call 15; with_reducible refine (Hid.out H15).mono ?_; rintro e w1 ⟨rfl, hb1⟩; have HB1 := hidden hb1; clear hb1)
  go_ret
  exact ⟨rfl, by first | exact Hid.out HB1 | (rw [hn]; exact Hid.out HB1)⟩
end Go.Proofs.Ytpknppicamefgaa

/- load's front and Digest, of a file of one segment. -/
import Derived.Test.YtpknppicamefgaaPBare
import Derived.Test.YtpknppicamefgaaPMD
import Derived.Test.YtpknppicamefgaaPLoadW
namespace Go.Proofs.Ytpknppicamefgaa
open Go.ChangeShapes Go.WideShapes Go.ChangeAt Go.RowKit
set_option linter.unusedVariables false
theorem check_bare {ent : Nat} {s : Sg} (h : checkE ent [s] = 0) : checkE ent [bareS s] = 0 := by
  have hok : okB s = true := by
    cases ho : okB s with
    | true => rfl
    | false => unfold checkE at h; simp [ho] at h
  have hen : enterB ent [s] = true := by
    cases he : enterB ent [s] with
    | true => rfl
    | false => unfold checkE at h; simp [hok, overB, he] at h
  obtain ⟨g1, g2, g3, g4, g5, g6⟩ := ok_size hok
  have h1 : okB (bareS s) = true := by
    unfold okB fitsB bareS
    simp
    omega
  have h2 : enterB ent [bareS s] = true := hen
  unfold checkE
  simp [h1, h2, overB]
theorem out_brow {w : World} {base : Nat} {v : Value} {l : List UInt8} (h : Out w base v l) (hl : l ≠ []) : ∃ g cap tl, v = .slice (some ⟨g, 0, none⟩) l.length cap ∧ base ≤ g ∧ l.length ≤ cap ∧ cap ≤ 9223372036854775807 ∧ Brow w g l tl := by
  rcases h.2 with ⟨_, h0⟩ | ⟨g, cap, cur, e, hb, hg, hnc, hcm, hcs, htk⟩
  · exact absurd (List.eq_nil_of_length_eq_zero h0) hl
  · refine ⟨g, cap, cur.toList.drop l.length, e, hb, hnc, hcm, ?_⟩
    unfold Brow
    rw [hg]
    congr 2
    apply Array.ext'
    have e2 : cur.toList = cur.toList.take l.length ++ cur.toList.drop l.length := (List.take_append_drop _ _).symm
    have e3 : cur.toList.take l.length = cellsU l := by rw [← htk, Nat.mul_one]
    rw [e3] at e2
    exact e2
theorem Brow.row {w : World} {g : Nat} {l : List UInt8} {tl : List Value} (h : Brow w g l tl) {cap : Nat} (h1 : l.length ≤ cap) (h2 : cap ≤ 9223372036854775807) : Row w (some ⟨g, 0, none⟩) l cap := by
  refine ⟨h1, h2, (fun e => by cases e), .inr ⟨g, 0, rfl, fun j hj => ?_⟩⟩
  rw [Nat.zero_add, cell_of_row _ _ _ _ _ _ h]
  simp [cellsU, List.getElem?_append_left, hj, List.getD_eq_getElem?_getD]
theorem ovr_mid (a p q b : List UInt8) (h : p.length = q.length) : ovr (a ++ (p ++ b)) a.length q = a ++ (q ++ b) := by
  unfold ovr
  rw [List.take_left', ← h]
  · rw [← List.append_assoc a p b, List.drop_left' (by simp), List.append_assoc]
  · rfl
theorem table_bare (e : Nat) (s : Sg) : ovr (ovr (fileB e [bareS s]) 56 (put32 84)) 68 (put32 s.data.length) = tableB e [s] := by
  have h52 : (headB e 1).length = 52 := headB_len e 1
  have e0 : fileB e [bareS s] = (headB e 1 ++ put32 1) ++ (put32 84 ++ (put32 s.at_ ++ put32 s.at_ ++ (put32 0 ++ (put32 s.size ++ put32 s.perm.toNat ++ put32 4)))) := by
    simp [fileB, tableB, rowsB, rowB, datasB, bareS]
  have e1 : tableB e [s] = (headB e 1 ++ put32 1 ++ put32 84 ++ put32 s.at_ ++ put32 s.at_) ++ (put32 s.data.length ++ (put32 s.size ++ put32 s.perm.toNat ++ put32 4)) := by
    simp [tableB, rowsB, rowB]
  have l56 : (headB e 1 ++ put32 1).length = 56 := by rw [List.length_append, h52]; rfl
  rw [e0, ← l56, ovr_mid _ (put32 84) (put32 84) _ rfl, e1]
  have e2 : (headB e 1 ++ put32 1) ++ (put32 84 ++ (put32 s.at_ ++ put32 s.at_ ++ (put32 0 ++ (put32 s.size ++ put32 s.perm.toNat ++ put32 4)))) = (headB e 1 ++ put32 1 ++ put32 84 ++ put32 s.at_ ++ put32 s.at_) ++ (put32 0 ++ (put32 s.size ++ put32 s.perm.toNat ++ put32 4)) := by simp
  have l68 : (headB e 1 ++ put32 1 ++ put32 84 ++ put32 s.at_ ++ put32 s.at_).length = 68 := by
    simp only [List.length_append, h52]; rfl
  rw [e2, ← l68, ovr_mid _ (put32 0) (put32 s.data.length) _ rfl]
theorem file84 (e : Nat) (s : Sg) : (fileB e [bareS s]).length = 84 := by
  simp [fileB, tableB_len, datasB, bareS]
set_option maxRecDepth 20000 in
set_option maxHeartbeats 2000000 in
theorem front1_any (w : World) (b off cap ent : Nat) (s : Sg) (h : SegAt w b off s) (hok : checkE ent [s] = 0) (he : ent < 4294967296) : Calls Try.prog 39 #[.agg #[.int .u32 (ent : Int), .slice (some ⟨b, off, none⟩) 1 cap]] w fun e w' => ∃ g cap', e = .returned (.slice (some ⟨g, 0, none⟩) 84 cap') ∧ 84 ≤ cap' ∧ cap' ≤ 9223372036854775807 ∧ Row w' (some ⟨g, 0, none⟩) (tableB ent [s]) cap' ∧ Below w.heap.size w w' := by
  obtain ⟨n, hn⟩ : ∃ n, w.heap.size = n := ⟨_, rfl⟩
  obtain ⟨wa, hwa⟩ : ∃ wa, w.alloc (.cells #[.int .u32 (ent : Int), .slice (some ⟨b, off, none⟩) 1 cap] 25) = wa := ⟨_, rfl⟩
  have hba : Below n w wa := by rw [← hwa, ← hn]; exact below_new w _
  have k0 : Blk wa n #[.int .u32 (ent : Int), .slice (some ⟨b, off, none⟩) 1 cap] 25 := by rw [← hwa, ← hn]; exact Blk.new w _ _
  have hbl := World.block_lt_of_cell? _ _ h.c0
  simp only at hbl
  have q0 : wa.cell? ⟨n, 0, none⟩ = some (.int .u32 (ent : Int)) := k0.cell rfl
  have q1 : wa.cell? ⟨n, 1, none⟩ = some (.slice (some ⟨b, off, none⟩) 1 cap) := k0.cell rfl
  have hcb := check_bare hok
  have hds0 : s.data.length ≤ 16384 := by
    obtain ⟨_, ho, _, _⟩ := check_facts hok
    have := ok_size (ho 0 (by simp))
    have e : ([s] : List Sg).getD 0 nosg = s := rfl
    rw [e] at this
    omega
  have hmk : makeE ent [bareS s] = (fileB ent [bareS s], 0) := by
    unfold makeE
    rw [if_neg (by rw [hcb]; simp), if_neg (by rw [file84]; omega)]
  have H62 : Hid (Calls Try.prog 62 #[.agg #[.int .u32 (ent : Int), .slice (some ⟨b, off, none⟩) 1 cap]] wa fun e w1 => ∃ g0 c0, e = .returned (.agg #[.int .u32 (ent : Int), .slice (some ⟨g0, 0, none⟩) 1 c0]) ∧ Calls Try.prog 21 #[.agg #[.int .u32 (ent : Int), .slice (some ⟨g0, 0, none⟩) 1 c0]] w1 fun e w2 => ∃ g c tl, e = .returned (.tuple #[.slice (some ⟨g, 0, none⟩) 84 c, .int .i64 0]) ∧ n < g ∧ 84 ≤ c ∧ c ≤ 9223372036854775807 ∧ Brow w2 g (fileB ent [bareS s]) tl ∧ Below n w w2 ∧ Blk w2 n #[.int .u32 (ent : Int), .slice (some ⟨b, off, none⟩) 1 cap] 25) := by
    refine (bare1_any wa b off cap ent s (h.later hbl (by rw [hn]; exact hba))).mono ?_
    rintro e w1 ⟨g0, c0, h1, h2, h3, h4, h5⟩
    refine ⟨g0, c0, h1, (make_any w1 _ c0 ent [bareS s] h2 h3 h4 he).mono ?_⟩
    rintro e w2 ⟨v, h6, h7, h8⟩
    rw [hmk] at h6 h7
    obtain ⟨g, c, tl, hv, g1, g2, g3, g4⟩ := out_brow h7 (by intro e; have := file84 ent s; have e' : fileB ent [bareS s] = [] := e; rw [e'] at this; simp at this)
    rw [file84] at hv g2
    have hs := (k0.later h5).lt
    exact ⟨g, c, tl, by rw [h6, hv]; rfl, by omega, g2, g3, g4, (hba.trans (h5.mono (by have := k0.lt; omega))).trans (h8.mono (by omega)), (k0.later h5).later h8⟩
  have HSG := hidden h
  have hds : (ByteArray.mk s.data.toArray).size = s.data.length := by simp [ByteArray.size]
  clear hba k0 hcb hmk
  go_enter Try.func39, Try.ntmps39
  go_wp2_with (first
    | (go_at_call 62; with_reducible refine (Hid.out H62).mono ?_; rintro e w1 ⟨g0, c0, rfl, h21⟩; have H21 := hidden h21; clear h21)
    | (go_at_call 21; with_reducible refine (Hid.out H21).mono ?_; rintro e w2 ⟨g, c, tl, rfl, hg, hc1, hc2, hr2, hb2, hf2⟩; have p1 : w2.cell? ⟨n, 1, none⟩ = some (.slice (some ⟨b, off, none⟩) 1 cap) := hf2.cell rfl; have HR2 := hidden hr2; have HB2 := hidden hb2; have HF2 := hidden hf2; clear hr2 hb2 hf2))
  go_loopw [5, 6, 27] (fun x5 x6 x27 wr => ∃ (k : Nat) (y z : Int) (m : List UInt8), k ≤ 1 ∧ x27 = .int .i64 (k : Int) ∧ x5 = .int .i64 y ∧ x6 = .int .i64 z ∧ (k = 0 → y = 84 ∧ z = 52 ∧ m = fileB ent [bareS s]) ∧ (k = 1 → m = tableB ent [s]) ∧ m.length = 84 ∧ Brow wr g m tl ∧ Below n w wr) (fun _ _ x27 _ => 1 - (intOf x27).toNat)
  case atStart => exact ⟨0, 84, 52, _, by omega, rfl, by simp, by simp, (fun _ => ⟨rfl, rfl, rfl⟩), by omega, file84 _ _, Hid.out HR2, Hid.out HB2⟩
  case round =>
    obtain ⟨k, y, z, m, hk, rfl, rfl, rfl, h0, h1, hm, hr, hb⟩ := hrel
    by_cases hk0 : k = 0
    · subst hk0
      obtain ⟨rfl, rfl, hmf⟩ := h0 rfl
      obtain ⟨c0, c1, c2, c3, fit⟩ := (Hid.out HSG).later hbl (by rw [hn]; exact hb)
      obtain ⟨wo, hwo⟩ : ∃ wo, wr.alloc (.cells #[.int .u32 (s.at_ : Int), .string ⟨s.data.toArray⟩, .int .u32 (s.size : Int), .int .i64 s.perm] 44) = wo := ⟨_, rfl⟩
      have hbo := below_new wr (.cells #[.int .u32 (s.at_ : Int), .string ⟨s.data.toArray⟩, .int .u32 (s.size : Int), .int .i64 s.perm] 44)
      rw [hwo] at hbo
      have hqo : Blk wo wr.heap.size #[.int .u32 (s.at_ : Int), .string ⟨s.data.toArray⟩, .int .u32 (s.size : Int), .int .i64 s.perm] 44 := by rw [← hwo]; exact Blk.new wr _ _
      have hgl : g < wr.heap.size := (Array.getElem?_eq_some_iff.1 hr).1
      have hro : Brow wo g m tl := (hbo.block g hgl).trans hr
      have hbw : Below n w wo := hb.trans (hbo.mono (by omega))
      have H63 : Hid (Calls Try.prog 63 #[.slice (some ⟨g, 0, none⟩) 84 c, .int .i64 56, .int .i64 84] wo fun e w3 => e = .returned (.tuple #[]) ∧ w3.cell? ⟨wr.heap.size, 1, none⟩ = some (.string ⟨s.data.toArray⟩) ∧ Calls Try.prog 63 #[.slice (some ⟨g, 0, none⟩) 84 c, .int .i64 68, .int .i64 (s.data.length : Int)] w3 fun e w4 => e = .returned (.tuple #[]) ∧ w4.cell? ⟨wr.heap.size, 1, none⟩ = some (.string ⟨s.data.toArray⟩) ∧ Brow w4 g (tableB ent [s]) tl ∧ Below n w w4) := by
        have hp := put_any wo g c 56 84 m tl hro (by omega) (by omega) (by omega) hc2
        rw [hm] at hp
        refine Calls.mono hp ?_
        rintro e w3 ⟨e3, r3, kp3⟩
        have q3 : Blk w3 wr.heap.size #[.int .u32 (s.at_ : Int), .string ⟨s.data.toArray⟩, .int .u32 (s.size : Int), .int .i64 s.perm] 44 := (kp3.block wr.heap.size hqo.lt (by omega)).trans hqo
        have hm3 : (ovr m 56 (put32 84)).length = 84 := by rw [ovr_len _ _ _ (by rw [put32_len]; omega)]; exact hm
        have hp2 := put_any w3 g c 68 s.data.length (ovr m 56 (put32 84)) tl r3 (by omega) (by omega) (by omega) hc2
        rw [hm3] at hp2
        refine ⟨e3, q3.cell rfl, Calls.mono hp2 ?_⟩
        rintro e w4 ⟨e4, r4, kp4⟩
        have q4 : Blk w4 wr.heap.size #[.int .u32 (s.at_ : Int), .string ⟨s.data.toArray⟩, .int .u32 (s.size : Int), .int .i64 s.perm] 44 := (kp4.block wr.heap.size q3.lt (by omega)).trans q3
        rw [hmf, table_bare] at r4
        have b3 : Below n w w3 := hbw.trans (kp3.below (by have := hbw.size; omega) (fun b hb => by omega))
        have b4 : Below n w w4 := b3.trans (kp4.below (by have := b3.size; omega) (fun b hb => by omega))
        exact ⟨e4, q4.cell rfl, r4, b4⟩
      clear hr hb hro hbw hmf h0 h1 fit hbo hqo
      have T1 : Hid True := trivial
      go_wp2_with (first
        | (clear T1; go_at_call 63; with_reducible refine (Hid.out H63).mono ?_; rintro e w3 ⟨rfl, s1, h63⟩; have H63b := hidden h63; clear h63)
        | (go_at_call 63; with_reducible refine (Hid.out H63b).mono ?_; rintro e w4 ⟨rfl, s2, hr4, hb4⟩; have HR4 := hidden hr4; have HB4 := hidden hb4; clear hr4 hb4))
      go_roundw
      case rel => exact ⟨1, _, _, _, by omega, by simp, rfl, rfl, by omega, (fun _ => rfl), by simp [tableB_len], Hid.out HR4, Hid.out HB4⟩
      case measure => simp [intOf]
    · obtain rfl : k = 1 := by omega
      have hmt := h1 rfl
      subst hmt
      have HR := hidden hr
      have HB := hidden hb
      clear hr hb h0 h1
      go_wp2
      go_ret
      have ht : (tableB ent [s]).length = 84 := hm
      exact ⟨g, c, rfl, hc1, hc2, (Hid.out HR).row (by omega) hc2, by first | exact Hid.out HB | (rw [hn]; exact Hid.out HB)⟩
end Go.Proofs.Ytpknppicamefgaa

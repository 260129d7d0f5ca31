/- Chapter 2's own sum, and sums of bytes. -/
import Derived.Test.YtpknppicamefgaaQMBG
import Derived.Test.YtpknppicamefgaaQMAI
import Derived.Test.YtpknppicamefgaaQMBA
namespace Go.Proofs.Ytpknppicamefgaa
open Go.ChangeShapes Go.WideShapes Go.ChangeAt Go.RowKit
set_option linter.unusedVariables false
set_option maxHeartbeats 4000000 in
theorem rmore_any (c : Nat) (hc : c < 4294967296) (l : Option Addr) (cap : Nat) (ns : List Nat) (hns : Hid (∀ x ∈ ns, x < 256)) (w : World) (hr : RowN w l ns) (hlen : ns.length ≤ 140737488351232) :
    Calls Try.prog 22 #[.int .u32 (c : Int), .slice l ns.length cap] w fun e w' => e = .returned (.int .u32 ((sumOf c ns : Nat) : Int)) ∧ w' = w := by
  have hs0 : IntKind.u32.signed = false := rfl
  have hn := not32N c hc
  have Hr := hidden hr
  clear hr
  go_enter Try.func22, Try.ntmps22
  go_wp2
  go_loopw [5, 6] (fun h i wr => ∃ k s : Nat, k ≤ ns.length ∧ i = .int .i64 (k : Int) ∧ h = .int .u32 (s : Int) ∧ s < 4294967296 ∧ Crc.fold s (ns.drop k) = Crc.fold (4294967295 - c) ns ∧ wr = w) (fun _ i _ => ns.length - (intOf i).toNat)
  case atStart => exact ⟨0, 4294967295 - c, by omega, rfl, rfl, by omega, rfl, rfl⟩
  case round =>
    obtain ⟨k, s, hk, rfl, rfl, hs, hb, rfl⟩ := hrel
    have HB := hidden hb
    clear hb
    by_cases hkl : k < ns.length
    · rcases Hid.out Hr with hnil | ⟨b, off, rfl, hcell⟩
      · subst hnil; simp at hkl
      have hkl2 : (k : Int) < (ns.length : Int) := by omega
      have hcl := hcell k hkl
      have hb8 := below256 hns k
      have hx := xor8 s (ns.getD k 0) hs hb8
      clear hcell
      generalize hx0 : ns.getD k 0 = x at hcl hb8 hx
      have Hx := hidden hx0
      clear hx0
      have hlt : s ^^^ x < 4294967296 := by
        have : s ^^^ x < 2 ^ 32 := Nat.xor_lt_two_pow (by omega) (by omega)
        omega
      obtain ⟨y, hy⟩ : ∃ y, y = s ^^^ x := ⟨_, rfl⟩
      rw [← hy] at hx hlt
      have HY := hidden hy
      clear hy
      go_wp2
      go_loopw [5, 7] (fun h i wi => ∃ j t : Nat, j ≤ 8 ∧ i = .int .i64 (j : Int) ∧ h = .int .u32 (t : Int) ∧ t < 4294967296 ∧ Crc.bits (8 - j) t = Crc.bits 8 y ∧ wi = wr) (fun _ i _ => 8 - (intOf i).toNat)
      case atStart => exact ⟨0, y, by omega, rfl, by first | rfl | simp, hlt, rfl, rfl⟩
      case round =>
        obtain ⟨j, t, hj, rfl, rfl, ht, hbt, rfl⟩ := hrel
        have hl := low1 t ht
        have htu := turned t ht
        have HBT := hidden hbt
        clear hbt
        by_cases hj8 : j < 8
        · have hj82 : (j : Int) < 8 := by omega
          by_cases h2 : t % 2 = 1
          · have h22 : (t : Int) % 2 = 1 := by omega
            go_wp2
            go_roundw
            case rel =>
              have : t / 2 ^^^ Crc.poly < 2 ^ 32 := Nat.xor_lt_two_pow (by omega) (by decide)
              refine ⟨j + 1, t / 2 ^^^ Crc.poly, by omega, by simp, rfl, by omega, ?_, by first | rfl | trivial⟩
              rw [← Hid.out HBT, show 8 - j = (8 - (j + 1)) + 1 by omega]
              simp only [Crc.bits, Crc.bit1, if_pos h2]
            case measure => simp [intOf]; omega
          · have h22 : ¬ (t : Int) % 2 = 1 := by omega
            go_wp2
            go_roundw
            case rel =>
              refine ⟨j + 1, t / 2, by omega, by simp, by simp, by omega, ?_, by first | rfl | trivial⟩
              rw [← Hid.out HBT, show 8 - j = (8 - (j + 1)) + 1 by omega]
              simp only [Crc.bits, Crc.bit1, if_neg h2]
            case measure => simp [intOf]; omega
        · have hj82 : ¬ (j : Int) < 8 := by omega
          obtain rfl : j = 8 := by omega
          go_wp2
          go_roundw
          case rel =>
            refine ⟨k + 1, t, by omega, by simp, rfl, ht, ?_, by first | rfl | trivial⟩
            have e : t = Crc.bits 8 y := by rw [← Hid.out HBT]; rfl
            rw [← Hid.out HB, drop_get hkl, Hid.out Hx, Crc.fold_cons, e, Hid.out HY]
            rfl
          case measure => simp [intOf]; omega
    · have hkl2 : ¬ (k : Int) < (ns.length : Int) := by omega
      have hnot := not32N s hs
      obtain rfl : k = ns.length := by omega
      go_wp2
      have HB2 := Hid.out HB
      rw [List.drop_length] at HB2
      go_ret
      exact ⟨ret_int (by unfold sumOf; rw [← HB2]; rfl), rfl⟩
/-- The sum of bytes behind c. -/
def sumB (c : Nat) (l : List UInt8) : Nat := sumOf c (l.map UInt8.toNat)
theorem fold_lt8 (c : Nat) (l : List UInt8) (h : c < 4294967296) : Crc.fold c (l.map UInt8.toNat) < 4294967296 := Crc.fold_lt _ h fun b hb => by
  rw [List.mem_map] at hb
  obtain ⟨x, _, rfl⟩ := hb
  exact x.toNat_lt
theorem sumB_lt (c : Nat) (l : List UInt8) : sumB c l < 4294967296 := by unfold sumB sumOf; omega
theorem sumB_append (c : Nat) (l m : List UInt8) (h : c < 4294967296) : sumB c (l ++ m) = sumB (sumB c l) m := by
  unfold sumB sumOf
  rw [List.map_append, Crc.fold_append]
  have := fold_lt8 (4294967295 - c) l (by omega)
  rw [show 4294967295 - (4294967295 - Crc.fold (4294967295 - c) (l.map UInt8.toNat)) = Crc.fold (4294967295 - c) (l.map UInt8.toNat) by omega]
theorem rowN_of {w : World} {ao : Option Addr} {l : List UInt8} {cap : Nat} (h : Row w ao l cap) : RowN w ao (l.map UInt8.toNat) := by
  rcases h.lies with hl | ⟨b, off, e, hc⟩
  · left; rw [hl]; rfl
  · exact .inr ⟨b, off, e, fun j hj => by
      rw [List.length_map] at hj
      rw [hc j hj]
      simp [List.getD_eq_getElem?_getD, hj]⟩
theorem small8 (l : List UInt8) : Hid (∀ x ∈ l.map UInt8.toNat, x < 256) := fun x hx => by
  rw [List.mem_map] at hx
  obtain ⟨y, _, rfl⟩ := hx
  exact y.toNat_lt
theorem more8 (c : Nat) (hc : c < 4294967296) (w : World) (ao : Option Addr) (l : List UInt8) (cap : Nat) (h : Row w ao l cap) (hlen : l.length ≤ 140737488351232) : Calls Try.prog 40 #[.int .u32 (c : Int), .slice ao l.length cap] w fun e w' => e = .returned (.int .u32 (sumB c l : Int)) ∧ w' = w := by
  have := more_any c hc ao cap (l.map UInt8.toNat) (small8 l) w (rowN_of h) (by rw [List.length_map]; exact hlen)
  rw [List.length_map] at this
  exact this
theorem of8 (w : World) (ao : Option Addr) (l : List UInt8) (cap : Nat) (h : Row w ao l cap) (hlen : l.length ≤ 140737488351232) : Calls Try.prog 38 #[.slice ao l.length cap] w fun e w' => e = .returned (.int .u32 (sumB 0 l : Int)) ∧ w' = w := by
  have := of_any ao cap (l.map UInt8.toNat) (small8 l) w (rowN_of h) (by rw [List.length_map]; exact hlen)
  rw [List.length_map] at this
  exact this
theorem rmore8 (c : Nat) (hc : c < 4294967296) (w : World) (ao : Option Addr) (l : List UInt8) (cap : Nat) (h : Row w ao l cap) (hlen : l.length ≤ 140737488351232) : Calls Try.prog 22 #[.int .u32 (c : Int), .slice ao l.length cap] w fun e w' => e = .returned (.int .u32 (sumB c l : Int)) ∧ w' = w := by
  have := rmore_any c hc ao cap (l.map UInt8.toNat) (small8 l) w (rowN_of h) (by rw [List.length_map]; exact hlen)
  rw [List.length_map] at this
  exact this
end Go.Proofs.Ytpknppicamefgaa
namespace Go.Proofs.Ytpknppicamefgaa
open Go.ChangeShapes Go.WideShapes Go.ChangeAt Go.RowKit
set_option linter.unusedVariables false
theorem check_bare {ent : Nat} {s : Sg} (h : checkE ent [s] = 0) : checkE ent [bareS s] = 0 := by
  have hok : okB s = true := by
    cases ho : okB s with
    | true => rfl
    | false => unfold checkE at h; simp [ho] at h
  have hen : enterB ent [s] = true := by
    cases he : enterB ent [s] with
    | true => rfl
    | false => unfold checkE at h; simp [hok, overB, he] at h
  obtain ⟨g1, g2, g3, g4, g5, g6⟩ := ok_size hok
  have h1 : okB (bareS s) = true := by
    unfold okB fitsB bareS
    simp
    omega
  have h2 : enterB ent [bareS s] = true := hen
  unfold checkE
  simp [h1, h2, overB]
theorem out_brow {w : World} {base : Nat} {v : Value} {l : List UInt8} (h : Out w base v l) (hl : l ≠ []) : ∃ g cap tl, v = .slice (some ⟨g, 0, none⟩) l.length cap ∧ base ≤ g ∧ l.length ≤ cap ∧ cap ≤ 9223372036854775807 ∧ Brow w g l tl := by
  rcases h.2 with ⟨_, h0⟩ | ⟨g, cap, cur, e, hb, hg, hnc, hcm, hcs, htk⟩
  · exact absurd (List.eq_nil_of_length_eq_zero h0) hl
  · refine ⟨g, cap, cur.toList.drop l.length, e, hb, hnc, hcm, ?_⟩
    unfold Brow
    rw [hg]
    congr 2
    apply Array.ext'
    have e2 : cur.toList = cur.toList.take l.length ++ cur.toList.drop l.length := (List.take_append_drop _ _).symm
    have e3 : cur.toList.take l.length = cellsU l := by rw [← htk, Nat.mul_one]
    rw [e3] at e2
    exact e2
theorem Brow.row {w : World} {g : Nat} {l : List UInt8} {tl : List Value} (h : Brow w g l tl) {cap : Nat} (h1 : l.length ≤ cap) (h2 : cap ≤ 9223372036854775807) : Row w (some ⟨g, 0, none⟩) l cap := by
  refine ⟨h1, h2, (fun e => by cases e), .inr ⟨g, 0, rfl, fun j hj => ?_⟩⟩
  rw [Nat.zero_add, cell_of_row _ _ _ _ _ _ h]
  simp [cellsU, List.getElem?_append_left, hj, List.getD_eq_getElem?_getD]
theorem ovr_mid (a p q b : List UInt8) (h : p.length = q.length) : ovr (a ++ (p ++ b)) a.length q = a ++ (q ++ b) := by
  unfold ovr
  rw [List.take_left', ← h]
  · rw [← List.append_assoc a p b, List.drop_left' (by simp), List.append_assoc]
  · rfl
theorem table_bare (e : Nat) (s : Sg) : ovr (ovr (fileB e [bareS s]) 56 (put32 84)) 68 (put32 s.data.length) = tableB e [s] := by
  have h52 : (headB e 1).length = 52 := headB_len e 1
  have e0 : fileB e [bareS s] = (headB e 1 ++ put32 1) ++ (put32 84 ++ (put32 s.at_ ++ put32 s.at_ ++ (put32 0 ++ (put32 s.size ++ put32 s.perm.toNat ++ put32 4)))) := by
    simp [fileB, tableB, rowsB, rowB, datasB, bareS]
  have e1 : tableB e [s] = (headB e 1 ++ put32 1 ++ put32 84 ++ put32 s.at_ ++ put32 s.at_) ++ (put32 s.data.length ++ (put32 s.size ++ put32 s.perm.toNat ++ put32 4)) := by
    simp [tableB, rowsB, rowB]
  have l56 : (headB e 1 ++ put32 1).length = 56 := by rw [List.length_append, h52]; rfl
  rw [e0, ← l56, ovr_mid _ (put32 84) (put32 84) _ rfl, e1]
  have e2 : (headB e 1 ++ put32 1) ++ (put32 84 ++ (put32 s.at_ ++ put32 s.at_ ++ (put32 0 ++ (put32 s.size ++ put32 s.perm.toNat ++ put32 4)))) = (headB e 1 ++ put32 1 ++ put32 84 ++ put32 s.at_ ++ put32 s.at_) ++ (put32 0 ++ (put32 s.size ++ put32 s.perm.toNat ++ put32 4)) := by simp
  have l68 : (headB e 1 ++ put32 1 ++ put32 84 ++ put32 s.at_ ++ put32 s.at_).length = 68 := by
    simp only [List.length_append, h52]; rfl
  rw [e2, ← l68, ovr_mid _ (put32 0) (put32 s.data.length) _ rfl]
theorem file84 (e : Nat) (s : Sg) : (fileB e [bareS s]).length = 84 := by
  simp [fileB, tableB_len, datasB, bareS]
set_option maxRecDepth 20000 in
set_option maxHeartbeats 2000000 in
theorem front1_any (w : World) (b off cap ent : Nat) (s : Sg) (h : SegAt w b off s) (hok : checkE ent [s] = 0) (he : ent < 4294967296) : Calls Try.prog 39 #[.agg #[.int .u32 (ent : Int), .slice (some ⟨b, off, none⟩) 1 cap]] w fun e w' => ∃ g cap', e = .returned (.slice (some ⟨g, 0, none⟩) 84 cap') ∧ 84 ≤ cap' ∧ cap' ≤ 9223372036854775807 ∧ Row w' (some ⟨g, 0, none⟩) (tableB ent [s]) cap' ∧ Below w.heap.size w w' := by
  obtain ⟨n, hn⟩ : ∃ n, w.heap.size = n := ⟨_, rfl⟩
  obtain ⟨wa, hwa⟩ : ∃ wa, w.alloc (.cells #[.int .u32 (ent : Int), .slice (some ⟨b, off, none⟩) 1 cap] 25) = wa := ⟨_, rfl⟩
  have hba : Below n w wa := by rw [← hwa, ← hn]; exact below_new w _
  have k0 : Blk wa n #[.int .u32 (ent : Int), .slice (some ⟨b, off, none⟩) 1 cap] 25 := by rw [← hwa, ← hn]; exact Blk.new w _ _
  have hbl := World.block_lt_of_cell? _ _ h.c0
  simp only at hbl
  have q0 : wa.cell? ⟨n, 0, none⟩ = some (.int .u32 (ent : Int)) := k0.cell rfl
  have q1 : wa.cell? ⟨n, 1, none⟩ = some (.slice (some ⟨b, off, none⟩) 1 cap) := k0.cell rfl
  have hcb := check_bare hok
  have hds0 : s.data.length ≤ 16384 := by
    obtain ⟨_, ho, _, _⟩ := check_facts hok
    have := ok_size (ho 0 (by simp))
    have e : ([s] : List Sg).getD 0 nosg = s := rfl
    rw [e] at this
    omega
  have hmk : makeE ent [bareS s] = (fileB ent [bareS s], 0) := by
    unfold makeE
    rw [if_neg (by rw [hcb]; simp), if_neg (by rw [file84]; omega)]
  have H62 : Hid (Calls Try.prog 62 #[.agg #[.int .u32 (ent : Int), .slice (some ⟨b, off, none⟩) 1 cap]] wa fun e w1 => ∃ g0 c0, e = .returned (.agg #[.int .u32 (ent : Int), .slice (some ⟨g0, 0, none⟩) 1 c0]) ∧ Calls Try.prog 21 #[.agg #[.int .u32 (ent : Int), .slice (some ⟨g0, 0, none⟩) 1 c0]] w1 fun e w2 => ∃ g c tl, e = .returned (.tuple #[.slice (some ⟨g, 0, none⟩) 84 c, .int .i64 0]) ∧ n < g ∧ 84 ≤ c ∧ c ≤ 9223372036854775807 ∧ Brow w2 g (fileB ent [bareS s]) tl ∧ Below n w w2 ∧ Blk w2 n #[.int .u32 (ent : Int), .slice (some ⟨b, off, none⟩) 1 cap] 25) := by
    refine (bare1_any wa b off cap ent s (h.later hbl (by rw [hn]; exact hba))).mono ?_
    rintro e w1 ⟨g0, c0, h1, h2, h3, h4, h5⟩
    refine ⟨g0, c0, h1, (make_any w1 _ c0 ent [bareS s] h2 h3 h4 he).mono ?_⟩
    rintro e w2 ⟨v, h6, h7, h8⟩
    rw [hmk] at h6 h7
    obtain ⟨g, c, tl, hv, g1, g2, g3, g4⟩ := out_brow h7 (by intro e; have := file84 ent s; have e' : fileB ent [bareS s] = [] := e; rw [e'] at this; simp at this)
    rw [file84] at hv g2
    have hs := (k0.later h5).lt
    exact ⟨g, c, tl, by rw [h6, hv]; rfl, by omega, g2, g3, g4, (hba.trans (h5.mono (by have := k0.lt; omega))).trans (h8.mono (by omega)), (k0.later h5).later h8⟩
  have HSG := hidden h
  have hds : (ByteArray.mk s.data.toArray).size = s.data.length := by simp [ByteArray.size]
  clear hba k0 hcb hmk
  go_enter Try.func39, Try.ntmps39
  go_wp2_with (first
    | (go_at_call 62; with_reducible refine (Hid.out H62).mono ?_; rintro e w1 ⟨g0, c0, rfl, h21⟩; have H21 := hidden h21; clear h21)
    | (go_at_call 21; with_reducible refine (Hid.out H21).mono ?_; rintro e w2 ⟨g, c, tl, rfl, hg, hc1, hc2, hr2, hb2, hf2⟩; have p1 : w2.cell? ⟨n, 1, none⟩ = some (.slice (some ⟨b, off, none⟩) 1 cap) := hf2.cell rfl; have HR2 := hidden hr2; have HB2 := hidden hb2; have HF2 := hidden hf2; clear hr2 hb2 hf2))
  go_loopw [5, 6, 27] (fun x5 x6 x27 wr => ∃ (k : Nat) (y z : Int) (m : List UInt8), k ≤ 1 ∧ x27 = .int .i64 (k : Int) ∧ x5 = .int .i64 y ∧ x6 = .int .i64 z ∧ (k = 0 → y = 84 ∧ z = 52 ∧ m = fileB ent [bareS s]) ∧ (k = 1 → m = tableB ent [s]) ∧ m.length = 84 ∧ Brow wr g m tl ∧ Below n w wr) (fun _ _ x27 _ => 1 - (intOf x27).toNat)
  case atStart => exact ⟨0, 84, 52, _, by omega, rfl, by simp, by simp, (fun _ => ⟨rfl, rfl, rfl⟩), by omega, file84 _ _, Hid.out HR2, Hid.out HB2⟩
  case round =>
    obtain ⟨k, y, z, m, hk, rfl, rfl, rfl, h0, h1, hm, hr, hb⟩ := hrel
    by_cases hk0 : k = 0
    · subst hk0
      obtain ⟨rfl, rfl, hmf⟩ := h0 rfl
      obtain ⟨c0, c1, c2, c3, fit⟩ := (Hid.out HSG).later hbl (by rw [hn]; exact hb)
      obtain ⟨wo, hwo⟩ : ∃ wo, wr.alloc (.cells #[.int .u32 (s.at_ : Int), .string ⟨s.data.toArray⟩, .int .u32 (s.size : Int), .int .i64 s.perm] 44) = wo := ⟨_, rfl⟩
      have hbo := below_new wr (.cells #[.int .u32 (s.at_ : Int), .string ⟨s.data.toArray⟩, .int .u32 (s.size : Int), .int .i64 s.perm] 44)
      rw [hwo] at hbo
      have hqo : Blk wo wr.heap.size #[.int .u32 (s.at_ : Int), .string ⟨s.data.toArray⟩, .int .u32 (s.size : Int), .int .i64 s.perm] 44 := by rw [← hwo]; exact Blk.new wr _ _
      have hgl : g < wr.heap.size := (Array.getElem?_eq_some_iff.1 hr).1
      have hro : Brow wo g m tl := (hbo.block g hgl).trans hr
      have hbw : Below n w wo := hb.trans (hbo.mono (by omega))
      have H63 : Hid (Calls Try.prog 63 #[.slice (some ⟨g, 0, none⟩) 84 c, .int .i64 56, .int .i64 84] wo fun e w3 => e = .returned (.tuple #[]) ∧ w3.cell? ⟨wr.heap.size, 1, none⟩ = some (.string ⟨s.data.toArray⟩) ∧ Calls Try.prog 63 #[.slice (some ⟨g, 0, none⟩) 84 c, .int .i64 68, .int .i64 (s.data.length : Int)] w3 fun e w4 => e = .returned (.tuple #[]) ∧ w4.cell? ⟨wr.heap.size, 1, none⟩ = some (.string ⟨s.data.toArray⟩) ∧ Brow w4 g (tableB ent [s]) tl ∧ Below n w w4) := by
        have hp := put_any wo g c 56 84 m tl hro (by omega) (by omega) (by omega) hc2
        rw [hm] at hp
        refine Calls.mono hp ?_
        rintro e w3 ⟨e3, r3, kp3⟩
        have q3 : Blk w3 wr.heap.size #[.int .u32 (s.at_ : Int), .string ⟨s.data.toArray⟩, .int .u32 (s.size : Int), .int .i64 s.perm] 44 := (kp3.block wr.heap.size hqo.lt (by omega)).trans hqo
        have hm3 : (ovr m 56 (put32 84)).length = 84 := by rw [ovr_len _ _ _ (by rw [put32_len]; omega)]; exact hm
        have hp2 := put_any w3 g c 68 s.data.length (ovr m 56 (put32 84)) tl r3 (by omega) (by omega) (by omega) hc2
        rw [hm3] at hp2
        refine ⟨e3, q3.cell rfl, Calls.mono hp2 ?_⟩
        rintro e w4 ⟨e4, r4, kp4⟩
        have q4 : Blk w4 wr.heap.size #[.int .u32 (s.at_ : Int), .string ⟨s.data.toArray⟩, .int .u32 (s.size : Int), .int .i64 s.perm] 44 := (kp4.block wr.heap.size q3.lt (by omega)).trans q3
        rw [hmf, table_bare] at r4
        have b3 : Below n w w3 := hbw.trans (kp3.below (by have := hbw.size; omega) (fun b hb => by omega))
        have b4 : Below n w w4 := b3.trans (kp4.below (by have := b3.size; omega) (fun b hb => by omega))
        exact ⟨e4, q4.cell rfl, r4, b4⟩
      clear hr hb hro hbw hmf h0 h1 fit hbo hqo
      have T1 : Hid True := trivial
      go_wp2_with (first
        | (clear T1; go_at_call 63; with_reducible refine (Hid.out H63).mono ?_; rintro e w3 ⟨rfl, s1, h63⟩; have H63b := hidden h63; clear h63)
        | (go_at_call 63; with_reducible refine (Hid.out H63b).mono ?_; rintro e w4 ⟨rfl, s2, hr4, hb4⟩; have HR4 := hidden hr4; have HB4 := hidden hb4; clear hr4 hb4))
      go_roundw
      case rel => exact ⟨1, _, _, _, by omega, by simp, rfl, rfl, by omega, (fun _ => rfl), by simp [tableB_len], Hid.out HR4, Hid.out HB4⟩
      case measure => simp [intOf]
    · obtain rfl : k = 1 := by omega
      have hmt := h1 rfl
      subst hmt
      have HR := hidden hr
      have HB := hidden hb
      clear hr hb h0 h1
      go_wp2
      go_ret
      have ht : (tableB ent [s]).length = 84 := hm
      exact ⟨g, c, rfl, hc1, hc2, (Hid.out HR).row (by omega) hc2, by first | exact Hid.out HB | (rw [hn]; exact Hid.out HB)⟩
end Go.Proofs.Ytpknppicamefgaa
namespace Go.Proofs.Ytpknppicamefgaa
open Go.ChangeShapes Go.WideShapes Go.ChangeAt Go.RowKit
set_option linter.unusedVariables false
def barek (l : List Sg) (k : Nat) : List Sg := (l.take k).map bareS ++ l.drop k
theorem barek_zero (l : List Sg) : barek l 0 = l := by simp [barek]
theorem barek_all (l : List Sg) : barek l l.length = l.map bareS := by simp [barek]
theorem barek_len (l : List Sg) {k : Nat} (h : k ≤ l.length) : (barek l k).length = l.length := by simp [barek]; omega
theorem segs_bare (l : List Sg) (tl : List Value) {k : Nat} (hk : k < l.length) : (segCells (barek l k) ++ tl).toArray.setIfInBounds (k * 4 + 1) (.string ⟨#[]⟩) = (segCells (barek l (k + 1)) ++ tl).toArray := by
  have e1 : barek l k = (l.take k).map bareS ++ (l[k] :: l.drop (k + 1)) := by unfold barek; rw [List.drop_eq_getElem_cons hk]
  have e2 : barek l (k + 1) = (l.take k).map bareS ++ (bareS l[k] :: l.drop (k + 1)) := by
    unfold barek
    rw [List.take_add_one, List.getElem?_eq_getElem hk, List.map_append]
    simp
  have hl : (segCells ((l.take k).map bareS)).length = k * 4 := by rw [segCells_len, List.length_map, List.length_take]; omega
  have e3 : ∀ (s : Sg) (t : List Sg), segCells (s :: t) = [.int .u32 (s.at_ : Int), .string ⟨s.data.toArray⟩, .int .u32 (s.size : Int), .int .i64 s.perm] ++ segCells t := fun _ _ => rfl
  apply Array.ext'
  rw [Array.toList_setIfInBounds]
  simp only
  rw [e1, e2, segCells_append, segCells_append, e3, e3, List.append_assoc, List.append_assoc, List.set_append_right _ _ (by omega), hl, show k * 4 + 1 - k * 4 = 1 by omega]
  simp only [List.append_assoc]
  rfl
theorem segs_cells {w : World} {b off : Nat} {l : List Sg} (h : ∀ j, j < l.length → SegAt w b (off + j * 4) (l.getD j nosg)) : ∀ j u, (segCells l)[j]? = some u → w.cell? ((⟨b, off, none⟩ : Addr).add j) = some u := by
  intro j u hu
  have hj := (List.getElem?_eq_some_iff.1 hu).1
  rw [segCells_len] at hj
  have hd : j / 4 * 4 + j % 4 = j := by omega
  rw [← hd, segCells_get l (j / 4) (j % 4) (by omega) (by omega)] at hu
  have g := h (j / 4) (by omega)
  rw [Addr.add_lit]
  have ea : off + j = off + j / 4 * 4 + j % 4 := by omega
  rw [ea]
  rcases (show j % 4 = 0 ∨ j % 4 = 1 ∨ j % 4 = 2 ∨ j % 4 = 3 by omega) with e | e | e | e <;> rw [e] at hu ⊢ <;> cases hu
  · exact g.c0
  · exact g.c1
  · exact g.c2
  · exact g.c3
set_option maxRecDepth 20000 in
set_option maxHeartbeats 1000000 in
theorem cloneN_any (w : World) (b off cap : Nat) (l : List Sg) (hl : 0 < l.length) (hl8 : l.length ≤ 8) (hb0 : b < w.heap.size) (h : ∀ j, j < l.length → SegAt w b (off + j * 4) (l.getD j nosg)) : Calls Try.prog 82 #[.slice (some ⟨b, off, none⟩) l.length cap] w fun e w' => ∃ v, e = .returned v ∧ OutS w' w.heap.size v l ∧ Below w.heap.size w w' := by
  obtain ⟨i0, hi, hz0, hz1, hz2⟩ := info_parts info43
  have HC : Hid (∀ o : Obj, ∀ j u, (segCells l)[j]? = some u → (w.alloc o).cell? ((⟨b, off, none⟩ : Addr).add j) = some u) := by
    intro o j u hu
    have hc := (below_new w o).cell (p := (⟨b, off, none⟩ : Addr).add j) (by rw [Addr.add_lit]; exact hb0)
    rw [hc]
    exact segs_cells h j u hu
  clear h
  have heq : ∀ u, (binOp .eql 23 (.slice (some ⟨b, off, none⟩) l.length cap) (.slice none 0 0)).run Try.prog u = .ok (.bool false) u := fun u => by kernel_rfl
  have HOW : Hid ((w.alloc (.cells #[] 44)).ownsRow w.heap.size 44 4 (.slice (some ⟨w.heap.size, 0, none⟩) 0 0) 0 []) := ⟨rfl, .inr ⟨w.heap.size, 0, #[], rfl, Nat.le_refl _, heap_alloc_new w _, Nat.le_refl _, by simp [maxLen], rfl, rfl⟩⟩
  have n1 : (0 : Nat) < 4 := by omega
  have n2 : 0 + l.length ≤ maxLen := by unfold maxLen; omega
  have n3 : (0 + l.length) * 40 ≤ 140737488355328 := by omega
  have n4 : w.heap.size ≤ (w.alloc (.cells #[] 44)).heap.size := by simp
  have n5 := segCells_len l
  have HB2 : Hid (∀ w', (w.alloc (.cells #[] 44)).grownBy w' (some w.heap.size) → Below w.heap.size w w') := fun w' hg => (below_new w (.cells #[] 44)).grown hg n4 fun k e => by cases e; exact Nat.le_refl _
  have HOO : Hid (∀ w1 v', w1.ownsRow w.heap.size 44 4 v' (0 + l.length) ([] ++ segCells l) → OutS w1 w.heap.size v' l) := fun w1 v' ho => by
    rw [Nat.zero_add, List.nil_append] at ho
    exact ho
  go_enter Try.func82, Try.ntmps82
  go_wp2_with (refine wpList_append_own_at _ rfl _ _ 23 rfl w.heap.size 44 i0 _ 4 40 Try.underlying23 hi hz0 hz1 hz2 rfl n1 (.slice (some ⟨w.heap.size, 0, none⟩) 0 0) 0 [] rfl (Hid.out HOW) ⟨b, off, none⟩ l.length cap (segCells l) rfl n5 (Hid.out HC _) (segCells_one _) n2 n3 n4 ?_; intro v' w1 hown hgrow _ _; have HO := hidden (Hid.out HOO _ _ hown); have HG := hidden (Hid.out HB2 w1 hgrow); clear hown hgrow)
  go_ret
  exact ⟨v', rfl, Hid.out HO, Hid.out HG⟩
theorem outS_rows {w : World} {base : Nat} {v : Value} {l : List Sg} (hl : 0 < l.length) (h : OutS w base v l) : ∃ g cap tl, v = .slice (some ⟨g, 0, none⟩) l.length cap ∧ base ≤ g ∧ l.length ≤ cap ∧ cap ≤ 9223372036854775807 ∧ w.heap[g]? = some (.cells (segCells l ++ tl).toArray 44 (0, 0)) := by
  rcases h.2 with ⟨_, h0⟩ | ⟨g, cap, cur, e, hb, hg, hnc, hcm, hcs, htk⟩
  · omega
  · refine ⟨g, cap, cur.toList.drop (l.length * 4), e, hb, hnc, hcm, ?_⟩
    rw [hg]
    congr 2
    apply Array.ext'
    simp only
    have e2 : cur.toList = cur.toList.take (l.length * 4) ++ cur.toList.drop (l.length * 4) := (List.take_append_drop _ _).symm
    rw [htk] at e2
    exact e2
set_option maxRecDepth 20000 in
set_option maxHeartbeats 1000000 in
theorem bareN_any (w : World) (b off cap ent : Nat) (l : List Sg) (hl : 0 < l.length) (hl8 : l.length ≤ 8) (hbl : b < w.heap.size) (h : ∀ j, j < l.length → SegAt w b (off + j * 4) (l.getD j nosg)) : Calls Try.prog 62 #[.agg #[.int .u32 (ent : Int), .slice (some ⟨b, off, none⟩) l.length cap]] w fun e w' => ∃ g cap', e = .returned (.agg #[.int .u32 (ent : Int), .slice (some ⟨g, 0, none⟩) l.length cap']) ∧ Segs w' (some ⟨g, 0, none⟩) (l.map bareS) ∧ l.length ≤ cap' ∧ cap' ≤ 9223372036854775807 ∧ Below w.heap.size w w' := by
  obtain ⟨n, hn⟩ : ∃ n, w.heap.size = n := ⟨_, rfl⟩
  obtain ⟨wa, hwa⟩ : ∃ wa, (w.alloc (.cells #[.int .u32 (ent : Int), .slice (some ⟨b, off, none⟩) l.length cap] 25)).alloc (.cells #[.int .u32 0, .slice none 0 0] 25) = wa := ⟨_, rfl⟩
  have hba : Below n w wa := by rw [← hwa, ← hn]; exact ((Below.refl _ w).alloc (Nat.le_refl _) _).alloc (by simp) _
  have k0 : Blk wa n #[.int .u32 (ent : Int), .slice (some ⟨b, off, none⟩) l.length cap] 25 := by rw [← hwa, ← hn]; exact (heap_alloc_old _ _ (by simp)).trans (Blk.new w _ _)
  have k1 : Blk wa (n + 1) #[.int .u32 0, .slice none 0 0] 25 := by
    have := Blk.new (w.alloc (.cells #[.int .u32 (ent : Int), .slice (some ⟨b, off, none⟩) l.length cap] 25)) #[.int .u32 0, .slice none 0 0] 25
    rw [World.size_alloc, hn] at this
    rw [← hwa]; exact this
  have q1 : wa.cell? ⟨n, 1, none⟩ = some (.slice (some ⟨b, off, none⟩) l.length cap) := k0.cell rfl
  have HFIT : Hid (∀ j, j < l.length → Fit (l.getD j nosg)) := fun j hj => (h j hj).fit
  have H82 : Hid (Calls Try.prog 82 #[.slice (some ⟨b, off, none⟩) l.length cap] wa fun e w1 => ∃ g cap' tl, e = .returned (.slice (some ⟨g, 0, none⟩) l.length cap') ∧ n + 2 ≤ g ∧ l.length ≤ cap' ∧ cap' ≤ 9223372036854775807 ∧ w1.heap[g]? = some (.cells (segCells l ++ tl).toArray 44 (0, 0)) ∧ Below n w w1 ∧ Blk w1 n #[.int .u32 (ent : Int), .slice (some ⟨b, off, none⟩) l.length cap] 25 ∧ Blk w1 (n + 1) #[.int .u32 0, .slice none 0 0] 25) := by
    refine (cloneN_any wa b off cap l hl hl8 (Nat.lt_of_lt_of_le hbl hba.size) fun j hj => (h j hj).later hbl (by rw [hn]; exact hba)).mono ?_
    rintro e w1 ⟨v, he, ho, hb1⟩
    obtain ⟨g, cap', tl, hv, h1, h2, h3, h4⟩ := outS_rows hl ho
    have hs := k1.lt
    exact ⟨g, cap', tl, by rw [he, hv], by omega, h2, h3, h4, hba.trans (hb1.mono (by omega)), k0.later hb1, k1.later hb1⟩
  clear h hba k0 k1 hbl
  have hl82 : (l.length : Int) ≤ 8 := by omega
  go_enter Try.func62, Try.ntmps62
  go_wp2_with (go_at_call 82; with_reducible refine (Hid.out H82).mono ?_; rintro e w1 ⟨g, cap', tl, rfl, hg, hc1, hc2, hrow, hb1, hf1, hz1⟩; have HR := hidden hrow; have HB1 := hidden hb1; have HF1 := hidden hf1; have HZ1 := hidden hz1; clear hrow hb1 hf1 hz1)
  go_loopw [10] (fun x10 wr => ∃ (k : Nat), k ≤ l.length ∧ x10 = .int .i64 (k : Int) ∧ wr.heap[g]? = some (.cells (segCells (barek l k) ++ tl).toArray 44 (0, 0)) ∧ Below n w wr ∧ Blk wr n #[.int .u32 (ent : Int), .slice (some ⟨b, off, none⟩) l.length cap] 25 ∧ Blk wr (n + 1) #[.int .u32 0, .slice none 0 0] 25) (fun x10 _ => l.length - (intOf x10).toNat)
  case atStart => exact ⟨0, by omega, rfl, by rw [barek_zero]; exact Hid.out HR, Hid.out HB1, Hid.out HF1, Hid.out HZ1⟩
  case round =>
    obtain ⟨k, hk, rfl, hr, hb, hf, hz⟩ := hrel
    by_cases hkl : k < l.length
    · have hk2 : (k : Int) < (l.length : Int) := by omega
      have c1 : ∃ y, wr.cell? ⟨g, k * 4 + 1, none⟩ = some y := by
        refine ⟨_, (cell_of_row _ _ _ _ _ _ hr).trans (List.getElem?_toArray.trans ((List.getElem?_append_left (by rw [segCells_len, barek_len l hk]; omega)).trans (List.getElem?_eq_getElem (by rw [segCells_len, barek_len l hk]; omega))))⟩
      obtain ⟨y, c1⟩ := c1
      have f1 : wr.frozen? ⟨g, k * 4 + 1, none⟩ = false := frozen_of_row _ _ _ _ _ hr
      have HR2 : Hid ((wr.setCell ⟨g, k * 4 + 1, none⟩ (.string ⟨#[]⟩)).heap[g]? = some (.cells (segCells (barek l (k + 1)) ++ tl).toArray 44 (0, 0))) := by
        show (wr.setCell ⟨g, k * 4 + 1, none⟩ (.string ⟨#[]⟩)).heap[g]? = _
        rw [heap_setCell_same wr g (k * 4 + 1) _ 44 _ hr, segs_bare l tl hkl]
      have HB2 : Hid (Below n w (wr.setCell ⟨g, k * 4 + 1, none⟩ (.string ⟨#[]⟩))) := hb.setCell (p := ⟨g, k * 4 + 1, none⟩) (by show n ≤ g; omega) _
      have HF2 : Hid (Blk (wr.setCell ⟨g, k * 4 + 1, none⟩ (.string ⟨#[]⟩)) n #[.int .u32 (ent : Int), .slice (some ⟨b, off, none⟩) l.length cap] 25) := (Below.heap_setCell _ _ _ _ (by show n ≠ g; omega)).trans hf
      have HZ2 : Hid (Blk (wr.setCell ⟨g, k * 4 + 1, none⟩ (.string ⟨#[]⟩)) (n + 1) #[.int .u32 0, .slice none 0 0] 25) := (Below.heap_setCell _ _ _ _ (by show n + 1 ≠ g; omega)).trans hz
      clear hr hb hf hz
      go_wp2
      go_roundw
      case rel => first | exact ⟨k + 1, by omega, by simp, Hid.out HR2, Hid.out HB2, Hid.out HF2, Hid.out HZ2⟩ | ((repeat apply Exists.intro); exact ⟨⟨k + 1, by omega, by simp, Hid.out HR2, Hid.out HB2, Hid.out HF2, Hid.out HZ2⟩, rfl⟩)
      case measure => simp [intOf]; omega
    · have hk2 : ¬ (k : Int) < (l.length : Int) := by omega
      obtain rfl : k = l.length := by omega
      rw [barek_all] at hr
      have r0 : wr.cell? ⟨n, 0, none⟩ = some (.int .u32 (ent : Int)) := hf.cell rfl
      obtain ⟨z0, z1, hzl, hzf⟩ := zero26 hz
      have HB := hidden hb
      have HZ := hidden hz
      have HSG : Hid (Blk wr g (segCells (l.map bareS) ++ tl).toArray 44) := hr
      clear hr hb hf hz
      go_wp2
      have hz2 := (Hid.out HZ).set2 (a' := .int .u32 (ent : Int)) (b' := .slice (some ⟨g, 0, none⟩) l.length cap')
      have hb2 := below_set2 (a' := .int .u32 (ent : Int)) (b' := .slice (some ⟨g, 0, none⟩) l.length cap') (g := n + 1) (Hid.out HB) (by omega)
      have hr2 : Blk ((wr.setCell ⟨n + 1, 0, none⟩ (.int .u32 (ent : Int))).setCell ⟨n + 1, 1, none⟩ (.slice (some ⟨g, 0, none⟩) l.length cap')) g (segCells (l.map bareS) ++ tl).toArray 44 := (Below.heap_setCell _ _ _ _ (by show g ≠ n + 1; omega)).trans ((Below.heap_setCell _ _ _ _ (by show g ≠ n + 1; omega)).trans (Hid.out HSG))
      generalize World.setCell _ _ _ = wf at hz2 hb2 hr2 ⊢
      have g0 : wf.cell? ⟨n + 1, 0, none⟩ = some (.int .u32 (ent : Int)) := hz2.cell rfl
      have g1 : wf.cell? ⟨n + 1, 1, none⟩ = some (.slice (some ⟨g, 0, none⟩) l.length cap') := hz2.cell rfl
      refine bodyPost_ret (v := .agg #[.int .u32 (ent : Int), .slice (some ⟨g, 0, none⟩) l.length cap']) (by simp [results, Try.results62, go_sem, g0, g1]) rfl ⟨g, cap', rfl, .inr ⟨g, 0, rfl, hr2.lt, fun j hj => ?_⟩, hc1, hc2, by first | exact hb2 | (rw [hn]; exact hb2)⟩
      have hj2 : j < l.length := by simpa using hj
      have eg : (l.map bareS).getD j nosg = bareS (l.getD j nosg) := by simp [List.getD_eq_getElem?_getD, hj2]
      have hcell : ∀ i u, i < 4 → (#[Value.int .u32 (((l.map bareS).getD j nosg).at_ : Int), .string ⟨((l.map bareS).getD j nosg).data.toArray⟩, .int .u32 (((l.map bareS).getD j nosg).size : Int), .int .i64 ((l.map bareS).getD j nosg).perm] : Array Value)[i]? = some u → wf.cell? ⟨g, 0 + j * 4 + i, none⟩ = some u := fun i u hi hu => by
        rw [Nat.zero_add]
        refine hr2.cell ?_
        rw [List.getElem?_toArray, List.getElem?_append_left (by rw [segCells_len]; omega), segCells_get _ j i hj hi]
        exact hu
      have hf2 := Hid.out HFIT j hj2
      exact ⟨hcell 0 _ (by omega) rfl, hcell 1 _ (by omega) rfl, hcell 2 _ (by omega) rfl, hcell 3 _ (by omega) rfl, by rw [eg]; exact ⟨hf2.la, hf2.ls, by simp [bareS]⟩⟩
end Go.Proofs.Ytpknppicamefgaa

/- load's front, of a file of any segments. -/
import Derived.Test.YtpknppicamefgaaQMBH
namespace Go.Proofs.Ytpknppicamefgaa
open Go.ChangeShapes Go.WideShapes Go.ChangeAt Go.RowKit
set_option linter.unusedVariables false
theorem bare_getD (l : List Sg) (a : Nat) : (l.map bareS).getD a nosg = bareS (l.getD a nosg) := by
  rw [List.getD_eq_getElem?_getD, List.getElem?_map, List.getD_eq_getElem?_getD]
  cases l[a]? <;> rfl
theorem check_bareN {ent : Nat} {l : List Sg} (h : checkE ent l = 0) : checkE ent (l.map bareS) = 0 := by
  obtain ⟨h8, hok, hov, hen⟩ := check_zero h
  have o1 : (l.map bareS).all okB = true := by
    rw [List.all_map, List.all_eq_true]
    intro s hs
    have := List.all_eq_true.1 hok s hs
    obtain ⟨g1, g2, g3, g4, g5, g6⟩ := ok_size this
    show okB (bareS s) = true
    unfold okB fitsB bareS
    simp
    omega
  have o2 : overB (l.map bareS) = false := by
    rw [← hov]
    unfold overB
    rw [List.length_map]
    simp only [bare_getD]
    rfl
  have o3 : enterB ent (l.map bareS) = true := by
    rw [← hen]
    unfold enterB
    rw [List.any_map]
    rfl
  unfold checkE
  rw [if_neg (by rw [List.length_map]; omega), if_neg (by rw [o1]; simp), if_neg (by rw [o2]; simp), if_neg (by rw [o3]; simp)]
def bareRows (f : Nat) : List Sg → List UInt8
  | [] => []
  | s :: t => rowB f (bareS s) ++ bareRows f t
theorem rows_bare (f : Nat) : ∀ l : List Sg, rowsB f (l.map bareS) = bareRows f l
  | [] => rfl
  | s :: t => by
    show rowB f (bareS s) ++ rowsB (f + 0) (t.map bareS) = _
    rw [Nat.add_zero, rows_bare f t]
    rfl
theorem datas_bare : ∀ l : List Sg, datasB (l.map bareS) = []
  | [] => rfl
  | s :: t => by
    show [] ++ datasB (t.map bareS) = []
    rw [datas_bare t]
    rfl
theorem bareRows_len (f : Nat) : ∀ l : List Sg, (bareRows f l).length = 32 * l.length
  | [] => rfl
  | s :: t => by
    rw [bareRows, List.length_append, rowB_len, bareRows_len f t, List.length_cons]
    omega
/-- A table on the way. -/
def tableS (e : Nat) (l : List Sg) (k : Nat) : List UInt8 := headB e l.length ++ rowsB (52 + 32 * l.length) (l.take k) ++ bareRows (52 + 32 * l.length) (l.drop k)
theorem tableS_zero (e : Nat) (l : List Sg) : fileB e (l.map bareS) = tableS e l 0 := by
  unfold fileB tableB tableS
  rw [List.length_map, rows_bare, datas_bare, List.take_zero, List.drop_zero]
  simp [rowsB]
theorem tableS_all (e : Nat) (l : List Sg) : tableS e l l.length = tableB e l := by
  unfold tableS tableB
  rw [List.take_length, List.drop_length]
  simp [bareRows]
theorem tableS_len (e : Nat) (l : List Sg) {k : Nat} (h : k ≤ l.length) : (tableS e l k).length = 52 + 32 * l.length := by
  unfold tableS
  rw [List.length_append, List.length_append, headB_len, rowsB_len, bareRows_len, List.length_take, List.length_drop]
  omega
theorem ovr_at (l : List UInt8) (k k' : Nat) (q : List UInt8) (h : k = k') : ovr l k q = ovr l k' q := by rw [h]
theorem tableS_step (e : Nat) (l : List Sg) {k : Nat} (hk : k < l.length) :
    ovr (ovr (tableS e l k) (52 + 32 * k + 4) (put32 (52 + 32 * l.length + (datasB (l.take k)).length))) (52 + 32 * k + 16) (put32 (l.getD k nosg).data.length) = tableS e l (k + 1) := by
  have hA : (headB e l.length ++ rowsB (52 + 32 * l.length) (l.take k)).length = 52 + 32 * k := by
    rw [List.length_append, headB_len, rowsB_len, List.length_take]
    omega
  have e1 : tableS e l (k + 1) = (headB e l.length ++ rowsB (52 + 32 * l.length) (l.take k)) ++ (rowB (52 + 32 * l.length + (datasB (l.take k)).length) (l.getD k nosg) ++ bareRows (52 + 32 * l.length) (l.drop (k + 1))) := by
    unfold tableS
    rw [take_one l k hk, rowsB_snoc]
    simp only [List.append_assoc]
  have hd : l.drop k = l.getD k nosg :: l.drop (k + 1) := by
    rw [List.drop_eq_getElem_cons hk, List.getD_eq_getElem?_getD, List.getElem?_eq_getElem hk]
    rfl
  have e0 : tableS e l k = (headB e l.length ++ rowsB (52 + 32 * l.length) (l.take k)) ++ (rowB (52 + 32 * l.length) (bareS (l.getD k nosg)) ++ bareRows (52 + 32 * l.length) (l.drop (k + 1))) := by
    unfold tableS
    rw [hd]
    simp only [bareRows, List.append_assoc]
  rw [e0, e1]
  generalize headB e l.length ++ rowsB (52 + 32 * l.length) (l.take k) = A at hA
  generalize bareRows (52 + 32 * l.length) (l.drop (k + 1)) = R
  generalize 52 + 32 * l.length + (datasB (l.take k)).length = E
  generalize 52 + 32 * l.length = F0
  generalize l.getD k nosg = s
  have r0 : A ++ (rowB F0 (bareS s) ++ R) = (A ++ put32 1) ++ (put32 F0 ++ (put32 s.at_ ++ put32 s.at_ ++ (put32 0 ++ (put32 s.size ++ put32 s.perm.toNat ++ put32 4 ++ R)))) := by
    simp only [rowB, bareS, List.append_assoc, List.length_nil]
  have r1 : (A ++ put32 1) ++ (put32 E ++ (put32 s.at_ ++ put32 s.at_ ++ (put32 0 ++ (put32 s.size ++ put32 s.perm.toNat ++ put32 4 ++ R)))) = (A ++ put32 1 ++ put32 E ++ put32 s.at_ ++ put32 s.at_) ++ (put32 0 ++ (put32 s.size ++ put32 s.perm.toNat ++ put32 4 ++ R)) := by
    simp only [List.append_assoc]
  have l1 : 52 + 32 * k + 4 = (A ++ put32 1).length := by rw [List.length_append, hA, put32_len]
  have l2 : 52 + 32 * k + 16 = (A ++ put32 1 ++ put32 E ++ put32 s.at_ ++ put32 s.at_).length := by
    simp only [List.length_append, hA, put32_len]
  rw [r0, l1, ovr_mid _ (put32 F0) (put32 E) _ rfl, r1, l2, ovr_mid _ (put32 0) (put32 s.data.length) _ rfl]
  simp only [rowB, List.append_assoc]
end Go.Proofs.Ytpknppicamefgaa
namespace Go.Proofs.Ytpknppicamefgaa
open Go.ChangeShapes Go.WideShapes Go.ChangeAt Go.RowKit
set_option linter.unusedVariables false
theorem datas_take (l : List Sg) {k : Nat} (hk : k < l.length) : (datasB (l.take (k + 1))).length = (datasB (l.take k)).length + (l.getD k nosg).data.length := by
  rw [take_one l k hk, datasB_snoc, List.length_append]
theorem datas_few {ent : Nat} {l : List Sg} (h : checkE ent l = 0) : ∀ k, k ≤ l.length → (datasB (l.take k)).length ≤ 16384 * k
  | 0, _ => by simp [datasB]
  | k + 1, hk => by
    have := datas_few h k (by omega)
    obtain ⟨_, ho, _, _⟩ := check_facts h
    have hz := ok_size (ho k (by omega))
    rw [datas_take l (by omega)]
    omega
theorem fileN_len (e : Nat) (l : List Sg) : (fileB e (l.map bareS)).length = 52 + 32 * l.length := by
  rw [fileB_len, datas_bare, List.length_map]
  rfl
set_option maxRecDepth 20000 in
set_option maxHeartbeats 1000000 in
theorem frontN_any (w : World) (b off cap ent : Nat) (l : List Sg) (hl : 0 < l.length) (hl8 : l.length ≤ 8) (hbl : b < w.heap.size) (h : ∀ j, j < l.length → SegAt w b (off + j * 4) (l.getD j nosg)) (hok : checkE ent l = 0) (he : ent < 4294967296) : Calls Try.prog 39 #[.agg #[.int .u32 (ent : Int), .slice (some ⟨b, off, none⟩) l.length cap]] w fun e w' => ∃ g cap', e = .returned (.slice (some ⟨g, 0, none⟩) ((52 + 32 * l.length : Nat)) cap') ∧ 52 + 32 * l.length ≤ cap' ∧ cap' ≤ 9223372036854775807 ∧ Row w' (some ⟨g, 0, none⟩) (tableB ent l) cap' ∧ Below w.heap.size w w' := by
  obtain ⟨n, hn⟩ : ∃ n, w.heap.size = n := ⟨_, rfl⟩
  obtain ⟨wa, hwa⟩ : ∃ wa, w.alloc (.cells #[.int .u32 (ent : Int), .slice (some ⟨b, off, none⟩) l.length cap] 25) = wa := ⟨_, rfl⟩
  have hba : Below n w wa := by rw [← hwa, ← hn]; exact below_new w _
  have k0 : Blk wa n #[.int .u32 (ent : Int), .slice (some ⟨b, off, none⟩) l.length cap] 25 := by rw [← hwa, ← hn]; exact Blk.new w _ _
  have q0 : wa.cell? ⟨n, 0, none⟩ = some (.int .u32 (ent : Int)) := k0.cell rfl
  have q1 : wa.cell? ⟨n, 1, none⟩ = some (.slice (some ⟨b, off, none⟩) l.length cap) := k0.cell rfl
  have hcb := check_bareN hok
  obtain ⟨N, hN⟩ : ∃ N, 52 + 32 * l.length = N := ⟨_, rfl⟩
  have HOK : Hid (checkE ent l = 0) := hok
  have hmk : makeE ent (l.map bareS) = (fileB ent (l.map bareS), 0) := by
    unfold makeE
    rw [if_neg (by rw [hcb]; simp), if_neg (by rw [fileN_len]; omega)]
  have H62 : Hid (Calls Try.prog 62 #[.agg #[.int .u32 (ent : Int), .slice (some ⟨b, off, none⟩) l.length cap]] wa fun e w1 => ∃ g0 c0, e = .returned (.agg #[.int .u32 (ent : Int), .slice (some ⟨g0, 0, none⟩) l.length c0]) ∧ Calls Try.prog 21 #[.agg #[.int .u32 (ent : Int), .slice (some ⟨g0, 0, none⟩) l.length c0]] w1 fun e w2 => ∃ g c tl, e = .returned (.tuple #[.slice (some ⟨g, 0, none⟩) N c, .int .i64 0]) ∧ n < g ∧ N ≤ c ∧ c ≤ 9223372036854775807 ∧ Brow w2 g (tableS ent l 0) tl ∧ Below n w w2 ∧ Blk w2 n #[.int .u32 (ent : Int), .slice (some ⟨b, off, none⟩) l.length cap] 25) := by
    refine (bareN_any wa b off cap ent l hl hl8 (Nat.lt_of_lt_of_le hbl hba.size) (fun j hj => (h j hj).later hbl (by rw [hn]; exact hba))).mono ?_
    rintro e w1 ⟨g0, c0, h1, h2, h3, h4, h5⟩
    have hm := make_any w1 _ c0 ent (l.map bareS) h2 (by rw [List.length_map]; exact h3) h4 he
    rw [List.length_map] at hm
    refine ⟨g0, c0, h1, hm.mono ?_⟩
    rintro e w2 ⟨v, h6, h7, h8⟩
    rw [hmk] at h6 h7
    obtain ⟨g, c, tl, hv, g1, g2, g3, g4⟩ := out_brow h7 (by intro e; have := fileN_len ent l; have e' : fileB ent (l.map bareS) = [] := e; rw [e'] at this; simp at this; omega)
    rw [fileN_len, hN] at hv g2
    rw [tableS_zero] at g4
    have hs := (k0.later h5).lt
    exact ⟨g, c, tl, by rw [h6, hv]; rfl, by omega, g2, g3, g4, (hba.trans (h5.mono (by have := k0.lt; omega))).trans (h8.mono (by omega)), (k0.later h5).later h8⟩
  have HSG := hidden h
  have HNN := hidden hN
  have hN1 : (N : Int) - 32 * (l.length : Int) = 52 := by omega
  have hN2 : (N : Int) ≤ 308 := by omega
  have hl82 : (l.length : Int) ≤ 8 := by omega
  clear hba k0 hcb hmk h hN hok
  go_enter Try.func39, Try.ntmps39
  go_wp2_with (first
    | (go_at_call 62; with_reducible refine (Hid.out H62).mono ?_; rintro e w1 ⟨g0, c0, rfl, h21⟩; have H21 := hidden h21; clear h21)
    | (go_at_call 21; with_reducible refine (Hid.out H21).mono ?_; rintro e w2 ⟨g, c, tl, rfl, hg, hc1, hc2, hr2, hb2, hf2⟩; have p1 : w2.cell? ⟨n, 1, none⟩ = some (.slice (some ⟨b, off, none⟩) l.length cap) := hf2.cell rfl; have HR2 := hidden hr2; have HB2 := hidden hb2; have HF2 := hidden hf2; clear hr2 hb2 hf2))
  go_loopw [5, 6, 27] (fun x5 x6 x27 wr => ∃ (k y z : Nat), k ≤ l.length ∧ x27 = .int .i64 (k : Int) ∧ x5 = .int .i64 (y : Int) ∧ x6 = .int .i64 (z : Int) ∧ y = N + (datasB (l.take k)).length ∧ z = 52 + 32 * k ∧ Brow wr g (tableS ent l k) tl ∧ Below n w wr) (fun _ _ x27 _ => l.length - (intOf x27).toNat)
  case atStart => exact ⟨0, N, 52, by omega, rfl, by simp, by first | rfl | simp [hN1], by simp [datasB], rfl, Hid.out HR2, Hid.out HB2⟩
  case round =>
    obtain ⟨k, y, z, hk, rfl, rfl, rfl, hy, hz, hr, hb⟩ := hrel
    have hNN := Hid.out HNN
    have hdf := datas_few (Hid.out HOK) k hk
    have hm := tableS_len ent l hk
    rw [hNN] at hm
    by_cases hkl : k < l.length
    · have hk2 : (k : Int) < (l.length : Int) := by omega
      have hsk := (Hid.out HSG) k hkl
      have hst := tableS_step ent l hkl
      have hdt := datas_take l hkl
      have hs0 : (l.getD k nosg).data.length ≤ 16384 := by
        obtain ⟨_, ho, _, _⟩ := check_facts (Hid.out HOK)
        have := ok_size (ho k hkl)
        omega
      rw [hNN, ← hy] at hst
      generalize l.getD k nosg = s at hsk hst hdt hs0
      have hds : (ByteArray.mk s.data.toArray).size = s.data.length := by simp [ByteArray.size]
      obtain ⟨c0, c1, c2, c3, fit⟩ := hsk.later hbl (by rw [hn]; exact hb)
      obtain ⟨wo, hwo⟩ : ∃ wo, wr.alloc (.cells #[.int .u32 (s.at_ : Int), .string ⟨s.data.toArray⟩, .int .u32 (s.size : Int), .int .i64 s.perm] 44) = wo := ⟨_, rfl⟩
      have hbo := below_new wr (.cells #[.int .u32 (s.at_ : Int), .string ⟨s.data.toArray⟩, .int .u32 (s.size : Int), .int .i64 s.perm] 44)
      rw [hwo] at hbo
      have hqo : Blk wo wr.heap.size #[.int .u32 (s.at_ : Int), .string ⟨s.data.toArray⟩, .int .u32 (s.size : Int), .int .i64 s.perm] 44 := by rw [← hwo]; exact Blk.new wr _ _
      have hgl : g < wr.heap.size := (Array.getElem?_eq_some_iff.1 hr).1
      have hro : Brow wo g (tableS ent l k) tl := (hbo.block g hgl).trans hr
      have hbw : Below n w wo := hb.trans (hbo.mono (by omega))
      have H63 : Hid (Calls Try.prog 63 #[.slice (some ⟨g, 0, none⟩) N c, .int .i64 ((z : Int) + 4), .int .i64 (y : Int)] wo fun e w3 => e = .returned (.tuple #[]) ∧ w3.cell? ⟨wr.heap.size, 1, none⟩ = some (.string ⟨s.data.toArray⟩) ∧ Calls Try.prog 63 #[.slice (some ⟨g, 0, none⟩) N c, .int .i64 ((z : Int) + 16), .int .i64 (s.data.length : Int)] w3 fun e w4 => e = .returned (.tuple #[]) ∧ w4.cell? ⟨wr.heap.size, 1, none⟩ = some (.string ⟨s.data.toArray⟩) ∧ Brow w4 g (tableS ent l (k + 1)) tl ∧ Below n w w4) := by
        have hp := put_any wo g c (z + 4) y (tableS ent l k) tl hro (by omega) (by omega) (by omega) hc2
        rw [hm, Int.natCast_add] at hp
        refine Calls.mono hp ?_
        rintro e w3 ⟨e3, r3, kp3⟩
        have q3 : Blk w3 wr.heap.size #[.int .u32 (s.at_ : Int), .string ⟨s.data.toArray⟩, .int .u32 (s.size : Int), .int .i64 s.perm] 44 := (kp3.block wr.heap.size hqo.lt (by omega)).trans hqo
        have hm3 : (ovr (tableS ent l k) (z + 4) (put32 y)).length = N := by rw [ovr_len _ _ _ (by rw [put32_len]; omega)]; exact hm
        have hp2 := put_any w3 g c (z + 16) s.data.length (ovr (tableS ent l k) (z + 4) (put32 y)) tl r3 (by omega) (by omega) (by omega) hc2
        rw [hm3, Int.natCast_add] at hp2
        refine ⟨e3, q3.cell rfl, Calls.mono hp2 ?_⟩
        rintro e w4 ⟨e4, r4, kp4⟩
        have q4 : Blk w4 wr.heap.size #[.int .u32 (s.at_ : Int), .string ⟨s.data.toArray⟩, .int .u32 (s.size : Int), .int .i64 s.perm] 44 := (kp4.block wr.heap.size q3.lt (by omega)).trans q3
        rw [hz, hst] at r4
        have b3 : Below n w w3 := hbw.trans (kp3.below (by have := hbw.size; omega) (fun b hb => by omega))
        have b4 : Below n w w4 := b3.trans (kp4.below (by have := b3.size; omega) (fun b hb => by omega))
        exact ⟨e4, q4.cell rfl, r4, b4⟩
      have HY : Hid (y + s.data.length = N + (datasB (l.take (k + 1))).length) := by show _ = _; omega
      have HZ : Hid (z + 32 = 52 + 32 * (k + 1)) := by show _ = _; omega
      have hyb : (y : Int) ≤ 200000 := by omega
      have hzb : (z : Int) ≤ 400 := by omega
      have hsb : (s.data.length : Int) ≤ 16384 := by omega
      clear hr hb hro hbw hst hdt fit hbo hqo hsk hy hz hm hdf hNN hs0
      have T1 : Hid True := trivial
      go_wp2_with (first
        | (clear T1; go_at_call 63; with_reducible refine (Hid.out H63).mono ?_; rintro e w3 ⟨rfl, s1, h63⟩; have H63b := hidden h63; clear h63)
        | (go_at_call 63; with_reducible refine (Hid.out H63b).mono ?_; rintro e w4 ⟨rfl, s2, hr4, hb4⟩; have HR4 := hidden hr4; have HB4 := hidden hb4; clear hr4 hb4))
      go_roundw
      case rel => exact ⟨k + 1, y + s.data.length, z + 32, by omega, by simp, by simp, by simp, Hid.out HY, Hid.out HZ, Hid.out HR4, Hid.out HB4⟩
      case measure => simp [intOf]; omega
    · have hk2 : ¬ (k : Int) < (l.length : Int) := by omega
      obtain rfl : k = l.length := by omega
      rw [tableS_all] at hr hm
      have HR := hidden hr
      have HB := hidden hb
      have HM := hidden hm
      clear hr hb hm hy hz hdf hNN
      go_wp2
      go_ret
      have hm2 := Hid.out HM
      exact ⟨g, c, by rw [Hid.out HNN]; first | rfl | simp, by rw [Hid.out HNN]; exact hc1, hc2, (Hid.out HR).row (by omega) hc2, by first | exact Hid.out HB | (rw [hn]; exact Hid.out HB)⟩
end Go.Proofs.Ytpknppicamefgaa
namespace Go.Proofs.Ytpknppicamefgaa
open Go.ChangeShapes Go.WideShapes Go.ChangeAt Go.RowKit
set_option linter.unusedVariables false
theorem rowN_lies {w : World} {ao : Option Addr} {l : List UInt8} (h : Lies w ao l) : RowN w ao (l.map UInt8.toNat) := by
  rcases h with hl | ⟨b, off, e, hc⟩
  · left; rw [hl]; rfl
  · exact .inr ⟨b, off, e, fun j hj => by
      rw [List.length_map] at hj
      rw [hc j hj]
      simp [List.getD_eq_getElem?_getD, hj]⟩
theorem more8L (c : Nat) (hc : c < 4294967296) (w : World) (ao : Option Addr) (l : List UInt8) (cap : Nat) (h : Lies w ao l) (hlen : l.length ≤ 140737488351232) : Calls Try.prog 40 #[.int .u32 (c : Int), .slice ao l.length cap] w fun e w' => e = .returned (.int .u32 (sumB c l : Int)) ∧ w' = w := by
  have := more_any c hc ao cap (l.map UInt8.toNat) (small8 l) w (rowN_lies h) (by rw [List.length_map]; exact hlen)
  rw [List.length_map] at this
  exact this
set_option maxRecDepth 20000 in
set_option maxHeartbeats 2000000 in
theorem digest1_any (w : World) (b off cap ent : Nat) (s : Sg) (h : SegAt w b off s) (hc1 : 1 ≤ cap) (hc2 : cap ≤ 9223372036854775807) (hok : checkE ent [s] = 0) (he : ent < 4294967296) : Calls Try.prog 13 #[.agg #[.int .u32 (ent : Int), .slice (some ⟨b, off, none⟩) 1 cap]] w fun e w' => e = .returned (.int .u32 (sumB 0 (fileB ent [s]) : Int)) ∧ Below w.heap.size w w' := by
  obtain ⟨n, hn⟩ : ∃ n, w.heap.size = n := ⟨_, rfl⟩
  obtain ⟨wa, hwa⟩ : ∃ wa, w.alloc (.cells #[.int .u32 (ent : Int), .slice (some ⟨b, off, none⟩) 1 cap] 25) = wa := ⟨_, rfl⟩
  have hba : Below n w wa := by rw [← hwa, ← hn]; exact below_new w _
  have k0 : Blk wa n #[.int .u32 (ent : Int), .slice (some ⟨b, off, none⟩) 1 cap] 25 := by rw [← hwa, ← hn]; exact Blk.new w _ _
  have hbl := World.block_lt_of_cell? _ _ h.c0
  simp only at hbl
  have q0 : wa.cell? ⟨n, 0, none⟩ = some (.int .u32 (ent : Int)) := k0.cell rfl
  have q1 : wa.cell? ⟨n, 1, none⟩ = some (.slice (some ⟨b, off, none⟩) 1 cap) := k0.cell rfl
  have hds0 : s.data.length ≤ 16384 := by
    obtain ⟨_, ho, _, _⟩ := check_facts hok
    have := ok_size (ho 0 (by simp))
    have e : ([s] : List Sg).getD 0 nosg = s := rfl
    rw [e] at this
    omega
  have hsum : sumB 0 (fileB ent [s]) = sumB (sumB 0 (tableB ent [s])) s.data := by
    rw [← sumB_append 0 _ _ (by omega)]
    simp [fileB, datasB]
  have H15 : Hid (Calls Try.prog 15 #[.agg #[.int .u32 (ent : Int), .slice (some ⟨b, off, none⟩) 1 cap]] wa fun e w1 => e = .returned (.int .i64 0) ∧ w1.cell? ⟨n, 0, none⟩ = some (.int .u32 (ent : Int)) ∧ w1.cell? ⟨n, 1, none⟩ = some (.slice (some ⟨b, off, none⟩) 1 cap) ∧ Calls Try.prog 39 #[.agg #[.int .u32 (ent : Int), .slice (some ⟨b, off, none⟩) 1 cap]] w1 fun e w2 => ∃ g c, e = .returned (.slice (some ⟨g, 0, none⟩) 84 c) ∧ Calls Try.prog 38 #[.slice (some ⟨g, 0, none⟩) 84 c] w2 fun e w3 => e = .returned (.int .u32 (sumB 0 (tableB ent [s]) : Int)) ∧ w3.cell? ⟨n, 1, none⟩ = some (.slice (some ⟨b, off, none⟩) 1 cap) ∧ Below n w w3) := by
    refine (check_any wa (some ⟨b, off, none⟩) cap ent [s] (.inr ⟨b, off, rfl, Nat.lt_of_lt_of_le hbl (by rw [hn]; exact (by have := hba.size; omega)), fun j hj => ?_⟩) (by simpa using hc1) hc2 he).mono ?_
    · obtain rfl : j = 0 := by simpa using hj
      rw [Nat.zero_mul, Nat.add_zero]
      exact h.later hbl (by rw [hn]; exact hba)
    · rintro e w1 ⟨h1, h2⟩
      rw [hok] at h1
      have b1 : Below n w w1 := hba.trans (h2.mono (by have := k0.lt; omega))
      have k1 : Blk w1 n #[.int .u32 (ent : Int), .slice (some ⟨b, off, none⟩) 1 cap] 25 := k0.later h2
      refine ⟨h1, k1.cell rfl, k1.cell rfl, (front1_any w1 b off cap ent s (h.later hbl (by rw [hn]; exact b1)) hok he).mono ?_⟩
      rintro e w2 ⟨g, c, h3, h4, h5, h6, h7⟩
      have h84 : (tableB ent [s]).length = 84 := by simp [tableB_len]
      have hof := of8 w2 _ _ c h6 (by omega)
      rw [h84] at hof
      refine ⟨g, c, h3, hof.mono ?_⟩
      rintro e w3 ⟨h8, rfl⟩
      exact ⟨h8, (k1.later h7).cell rfl, b1.trans (h7.mono (by have := k1.lt; omega))⟩
  have HSG := hidden h
  have HSUM := hidden hsum
  have hlt := sumB_lt 0 (tableB ent [s])
  generalize sumB 0 (tableB ent [s]) = t0 at H15 HSUM hlt
  clear hba k0 hsum hok
  go_enter Try.func13, Try.ntmps13
  go_wp2_with (first
    | (go_at_call 15; with_reducible refine (Hid.out H15).mono ?_; rintro e w1 ⟨rfl, p0, p1, h39⟩; have H39 := hidden h39; clear h39)
    | (go_at_call 39; with_reducible refine (Hid.out H39).mono ?_; rintro e w2 ⟨g, c, rfl, h38⟩; have H38 := hidden h38; clear h38)
    | (go_at_call 38; with_reducible refine (Hid.out H38).mono ?_; rintro e w3 ⟨rfl, r1, hb3⟩; have HB3 := hidden hb3; clear hb3))
  go_loopw [3, 15] (fun x3 x15 wr => ∃ (k t : Nat), k ≤ 1 ∧ x15 = .int .i64 (k : Int) ∧ x3 = .int .u32 (t : Int) ∧ (k = 0 → t = t0) ∧ (k = 1 → t = sumB 0 (fileB ent [s])) ∧ Below n w wr) (fun _ x15 _ => 1 - (intOf x15).toNat)
  case atStart => exact ⟨0, t0, by omega, rfl, rfl, (fun _ => rfl), by omega, Hid.out HB3⟩
  case round =>
    obtain ⟨k, t, hk, rfl, rfl, h0, h1, hb⟩ := hrel
    by_cases hk0 : k = 0
    · subst hk0
      obtain rfl := h0 rfl
      obtain ⟨c0, c1, c2, c3, fit⟩ := (Hid.out HSG).later hbl (by rw [hn]; exact hb)
      obtain ⟨wo, hwo⟩ : ∃ wo, wr.alloc (.cells #[.int .u32 (s.at_ : Int), .string ⟨s.data.toArray⟩, .int .u32 (s.size : Int), .int .i64 s.perm] 44) = wo := ⟨_, rfl⟩
      have hbo := below_new wr (.cells #[.int .u32 (s.at_ : Int), .string ⟨s.data.toArray⟩, .int .u32 (s.size : Int), .int .i64 s.perm] 44)
      rw [hwo] at hbo
      have hqo : Blk wo wr.heap.size #[.int .u32 (s.at_ : Int), .string ⟨s.data.toArray⟩, .int .u32 (s.size : Int), .int .i64 s.perm] 44 := by rw [← hwo]; exact Blk.new wr _ _
      have s1 : wo.cell? ⟨wr.heap.size, 1, none⟩ = some (.string ⟨s.data.toArray⟩) := hqo.cell rfl
      have hsz := hb.size
      have hbw : Below n w wo := hb.trans (hbo.mono (by omega))
      obtain ⟨gb, cb, w5, hcv, hly, hb5⟩ := run_bytes wo s.data
      have hbw5 : Below n w w5 := hbw.trans (hb5.mono (by have := hbw.size; omega))
      have H40 : Hid (Calls Try.prog 40 #[.int .u32 (t : Int), .slice (some ⟨gb, 0, none⟩) s.data.length cb] w5 fun e w6 => e = .returned (.int .u32 (sumB 0 (fileB ent [s]) : Int)) ∧ w6 = w5) := by
        have := more8L t hlt w5 _ s.data cb hly (by omega)
        rw [← Hid.out HSUM] at this
        exact this
      have HB5 := hidden hbw5
      clear hb hbo hqo hbw hly hb5 hbw5 h0 h1 fit
      generalize sumB 0 (fileB ent [s]) = t1 at H40 ⊢
      go_wp2_with (go_at_call 40; with_reducible refine (Hid.out H40).mono ?_; rintro e w6 ⟨rfl, hww⟩; rw [hww]; clear hww w6)
      go_roundw
      case rel => exact ⟨1, t1, by omega, by simp, rfl, by omega, (fun _ => rfl), Hid.out HB5⟩
      case measure => simp [intOf]
    · obtain rfl : k = 1 := by omega
      obtain rfl := h1 rfl
      have HB := hidden hb
      clear hb h0 h1
      go_wp2
      go_ret
      exact ⟨rfl, by first | exact Hid.out HB | (rw [hn]; exact Hid.out HB)⟩
set_option maxRecDepth 20000 in
theorem digest0_any (w : World) : Calls Try.prog 13 #[.agg #[.int .u32 0, .slice none 0 0]] w fun e w' => e = .returned (.int .u32 0) ∧ Below w.heap.size w w' := by
  obtain ⟨n, hn⟩ : ∃ n, w.heap.size = n := ⟨_, rfl⟩
  obtain ⟨wa, hwa⟩ : ∃ wa, w.alloc (.cells #[.int .u32 0, .slice none 0 0] 25) = wa := ⟨_, rfl⟩
  have hba : Below n w wa := by rw [← hwa, ← hn]; exact below_new w _
  have k0 : Blk wa n #[.int .u32 0, .slice none 0 0] 25 := by rw [← hwa, ← hn]; exact Blk.new w _ _
  have q0 : wa.cell? ⟨n, 0, none⟩ = some (.int .u32 0) := k0.cell rfl
  have q1 : wa.cell? ⟨n, 1, none⟩ = some (.slice none 0 0) := k0.cell rfl
  have H15 : Hid (Calls Try.prog 15 #[.agg #[.int .u32 0, .slice none 0 0]] wa fun e w1 => e = .returned (.int .i64 12) ∧ Below n w w1) := by
    have hc := check_any wa none 0 0 [] (.inl rfl) (by simp) (by omega) (by omega)
    have e0 : checkE 0 [] = 12 := by decide
    rw [e0] at hc
    refine Calls.mono hc ?_
    rintro e w1 ⟨h1, h2⟩
    exact ⟨h1, hba.trans (h2.mono (by have := k0.lt; omega))⟩
  clear hba k0
  go_enter Try.func13, Try.ntmps13
  go_wp2_with (go_at_call 15; with_reducible refine (Hid.out H15).mono ?_; rintro e w1 ⟨rfl, hb1⟩; have HB1 := hidden hb1; clear hb1)
  go_ret
  exact ⟨rfl, by first | exact Hid.out HB1 | (rw [hn]; exact Hid.out HB1)⟩
end Go.Proofs.Ytpknppicamefgaa

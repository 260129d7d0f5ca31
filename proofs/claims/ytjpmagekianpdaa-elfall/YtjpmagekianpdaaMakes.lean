/- A file as bytes. -/
import Derived.Test.YtjpmagekianpdaaHeads
namespace Go.Proofs.Ytjpmagekianpdaa
open Go.ChangeShapes Go.WideShapes Go.ChangeAt Go.RowKit
set_option linter.unusedVariables false
theorem take_one (l : List Sg) (k : Nat) (h : k < l.length) : l.take (k + 1) = l.take k ++ [l.getD k nosg] := by
  rw [List.take_add_one, List.getElem?_eq_getElem h, List.getD_eq_getElem?_getD, List.getElem?_eq_getElem h]
  rfl
theorem datas_len {l : List Sg} (h : l.all okB = true) : ∀ k, k ≤ l.length → (datasB (l.take k)).length ≤ 16384 * k
  | 0, _ => by simp [datasB]
  | k + 1, hk => by
    have ih := datas_len h k (by omega)
    have := ok_size (all_get h (show k < l.length by omega))
    rw [take_one l k (by omega), datasB_snoc, List.length_append]
    omega
theorem out_nil (w : World) (base : Nat) : Out w base (.slice none 0 0) [] := World.ownsRow_nil w base 5 1
theorem grew_blk {base : Nat} {w w' : World} {n : Nat} {cs : Array Value} {T : TypeId} (h : Blk w n cs T) (g : Grew base w w') (hT : T ≠ 5) : Blk w' n cs T := g.keep n cs T hT h
set_option maxRecDepth 20000 in
set_option maxHeartbeats 4000000 in
theorem make_any (w : World) (ao : Option Addr) (cap ent : Nat) (l : List Sg) (h : Segs w ao l) (hcap : l.length ≤ cap) (hmax : cap ≤ 9223372036854775807) (he : ent < 4294967296) : Calls Try.prog 13 #[.agg #[.int .u32 (ent : Int), .slice ao l.length cap]] w fun e w' => ∃ v', e = .returned (.tuple #[v', .int .i64 ((makeE ent l).2 : Int)]) ∧ Out w' w.heap.size v' (makeE ent l).1 ∧ Below w.heap.size w w' := by
  have hb0 : Below w.heap.size w (w.alloc (.cells #[.int .u32 (ent : Int), .slice ao l.length cap] 26)) := below_new w _
  have hg0 := Blk.new w #[.int .u32 (ent : Int), .slice ao l.length cap] 26
  have H16 : Hid (Calls Try.prog 16 #[.agg #[.int .u32 (ent : Int), .slice ao l.length cap]] (w.alloc (.cells #[.int .u32 (ent : Int), .slice ao l.length cap] 26)) fun e w' => e = .returned (.int .i64 (checkE ent l : Int)) ∧ Below w.heap.size w w' ∧ Blk w' w.heap.size #[.int .u32 (ent : Int), .slice ao l.length cap] 26) := by
    refine (check_any _ ao cap ent l (h.later hb0) hcap hmax he).mono ?_
    rintro e w' ⟨h1, h2⟩
    exact ⟨h1, bthen hb0 h2, hg0.later h2⟩
  have H := hidden h
  clear h hb0 hg0
  by_cases hc : checkE ent l = 0
  case neg =>
    have HE : Hid (makeE ent l = ([], checkE ent l)) := by
      show makeE ent l = _
      unfold makeE
      rw [if_pos hc]
    rw [Hid.out HE]
    simp only
    have hc2 : ¬ ((checkE ent l : Nat) : Int) = 0 := by omega
    generalize checkE ent l = c at H16 hc2
    go_enter Try.func13, Try.ntmps13
    go_wp2_with (go_at_call 16; with_reducible refine (Hid.out H16).mono ?_; rintro e w1 ⟨rfl, hb1, hg1⟩; have HB1 := hidden hb1; clear hb1 hg1)
    go_ret2
    exact ⟨_, rfl, out_nil _ _, Hid.out HB1⟩
  rw [hc] at H16
  obtain ⟨h8, hok, _, _⟩ := check_zero hc
  have HOK := hidden hok
  have hdl := datas_len hok l.length (Nat.le_refl _)
  rw [List.take_length] at hdl
  have h82 : (l.length : Int) ≤ 8 := by omega
  have HM : Hid (makeE ent l = if 16384 < 52 + 32 * l.length + (datasB l).length then ([], 2) else (fileB ent l, 0)) := by
    show makeE ent l = _
    unfold makeE
    rw [if_neg (by omega), fileB_len]
  clear hok
  have H29 : Hid (∀ w1, Below w.heap.size w w1 → Blk w1 w.heap.size #[.int .u32 (ent : Int), .slice ao l.length cap] 26 → Calls Try.prog 29 #[.int .u32 (ent : Int), .int .i64 (l.length : Int)] w1 fun e w' => ∃ v', e = .returned v' ∧ Out w' w.heap.size v' (headB ent l.length) ∧ Grew w.heap.size w w' ∧ Blk w' w.heap.size #[.int .u32 (ent : Int), .slice ao l.length cap] 26) := by
    intro w1 hb1 hg1
    refine (header_any w1 ent l.length he h8).mono ?_
    rintro e w' ⟨v', h1, h2, h3⟩
    have hs : w.heap.size ≤ w1.heap.size := hb1.size
    refine ⟨v', h1, h2.mono hs, ⟨hb1.trans (h3.mono hs), ?_⟩, hg1.later h3⟩
    intro k cs T hT hk
    have hlt : k < w.heap.size := hk.lt
    exact ((hb1.trans (h3.mono hs)).block k hlt).trans hk
  go_enter Try.func13, Try.ntmps13
  go_wp2_with (first | (go_at_call 16; with_reducible refine (Hid.out H16).mono ?_; rintro e w1 ⟨rfl, hb1, hg1⟩; have hlt1 := Blk.lt hg1; have f0 : w1.cell? ⟨w.heap.size, 0, none⟩ = some (.int .u32 (ent : Int)) := Blk.cell hg1 rfl; have f1 : w1.cell? ⟨w.heap.size, 1, none⟩ = some (.slice ao l.length cap) := Blk.cell hg1 rfl; have HC := hidden (Hid.out H29 w1 hb1 hg1); clear hb1 hg1) | (go_at_call 29; with_reducible refine (Hid.out HC).mono ?_; rintro e w2 ⟨v2, rfl, ho2, hb2, hg2⟩; have k1 : w2.cell? ⟨w.heap.size, 1, none⟩ = some (.slice ao l.length cap) := Blk.cell hg2 rfl; have hlt2 := Blk.lt hg2; have HO2 := hidden ho2; have HB2 := hidden hb2; have HG2 := hidden hg2; clear ho2 hb2 hg2 f0 f1 hlt1))
  obtain ⟨n, hn⟩ : ∃ n, n = w.heap.size := ⟨_, rfl⟩
  have HNN := hidden hn
  rw [← hn] at HO2 HB2 HG2 ⊢
  clear hn hlt2 k1 H16 H29 HC
  go_loopw [5, 6, 30] (fun x5 x6 x30 wr => ∃ k : Nat, k ≤ l.length ∧ x30 = .int .i64 (k : Int) ∧ x6 = .int .i64 ((52 + 32 * l.length + (datasB (l.take k)).length : Nat) : Int) ∧ Out wr n x5 (headB ent l.length ++ rowsB (52 + 32 * l.length) (l.take k)) ∧ Grew n w wr ∧ Blk wr n #[.int .u32 (ent : Int), .slice ao l.length cap] 26) (fun x5 x6 x30 _ => l.length - (intOf x30).toNat)
  case atStart => exact ⟨0, by omega, rfl, by simp [datasB], by simpa [rowsB] using Hid.out HO2, Hid.out HB2, Hid.out HG2⟩
  case round =>
    obtain ⟨k, hk, rfl, rfl, ho, hg, hbk⟩ := hrel
    have HG := hidden hg
    have hnlt := hbk.lt
    have hdk := datas_len (Hid.out HOK) k hk
    by_cases hkl : k < l.length
    · have hbw : Below w.heap.size w wr := by have := hg.below; rw [Hid.out HNN] at this; exact this
      obtain ⟨b, off, rfl, hlt, hcs⟩ := ((Hid.out H).later hbw).at hkl
      have hts := take_one l k hkl
      have hsok := ok_size (all_get (Hid.out HOK) hkl)
      have hat := hcs k hkl
      generalize l.getD k nosg = s at hts hsok hat
      obtain ⟨at_, data, size, perm⟩ := s
      obtain ⟨z1, z2, z3, z4, z5, z6⟩ := hsok
      obtain ⟨c0, c1, c2, c3, _⟩ := hat
      simp only at z1 z2 z3 z4 z5 z6 c0 c1 c2 c3
      obtain ⟨p, rfl⟩ := Int.eq_ofNat_of_zero_le z5
      have hkl2 : (k : Int) < (l.length : Int) := by omega
      obtain ⟨E, hE⟩ : ∃ E, E = 52 + 32 * l.length + (datasB (l.take k)).length := ⟨_, rfl⟩
      have hE2 : E ≤ 200000 := by omega
      have hds : (ByteArray.mk data.toArray).size = data.length := by simp [ByteArray.size]
      have H30 : Hid (Calls Try.prog 30 #[u5, .slice (some ⟨wr.heap.size + 1, 0, none⟩) 8 8] ((wr.alloc (.cells #[.int .u32 (at_ : Int), .string ⟨data.toArray⟩, .int .u32 (size : Int), .int .i64 (p : Int)] 43)).alloc (.cells #[.int .u32 1, .int .u32 (E : Int), .int .u32 (at_ : Int), .int .u32 (at_ : Int), .int .u32 (data.length : Int), .int .u32 (size : Int), .int .u32 (p : Int), .int .u32 4] 23)) fun e w' => ∃ v', e = .returned v' ∧ Out w' n v' (headB ent l.length ++ rowsB (52 + 32 * l.length) (l.take (k + 1))) ∧ Grew n w w' ∧ Blk w' n #[.int .u32 (ent : Int), .slice (some ⟨b, off, none⟩) l.length cap] 26 ∧ Blk w' wr.heap.size #[.int .u32 (at_ : Int), .string ⟨data.toArray⟩, .int .u32 (size : Int), .int .i64 (p : Int)] 43) := by
        have hb1 := below_new wr (.cells #[.int .u32 (at_ : Int), .string ⟨data.toArray⟩, .int .u32 (size : Int), .int .i64 (p : Int)] 43)
        have hb2 := bthen hb1 (below_new (wr.alloc (.cells #[.int .u32 (at_ : Int), .string ⟨data.toArray⟩, .int .u32 (size : Int), .int .i64 (p : Int)] 43)) (.cells #[.int .u32 1, .int .u32 (E : Int), .int .u32 (at_ : Int), .int .u32 (at_ : Int), .int .u32 (data.length : Int), .int .u32 (size : Int), .int .u32 (p : Int), .int .u32 4] 23))
        have hnw : n ≤ wr.heap.size := Nat.le_of_lt hnlt
        have hS := (Blk.new wr #[.int .u32 (at_ : Int), .string ⟨data.toArray⟩, .int .u32 (size : Int), .int .i64 (p : Int)] 43).later (below_new _ (.cells #[.int .u32 1, .int .u32 (E : Int), .int .u32 (at_ : Int), .int .u32 (at_ : Int), .int .u32 (data.length : Int), .int .u32 (size : Int), .int .u32 (p : Int), .int .u32 4] 23))
        have hW := Blk.new (wr.alloc (.cells #[.int .u32 (at_ : Int), .string ⟨data.toArray⟩, .int .u32 (size : Int), .int .i64 (p : Int)] 43)) #[.int .u32 1, .int .u32 (E : Int), .int .u32 (at_ : Int), .int .u32 (at_ : Int), .int .u32 (data.length : Int), .int .u32 (size : Int), .int .u32 (p : Int), .int .u32 4] 23
        rw [World.size_alloc] at hW
        refine (putWords_any _ n _ 8 u5 _ [1, E, at_, at_, data.length, size, p, 4] rfl (ho.later hb2) (Nat.le_trans hnw hb2.size) hW (by simp; omega) ?_).mono ?_
        · rw [List.length_append, headB_len, rowsB_len, List.length_take]
          simp
          omega
        · rintro e w' ⟨v', h1, h2, h3⟩
          refine ⟨v', h1, ?_, hg.trans ((Grew.of hb2 hnw).trans h3), h3.keep _ _ _ (by decide) (hbk.later hb2), h3.keep _ _ _ (by decide) hS⟩
          rw [hts, rowsB_snoc, ← hE, ← List.append_assoc]
          have e1 : [1, E, at_, at_, data.length, size, p, 4].flatMap put32 = rowB E ⟨at_, data, size, (p : Int)⟩ := by simp [rowB]
          rw [e1] at h2
          exact h2
      have HE : Hid ((datasB (l.take (k + 1))).length = (datasB (l.take k)).length + data.length) := by
        show _ = _
        rw [hts, datasB_snoc, List.length_append]
      have HEE := hidden hE
      rw [← hE]
      clear ho hg hbk hts hcs hbw hE hdk
      have q1 : (E : Int) % 4294967296 = (E : Int) := by omega
      have q2 : (data.length : Int) % 4294967296 = (data.length : Int) := by omega
      have q3 : (p : Int) % 4294967296 = (p : Int) := by omega
      go_wp2_with (go_at_call 30; with_reducible refine (Hid.out H30).mono ?_; rintro e w3 ⟨v3, rfl, ho3, hg3, hbk3, hS3⟩; have s1 : w3.cell? ⟨wr.heap.size, 1, none⟩ = some (.string ⟨data.toArray⟩) := Blk.cell hS3 rfl; have hS3l := Blk.lt hS3; have HO3 := hidden ho3; have HG3 := hidden hg3; have HBK3 := hidden hbk3; clear ho3 hg3 hbk3 hS3)
      go_roundw
      case rel => first | exact ⟨k + 1, by omega, by simp, by rw [Hid.out HE, Hid.out HEE]; congr 1; omega, Hid.out HO3, Hid.out HG3, Hid.out HBK3⟩ | ((repeat apply Exists.intro); first | exact ⟨⟨k + 1, by omega, by simp, by rw [Hid.out HE, Hid.out HEE]; congr 1; omega, Hid.out HO3, Hid.out HG3, Hid.out HBK3⟩, rfl⟩ | exact ⟨⟨k + 1, by omega, by simp, by rw [Hid.out HE, Hid.out HEE]; congr 1; omega, Hid.out HO3, Hid.out HG3, Hid.out HBK3⟩, rfl, rfl⟩ | exact ⟨⟨k + 1, by omega, by simp, by rw [Hid.out HE, Hid.out HEE]; congr 1; omega, Hid.out HO3, Hid.out HG3, Hid.out HBK3⟩, rfl, rfl, rfl⟩)
      case measure => simp [intOf]; omega
    · have hkl2 : ¬ (k : Int) < (l.length : Int) := by omega
      obtain rfl : k = l.length := by omega
      rw [List.take_length] at ho hdk
      rw [List.take_length]
      obtain ⟨E, hE⟩ : ∃ E, E = 52 + 32 * l.length + (datasB l).length := ⟨_, rfl⟩
      have HT : Hid (Out wr n u5 (tableB ent l)) := ho
      rw [← hE] at HM ⊢
      have HE := hidden hE
      have j1 : wr.cell? ⟨n, 1, none⟩ = some (.slice ao l.length cap) := hbk.cell rfl
      have HBK := hidden hbk
      by_cases hbig : 16384 < E
      · have hbig2 : (16384 : Int) < (E : Int) := by omega
        rw [if_pos hbig] at HM
        have HBW : Hid (Below w.heap.size w wr) := by have := hg.below; rw [Hid.out HNN] at this; exact this
        clear hE hdk ho hg hbk
        go_wp2
        go_ret2
        exact ⟨_, by rw [Hid.out HM]; rfl, by rw [Hid.out HM]; exact out_nil _ _, Hid.out HBW⟩
      · have hbig2 : ¬ (16384 : Int) < (E : Int) := by omega
        rw [if_neg hbig] at HM
        clear hE hdk ho hg hbk
        go_wp2
        go_loopw [5, 63] (fun x5 x63 wr2 => ∃ k : Nat, k ≤ l.length ∧ x63 = .int .i64 (k : Int) ∧ Out wr2 n x5 (tableB ent l ++ datasB (l.take k)) ∧ Grew n w wr2) (fun x5 x63 _ => l.length - (intOf x63).toNat)
        case atStart => exact ⟨0, by omega, rfl, by simpa [datasB] using Hid.out HT, Hid.out HG⟩
        case round =>
          obtain ⟨k, hk, rfl, ho, hg⟩ := hrel
          have HG2 := hidden hg
          have hdk := datas_len (Hid.out HOK) k hk
          have hbw : Below w.heap.size w wr := by have := hg.below; rw [Hid.out HNN] at this; exact this
          by_cases hkl : k < l.length
          · obtain ⟨b, off, rfl, hlt, hcs⟩ := ((Hid.out H).later hbw).at hkl
            have hts := take_one l k hkl
            have hsok := ok_size (all_get (Hid.out HOK) hkl)
            have hat := hcs k hkl
            generalize l.getD k nosg = s at hts hsok hat
            obtain ⟨at_, data, size, perm⟩ := s
            obtain ⟨z1, z2, z3, z4, z5, z6⟩ := hsok
            obtain ⟨c0, c1, c2, c3, _⟩ := hat
            simp only at z1 z2 z3 z4 z5 z6 c0 c1 c2 c3
            obtain ⟨p, rfl⟩ := Int.eq_ofNat_of_zero_le z5
            have hkl3 : (k : Int) < (l.length : Int) := by omega
            have hnw : n ≤ wr.heap.size := by rw [Hid.out HNN]; exact hbw.size
            have hb1 := below_new wr (.cells #[.int .u32 (at_ : Int), .string ⟨data.toArray⟩, .int .u32 (size : Int), .int .i64 (p : Int)] 43)
            obtain ⟨v', w', hr, ho', hg'⟩ := run_more_str (ho.later hb1) (Nat.le_trans hnw hb1.size) data (by rw [List.length_append, tableB_len]; omega)
            have HR := hidden hr
            have HO3 : Hid (Out w' n v' (tableB ent l ++ datasB (l.take (k + 1)))) := by
              show Out _ _ _ _
              rw [hts, datasB_snoc, ← List.append_assoc]
              exact ho'
            have HG3 := hidden (hg.trans ((Grew.of hb1 hnw).trans hg'))
            clear hr ho' hg' ho hg hts hcs hbw hdk hb1
            go_wp2_with (at_builtin; refine wpList_append_run rfl _ _ 22 9 rfl rfl rfl (Hid.out HR) ?_)
            go_roundw
            case rel => first | exact ⟨k + 1, by omega, by simp, Hid.out HO3, Hid.out HG3⟩ | ((repeat apply Exists.intro); first | exact ⟨⟨k + 1, by omega, by simp, Hid.out HO3, Hid.out HG3⟩, rfl⟩ | exact ⟨⟨k + 1, by omega, by simp, Hid.out HO3, Hid.out HG3⟩, rfl, rfl⟩ | exact ⟨⟨k + 1, by omega, by simp, Hid.out HO3, Hid.out HG3⟩, rfl, rfl, rfl⟩)
            case measure => simp [intOf]; omega
          · have hkl3 : ¬ (k : Int) < (l.length : Int) := by omega
            obtain rfl : k = l.length := by omega
            rw [List.take_length] at ho
            have HO3 : Hid (Out wr n u5 (fileB ent l)) := ho
            have HBW := hidden hbw
            clear ho hg hbw hdk
            go_wp2
            go_ret2
            refine ⟨_, by rw [Hid.out HM]; rfl, ?_, Hid.out HBW⟩
            rw [Hid.out HM]
            have := Hid.out HO3
            rw [Hid.out HNN] at this
            exact this
end Go.Proofs.Ytjpmagekianpdaa

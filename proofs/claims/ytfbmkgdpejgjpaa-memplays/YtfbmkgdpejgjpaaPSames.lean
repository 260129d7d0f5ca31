/- Same: two pages, two memories held against each other. -/
import Derived.Test.YtfbmkgdpejgjpaaPAwake
import Derived.Deep.LoopGhost
import Derived.Laws.Strings
namespace Go.Proofs.Ytfbmkgdpejgjpaa
open Go.ChangeShapes Go.WideShapes Go.ChangeAt Go.RowKit
set_option linter.unusedVariables false
theorem bytes_ne {l m : List UInt8} (h : l ≠ m) : ((⟨l.toArray⟩ : ByteArray).toList == (⟨m.toArray⟩ : ByteArray).toList) = false := by
  rw [ByteArray.toList_eq, ByteArray.toList_eq]
  simpa using h
theorem equal_any (w : World) (ao bo : Option Addr) (l m : List UInt8) (cap cap2 : Nat) (hl : Lies w ao l) (hm : Lies w bo m) : Calls Try.prog 61 #[.slice ao l.length cap, .slice bo m.length cap2] w fun e w' => e = .returned (.bool (decide (l = m))) ∧ w' = w := by
  have h1 := run_str w ao l cap hl
  have h2 := run_str w bo m cap2 hm
  by_cases h : l = m
  · rw [decide_eq_true h]
    subst h
    clear hl hm
    generalize (⟨l.toArray⟩ : ByteArray) = x at h1 h2
    go_enter Try.func61, Try.ntmps61
    go_wp2
    go_ret
    exact ⟨rfl, rfl⟩
  · rw [decide_eq_false h]
    have hne := bytes_ne h
    clear hl hm h
    generalize (⟨l.toArray⟩ : ByteArray) = x at h1 hne
    generalize (⟨m.toArray⟩ : ByteArray) = y at h2 hne
    go_enter Try.func61, Try.ntmps61
    go_wp2
    go_ret
    exact ⟨rfl, rfl⟩
theorem partB_all (l : List UInt8) (h : l.length = 256) : partB l 0 256 = l := by
  unfold partB
  simp [List.take_of_length_le, h]
theorem samePage_any (w : World) (b1 b2 : Nat) (l1 l2 : List UInt8) (p1 p2 n1 n2 : Int) (h1 : Pg 93 w b1 l1 p1 n1) (h2 : Pg 93 w b2 l2 p2 n2) : Calls Try.prog 50 #[.pointer (some ⟨b1, 0, none⟩), .pointer (some ⟨b2, 0, none⟩)] w fun e w' => e = .returned (.bool (decide (p1 = p2 ∧ l1 = l2))) ∧ Below w.heap.size w w' := by
  have H1 := hidden (perm_any w b1 l1 p1 n1 h1)
  have H2 := hidden (perm_any w b2 l2 p2 n2 h2)
  by_cases hp : p1 = p2
  · have e : decide (p1 = p2 ∧ l1 = l2) = decide (l1 = l2) := by simp [hp]
    rw [e]
    subst hp
    have HB1 := hidden (bytes_any w b1 l1 p1 n1 0 256 h1)
    have HB2 : Hid (∀ u, Below w.heap.size w u → Calls Try.prog 62 #[.pointer (some ⟨b2, 0, none⟩), .int .i64 0, .int .i64 256] u fun e w' => ∃ ao cap, e = .returned (.slice ao l2.length cap) ∧ Row w' ao l2 cap ∧ Below u.heap.size u w') := by
      intro u hu
      have := bytes_any u b2 l2 p1 n2 0 256 (h2.later hu)
      rw [partB_all _ h2.len] at this
      exact this
    rw [partB_all _ h1.len] at HB1
    clear h1 h2 e
    go_enter Try.func50, Try.ntmps50
    go_wp2_with (first | (go_at_call 43; (first | (with_reducible refine (Hid.out H1).mono ?_) | (with_reducible refine (Hid.out H2).mono ?_)); rintro e w1 ⟨rfl, hww⟩; rw [hww]; clear hww w1) | (go_at_call 62; with_reducible refine (Hid.out HB1).mono ?_; rintro e w1 ⟨ao, cap, rfl, hr, hb⟩; have HR := hidden hr; have HB := hidden hb; clear hr hb HB1) | (go_at_call 62; refine (Hid.out HB2 _ (Hid.out HB)).mono ?_; rintro e w2 ⟨bo, cap2, rfl, hr, hb⟩; have HR2 := hidden hr; have HR1 := hidden (Row.later (Hid.out HR) hb); have HBB := hidden (Below.trans (Hid.out HB) (Below.mono hb (Hid.out HB).size)); clear hr hb HB2) | (go_at_call 61; refine (equal_any _ _ _ _ _ _ _ (Row.lies (Hid.out HR1)) (Row.lies (Hid.out HR2))).mono ?_; rintro e w3 ⟨rfl, hww⟩; rw [hww]; clear hww w3))
    go_ret
    exact ⟨rfl, Hid.out HBB⟩
  · have e : decide (p1 = p2 ∧ l1 = l2) = false := by simp [hp]
    rw [e]
    clear h1 h2 e
    go_enter Try.func50, Try.ntmps50
    go_wp2_with (go_at_call 43; (first | (with_reducible refine (Hid.out H1).mono ?_) | (with_reducible refine (Hid.out H2).mono ?_)); rintro e w1 ⟨rfl, hww⟩; rw [hww]; clear hww w1)
    go_ret
    exact ⟨rfl, Below.refl _ _⟩
def goodAt (s t : MS) (k : Nat) : Bool := decide (k ∈ t.ks) && decide (s.pm k = t.pm k ∧ s.data k = t.data k)
def sameM (s t : MS) : Bool := decide (s.ks.length = t.ks.length) && s.ks.all (goodAt s t)
theorem same_len (w : World) (s t : MS) (hs : MemW w s) (ht : MemW w t) (h : s.ks.length ≠ t.ks.length) : Calls Try.prog 20 #[.pointer (some ⟨s.mb, 0, none⟩), .pointer (some ⟨t.mb, 0, none⟩)] w fun e w' => e = .returned (.bool false) ∧ Below w.heap.size w w' := by
  have h1 := hs.cell1
  have h2 := ht.cell1
  have hne : ¬ (s.ks.length : Int) = (t.ks.length : Int) := by omega
  generalize (s.ks.length : Int) = x at h1 hne
  generalize (t.ks.length : Int) = y at h2 hne
  clear hs ht h
  go_enter Try.func20, Try.ntmps20
  go_wp2
  go_quiet (first | (go_at_call 44; exact Calls.quiet_of_same (load_at _ _ _ _ h1)) | (go_at_call 44; exact Calls.quiet_of_same (load_at _ _ _ _ h2)))
  go_wp2
  go_ret
  exact ⟨rfl, below_drewN (Below.refl _ _) _⟩
theorem pageOf_key {k : Nat} (h : k % 256 = 0) : pageOf k = k := by unfold pageOf; omega
set_option maxRecDepth 20000 in
set_option maxHeartbeats 2000000 in
theorem same_loop (w : World) (s t : MS) (hs : MemW w s) (ht : MemW w t) (h : s.ks.length = t.ks.length) : Calls Try.prog 20 #[.pointer (some ⟨s.mb, 0, none⟩), .pointer (some ⟨t.mb, 0, none⟩)] w fun e w' => e = .returned (.bool (s.ks.all (goodAt s t))) ∧ Below w.heap.size w w' := by
  have h1 := hs.cell1
  have h2 := ht.cell1
  rw [← h] at h2
  have HS := hidden hs
  have HT := hidden ht
  have h0 := hs.cell0
  have hr : ∀ n, (Instr.range 60 (.map (some s.bm))).run Try.prog (w.drewN n) = .ok (.pointer (some ⟨w.heap.size, 0, none⟩)) ((w.drewN n).alloc (.mapIter (some s.bm) s.ks.length #[] s.ks.length)) := fun n => run_range (w := w.drewN n) hs.map
  have hit : Hid (∀ n, It ((w.drewN n).alloc (.mapIter (some s.bm) s.ks.length #[] s.ks.length)) w.heap.size s.bm s.ks s.ks) := fun n => it_start (w := w.drewN n) hs.nodup
  generalize hx : (s.ks.length : Int) = x at h1 h2
  clear hs ht h hx
  go_enter Try.func20, Try.ntmps20
  go_wp2
  go_quiet (first | (go_at_call 44; exact Calls.quiet_of_same (load_at _ _ _ _ h1)) | (go_at_call 44; exact Calls.quiet_of_same (load_at _ _ _ _ h2)))
  go_wp2
  go_loopg [5, 6, 7] s.ks.length (fun q x5 x6 x7 wr => ∃ todo, todo.length = q ∧ It wr w.heap.size s.bm s.ks todo ∧ Below w.heap.size w wr ∧ ∀ k ∈ s.ks, k ∉ todo → goodAt s t k = true)
  case atStart => exact ⟨s.ks, rfl, Hid.out hit _, (below_drewN (Below.refl _ w) _).alloc (Nat.le_refl _) _, fun k h1 h2 => absurd h1 h2⟩
  case round =>
    obtain ⟨todo, hq, hI, hB, hG⟩ := hrel
    have hS := (Hid.out HS).later hB
    have hT := (Hid.out HT).later hB
    rcases run_next hI hS.map hS.nodup 0 with ⟨h0', hrun⟩ | ⟨k, w2, hk, hrun, hI2, hO, hent⟩
    · have HB := hidden hB
      have HG := hidden hG
      clear hS hT hI hB hG
      go_wp2
      go_ret
      exact ⟨ret_bool (List.all_eq_true.2 fun k hk => Hid.out HG k hk (by rw [h0']; simp)).symm, Hid.out HB⟩
    · have hks := hI.sub k hk
      have hkk := hS.key k hks
      have hB2 : Below w.heap.size w w2 := hB.trans (hO.below (Nat.le_refl _))
      have hS2 := (Hid.out HS).later hB2
      have hT2 := (Hid.out HT).later hB2
      by_cases hkt : k ∈ t.ks
      · have H41 := hidden (find_in w2 t k hT2 hkk.1 (by rw [pageOf_key hkk.2]; exact hkt))
        rw [pageOf_key hkk.2] at H41
        obtain ⟨n1, _, _, hp1⟩ := hS2.page k hks
        obtain ⟨n2, _, _, hp2⟩ := hT2.page k hkt
        have HC : Hid (∀ w3 n, w3 = w2.drewN n → w3.cell? ⟨s.hb k, 0, none⟩ = some (.pointer (some ⟨s.pb k, 0, none⟩)) ∧ w3.cell? ⟨t.hb k, 0, none⟩ = some (.pointer (some ⟨t.pb k, 0, none⟩)) ∧ (∀ m, Hid (Calls Try.prog 50 #[.pointer (some ⟨s.pb k, 0, none⟩), .pointer (some ⟨t.pb k, 0, none⟩)] (w3.drewN m) fun e w' => e = .returned (.bool (decide (s.pm k = t.pm k ∧ s.data k = t.data k))) ∧ Below w.heap.size w w' ∧ w'.heap[w.heap.size]? = w2.heap[w.heap.size]?))) := by
          intro w3 n e
          subst e
          refine ⟨hS2.held0 hks, hT2.held0 hkt, fun m => ?_⟩
          refine (samePage_any ((w2.drewN n).drewN m) _ _ _ _ _ _ _ _ (hp1.same rfl) (hp2.same rfl)).mono ?_
          rintro e w' ⟨he, hb⟩
          exact ⟨he, (below_drewN (below_drewN hB2 n) m).trans (hb.mono hB2.size), hb.block _ hI2.lt⟩
        have HI2 := hidden hI2
        have HB := hidden hB
        have HG := hidden hG
        have hlen := List.length_erase_of_mem hk
        have hpos := List.length_pos_of_mem hk
        have HK := hidden hk
        have HKS := hidden hks
        have hkn : s.ks.all (goodAt s t) = false ∨ goodAt s t k = true := by
          cases hg : goodAt s t k with
          | true => exact .inr rfl
          | false => exact .inl (by rw [← Bool.not_eq_true, List.all_eq_true]; exact fun h => by rw [h k hks] at hg; cases hg)
        have hgk : goodAt s t k = decide (s.pm k = t.pm k ∧ s.data k = t.data k) := by simp [goodAt, hkt]
        have HND : Hid (∀ j, j ∈ todo.erase k ↔ j ≠ k ∧ j ∈ todo) := fun j => List.Nodup.mem_erase_iff hI.nodup
        clear hS hT hI hB hG hI2 hO hB2 hS2 hT2 hp1 hp2 hkk hks hk
        cases hdec : decide (s.pm k = t.pm k ∧ s.data k = t.data k) with
        | true =>
          rw [hdec] at HC
          have HGK : Hid (goodAt s t k = true) := hgk.trans hdec
          clear hkn hgk hdec
          go_wp2_with (go_at_call 41; refine (Hid.out H41).mono ?_; rintro e w3 ⟨rfl, n, hww⟩; obtain ⟨hc1, hc2, hc3⟩ := Hid.out HC w3 n hww; clear hww HC)
          refine wp_region_tail 11 (by kernel_rfl) (by kernel_rfl) ?_
          simp only [List.take_succ_cons, List.take_zero, List.drop_succ_cons, List.drop_zero]
          repeat (go_big_quiet_step (fail))
          refine wpQuiet_nil ?_
          rintro _ ⟨nq, rfl⟩
          go_wp2_with (go_at_call 50; refine (Hid.out (hc3 _)).mono ?_; rintro e w4 ⟨rfl, hb4, hr4⟩; have HB4 := hidden hb4; have HR4 := hidden hr4; clear hb4 hr4)
          go_roundg (todo.erase k).length
          case measure => omega
          case rel =>
            refine ⟨todo.erase k, rfl, (Hid.out HI2).same (Hid.out HR4), Hid.out HB4, fun j hj hne => ?_⟩
            by_cases e : j = k
            · subst e; exact Hid.out HGK
            · exact Hid.out HG j hj fun h => hne ((Hid.out HND j).2 ⟨e, h⟩)
        | false =>
          rw [hdec] at HC
          have HALL : Hid (s.ks.all (goodAt s t) = false) := hkn.resolve_right (by rw [hgk, hdec]; simp)
          clear hkn hgk hdec
          go_wp2_with (go_at_call 41; refine (Hid.out H41).mono ?_; rintro e w3 ⟨rfl, n, hww⟩; obtain ⟨hc1, hc2, hc3⟩ := Hid.out HC w3 n hww; clear hww HC)
          refine wp_region_tail 11 (by kernel_rfl) (by kernel_rfl) ?_
          simp only [List.take_succ_cons, List.take_zero, List.drop_succ_cons, List.drop_zero]
          repeat (go_big_quiet_step (fail))
          refine wpQuiet_nil ?_
          rintro _ ⟨nq, rfl⟩
          go_wp2_with (go_at_call 50; refine (Hid.out (hc3 _)).mono ?_; rintro e w4 ⟨rfl, hb4, hr4⟩; have HB4 := hidden hb4; have HR4 := hidden hr4; clear hb4 hr4)
          go_ret
          exact ⟨ret_bool (Hid.out HALL).symm, Hid.out HB4⟩
      · have H41 := hidden (find_out w2 t k hT2 hkk.1 (by rw [pageOf_key hkk.2]; exact hkt))
        have HALL : Hid (s.ks.all (goodAt s t) = false) := by
          show s.ks.all (goodAt s t) = false
          rw [← Bool.not_eq_true, List.all_eq_true]
          intro h
          have := h k hks
          simp [goodAt, hkt] at this
        have HB2 := hidden hB2
        clear hS hT hI hB hG hI2 hO hB2 hS2 hT2 hkk hks hk hkt
        go_wp2_with (go_at_call 41; refine (Hid.out H41).mono ?_; rintro e w3 ⟨rfl, n, hww⟩; have HW := hidden hww; clear hww)
        go_quiet (fail)
        go_wp2
        go_ret
        exact ⟨ret_bool (Hid.out HALL).symm, by rw [Hid.out HW]; exact below_drewN (below_drewN (Hid.out HB2) _) _⟩
theorem same_any (w : World) (s t : MS) (hs : MemW w s) (ht : MemW w t) : Calls Try.prog 20 #[.pointer (some ⟨s.mb, 0, none⟩), .pointer (some ⟨t.mb, 0, none⟩)] w fun e w' => e = .returned (.bool (sameM s t)) ∧ Below w.heap.size w w' := by
  unfold sameM
  by_cases h : s.ks.length = t.ks.length
  · rw [decide_eq_true h, Bool.true_and]
    exact same_loop w s t hs ht h
  · rw [decide_eq_false h, Bool.false_and]
    exact same_len w s t hs ht h
end Go.Proofs.Ytfbmkgdpejgjpaa

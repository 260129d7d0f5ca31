/- Same: two pages, two memories held against each other. -/
import Derived.Test.YtobnocioefchlaaPMAG
import Derived.Deep.LoopGhost
import Derived.Laws.Strings
import Derived.Test.YtobnocioefchlaaPMAC
import Derived.Outline
import Derived.Test.YtobnocioefchlaaPMAE
namespace Go.Proofs.Ytobnocioefchlaa
open Go.ChangeShapes Go.WideShapes Go.ChangeAt Go.RowKit
set_option linter.unusedVariables false
theorem bytes_ne {l m : List UInt8} (h : l ≠ m) : ((⟨l.toArray⟩ : ByteArray).toList == (⟨m.toArray⟩ : ByteArray).toList) = false := by
  rw [ByteArray.toList_eq, ByteArray.toList_eq]
  simpa using h
theorem equal_any (w : World) (ao bo : Option Addr) (l m : List UInt8) (cap cap2 : Nat) (hl : Lies w ao l) (hm : Lies w bo m) : Calls Try.prog 57 #[.slice ao l.length cap, .slice bo m.length cap2] w fun e w' => e = .returned (.bool (decide (l = m))) ∧ w' = w := by
  have h1 := run_str w ao l cap hl
  have h2 := run_str w bo m cap2 hm
  by_cases h : l = m
  · rw [decide_eq_true h]
    subst h
    clear hl hm
    generalize (⟨l.toArray⟩ : ByteArray) = x at h1 h2
    go_enter Try.func57, Try.ntmps57
    go_wp2
    go_ret
    exact ⟨rfl, rfl⟩
  · rw [decide_eq_false h]
    have hne := bytes_ne h
    clear hl hm h
    generalize (⟨l.toArray⟩ : ByteArray) = x at h1 hne
    generalize (⟨m.toArray⟩ : ByteArray) = y at h2 hne
    go_enter Try.func57, Try.ntmps57
    go_wp2
    go_ret
    exact ⟨rfl, rfl⟩
theorem partB_all (l : List UInt8) (h : l.length = 256) : partB l 0 256 = l := by
  unfold partB
  simp [List.take_of_length_le, h]
theorem samePage_any (w : World) (b1 b2 : Nat) (l1 l2 : List UInt8) (p1 p2 n1 n2 : Int) (h1 : Pg 125 w b1 l1 p1 n1) (h2 : Pg 125 w b2 l2 p2 n2) : Calls Try.prog 31 #[.pointer (some ⟨b1, 0, none⟩), .pointer (some ⟨b2, 0, none⟩)] w fun e w' => e = .returned (.bool (decide (p1 = p2 ∧ l1 = l2))) ∧ Below w.heap.size w w' := by
  have H1 := hidden (perm_any w b1 l1 p1 n1 h1)
  have H2 := hidden (perm_any w b2 l2 p2 n2 h2)
  by_cases hp : p1 = p2
  · have e : decide (p1 = p2 ∧ l1 = l2) = decide (l1 = l2) := by simp [hp]
    rw [e]
    subst hp
    have HB1 := hidden (bytes_any w b1 l1 p1 n1 0 256 h1)
    have HB2 : Hid (∀ u, Below w.heap.size w u → Calls Try.prog 58 #[.pointer (some ⟨b2, 0, none⟩), .int .i64 0, .int .i64 256] u fun e w' => ∃ ao cap, e = .returned (.slice ao l2.length cap) ∧ Row w' ao l2 cap ∧ Below u.heap.size u w') := by
      intro u hu
      have := bytes_any u b2 l2 p1 n2 0 256 (h2.later hu)
      rw [partB_all _ h2.len] at this
      exact this
    rw [partB_all _ h1.len] at HB1
    clear h1 h2 e
    go_enter Try.func31, Try.ntmps31
    go_wp2_with (first | (go_at_call 34; (first | (with_reducible refine (Hid.out H1).mono ?_) | (with_reducible refine (Hid.out H2).mono ?_)); rintro e w1 ⟨rfl, hww⟩; rw [hww]; clear hww w1) | (go_at_call 58; with_reducible refine (Hid.out HB1).mono ?_; rintro e w1 ⟨ao, cap, rfl, hr, hb⟩; have HR := hidden hr; have HB := hidden hb; clear hr hb HB1) | (go_at_call 58; refine (Hid.out HB2 _ (Hid.out HB)).mono ?_; rintro e w2 ⟨bo, cap2, rfl, hr, hb⟩; have HR2 := hidden hr; have HR1 := hidden (Row.later (Hid.out HR) hb); have HBB := hidden (Below.trans (Hid.out HB) (Below.mono hb (Hid.out HB).size)); clear hr hb HB2) | (go_at_call 57; refine (equal_any _ _ _ _ _ _ _ (Row.lies (Hid.out HR1)) (Row.lies (Hid.out HR2))).mono ?_; rintro e w3 ⟨rfl, hww⟩; rw [hww]; clear hww w3))
    go_ret
    exact ⟨rfl, Hid.out HBB⟩
  · have e : decide (p1 = p2 ∧ l1 = l2) = false := by simp [hp]
    rw [e]
    clear h1 h2 e
    go_enter Try.func31, Try.ntmps31
    go_wp2_with (go_at_call 34; (first | (with_reducible refine (Hid.out H1).mono ?_) | (with_reducible refine (Hid.out H2).mono ?_)); rintro e w1 ⟨rfl, hww⟩; rw [hww]; clear hww w1)
    go_ret
    exact ⟨rfl, Below.refl _ _⟩
def goodAt (s t : MS) (k : Nat) : Bool := decide (k ∈ t.ks) && decide (s.pm k = t.pm k ∧ s.data k = t.data k)
def sameM (s t : MS) : Bool := decide (s.ks.length = t.ks.length) && s.ks.all (goodAt s t)
theorem same_len (w : World) (s t : MS) (hs : MemW w s) (ht : MemW w t) (h : s.ks.length ≠ t.ks.length) : Calls Try.prog 13 #[.pointer (some ⟨s.mb, 0, none⟩), .pointer (some ⟨t.mb, 0, none⟩)] w fun e w' => e = .returned (.bool false) ∧ Below w.heap.size w w' := by
  have h1 := hs.cell1
  have h2 := ht.cell1
  have hne : ¬ (s.ks.length : Int) = (t.ks.length : Int) := by omega
  generalize (s.ks.length : Int) = x at h1 hne
  generalize (t.ks.length : Int) = y at h2 hne
  clear hs ht h
  go_enter Try.func13, Try.ntmps13
  go_wp2
  go_quiet (first | (go_at_call 29; exact Calls.quiet_of_same (load_at _ _ _ _ h1)) | (go_at_call 29; exact Calls.quiet_of_same (load_at _ _ _ _ h2)))
  go_wp2
  go_ret
  exact ⟨rfl, below_drewN (Below.refl _ _) _⟩
theorem pageOf_key {k : Nat} (h : k % 256 = 0) : pageOf k = k := by unfold pageOf; omega
set_option maxRecDepth 20000 in
set_option maxHeartbeats 2000000 in
theorem same_loop (w : World) (s t : MS) (hs : MemW w s) (ht : MemW w t) (h : s.ks.length = t.ks.length) : Calls Try.prog 13 #[.pointer (some ⟨s.mb, 0, none⟩), .pointer (some ⟨t.mb, 0, none⟩)] w fun e w' => e = .returned (.bool (s.ks.all (goodAt s t))) ∧ Below w.heap.size w w' := by
  have h1 := hs.cell1
  have h2 := ht.cell1
  rw [← h] at h2
  have HS := hidden hs
  have HT := hidden ht
  have h0 := hs.cell0
  have hr : ∀ n, (Instr.range 70 (.map (some s.bm))).run Try.prog (w.drewN n) = .ok (.pointer (some ⟨w.heap.size, 0, none⟩)) ((w.drewN n).alloc (.mapIter (some s.bm) s.ks.length #[] s.ks.length)) := fun n => run_range (w := w.drewN n) hs.map
  have hit : Hid (∀ n, It ((w.drewN n).alloc (.mapIter (some s.bm) s.ks.length #[] s.ks.length)) w.heap.size s.bm s.ks s.ks) := fun n => it_start (w := w.drewN n) hs.nodup
  generalize hx : (s.ks.length : Int) = x at h1 h2
  clear hs ht h hx
  go_enter Try.func13, Try.ntmps13
  go_wp2
  go_quiet (first | (go_at_call 29; exact Calls.quiet_of_same (load_at _ _ _ _ h1)) | (go_at_call 29; exact Calls.quiet_of_same (load_at _ _ _ _ h2)))
  go_wp2
  go_loopg [5, 6, 7] s.ks.length (fun q x5 x6 x7 wr => ∃ todo, todo.length = q ∧ It wr w.heap.size s.bm s.ks todo ∧ Below w.heap.size w wr ∧ ∀ k ∈ s.ks, k ∉ todo → goodAt s t k = true)
  case atStart => exact ⟨s.ks, rfl, Hid.out hit _, (below_drewN (Below.refl _ w) _).alloc (Nat.le_refl _) _, fun k h1 h2 => absurd h1 h2⟩
  case round =>
    obtain ⟨todo, hq, hI, hB, hG⟩ := hrel
    have hS := (Hid.out HS).later hB
    have hT := (Hid.out HT).later hB
    rcases run_next hI hS.map hS.nodup 0 with ⟨h0', hrun⟩ | ⟨k, w2, hk, hrun, hI2, hO, hent⟩
    · have HB := hidden hB
      have HG := hidden hG
      clear hS hT hI hB hG
      go_wp2
      go_ret
      exact ⟨ret_bool (List.all_eq_true.2 fun k hk => Hid.out HG k hk (by rw [h0']; simp)).symm, Hid.out HB⟩
    · have hks := hI.sub k hk
      have hkk := hS.key k hks
      have hB2 : Below w.heap.size w w2 := hB.trans (hO.below (Nat.le_refl _))
      have hS2 := (Hid.out HS).later hB2
      have hT2 := (Hid.out HT).later hB2
      by_cases hkt : k ∈ t.ks
      · have H41 := hidden (find_in w2 t k hT2 hkk.1 (by rw [pageOf_key hkk.2]; exact hkt))
        rw [pageOf_key hkk.2] at H41
        obtain ⟨n1, _, _, hp1⟩ := hS2.page k hks
        obtain ⟨n2, _, _, hp2⟩ := hT2.page k hkt
        have HC : Hid (∀ w3 n, w3 = w2.drewN n → w3.cell? ⟨s.hb k, 0, none⟩ = some (.pointer (some ⟨s.pb k, 0, none⟩)) ∧ w3.cell? ⟨t.hb k, 0, none⟩ = some (.pointer (some ⟨t.pb k, 0, none⟩)) ∧ (∀ m, Hid (Calls Try.prog 31 #[.pointer (some ⟨s.pb k, 0, none⟩), .pointer (some ⟨t.pb k, 0, none⟩)] (w3.drewN m) fun e w' => e = .returned (.bool (decide (s.pm k = t.pm k ∧ s.data k = t.data k))) ∧ Below w.heap.size w w' ∧ w'.heap[w.heap.size]? = w2.heap[w.heap.size]?))) := by
          intro w3 n e
          subst e
          refine ⟨hS2.held0 hks, hT2.held0 hkt, fun m => ?_⟩
          refine (samePage_any ((w2.drewN n).drewN m) _ _ _ _ _ _ _ _ (hp1.same rfl) (hp2.same rfl)).mono ?_
          rintro e w' ⟨he, hb⟩
          exact ⟨he, (below_drewN (below_drewN hB2 n) m).trans (hb.mono hB2.size), hb.block _ hI2.lt⟩
        have HI2 := hidden hI2
        have HB := hidden hB
        have HG := hidden hG
        have hlen := List.length_erase_of_mem hk
        have hpos := List.length_pos_of_mem hk
        have HK := hidden hk
        have HKS := hidden hks
        have hkn : s.ks.all (goodAt s t) = false ∨ goodAt s t k = true := by
          cases hg : goodAt s t k with
          | true => exact .inr rfl
          | false => exact .inl (by rw [← Bool.not_eq_true, List.all_eq_true]; exact fun h => by rw [h k hks] at hg; cases hg)
        have hgk : goodAt s t k = decide (s.pm k = t.pm k ∧ s.data k = t.data k) := by simp [goodAt, hkt]
        have HND : Hid (∀ j, j ∈ todo.erase k ↔ j ≠ k ∧ j ∈ todo) := fun j => List.Nodup.mem_erase_iff hI.nodup
        clear hS hT hI hB hG hI2 hO hB2 hS2 hT2 hp1 hp2 hkk hks hk
        cases hdec : decide (s.pm k = t.pm k ∧ s.data k = t.data k) with
        | true =>
          rw [hdec] at HC
          have HGK : Hid (goodAt s t k = true) := hgk.trans hdec
          clear hkn hgk hdec
          go_wp2_with (go_at_call 30; refine (Hid.out H41).mono ?_; rintro e w3 ⟨rfl, n, hww⟩; obtain ⟨hc1, hc2, hc3⟩ := Hid.out HC w3 n hww; clear hww HC)
          refine wp_region_tail 11 (by kernel_rfl) (by kernel_rfl) ?_
          simp only [List.take_succ_cons, List.take_zero, List.drop_succ_cons, List.drop_zero]
          repeat (go_big_quiet_step (fail))
          refine wpQuiet_nil ?_
          rintro _ ⟨nq, rfl⟩
          go_wp2_with (go_at_call 31; refine (Hid.out (hc3 _)).mono ?_; rintro e w4 ⟨rfl, hb4, hr4⟩; have HB4 := hidden hb4; have HR4 := hidden hr4; clear hb4 hr4)
          go_roundg (todo.erase k).length
          case measure => omega
          case rel =>
            refine ⟨todo.erase k, rfl, (Hid.out HI2).same (Hid.out HR4), Hid.out HB4, fun j hj hne => ?_⟩
            by_cases e : j = k
            · subst e; exact Hid.out HGK
            · exact Hid.out HG j hj fun h => hne ((Hid.out HND j).2 ⟨e, h⟩)
        | false =>
          rw [hdec] at HC
          have HALL : Hid (s.ks.all (goodAt s t) = false) := hkn.resolve_right (by rw [hgk, hdec]; simp)
          clear hkn hgk hdec
          go_wp2_with (go_at_call 30; refine (Hid.out H41).mono ?_; rintro e w3 ⟨rfl, n, hww⟩; obtain ⟨hc1, hc2, hc3⟩ := Hid.out HC w3 n hww; clear hww HC)
          refine wp_region_tail 11 (by kernel_rfl) (by kernel_rfl) ?_
          simp only [List.take_succ_cons, List.take_zero, List.drop_succ_cons, List.drop_zero]
          repeat (go_big_quiet_step (fail))
          refine wpQuiet_nil ?_
          rintro _ ⟨nq, rfl⟩
          go_wp2_with (go_at_call 31; refine (Hid.out (hc3 _)).mono ?_; rintro e w4 ⟨rfl, hb4, hr4⟩; have HB4 := hidden hb4; have HR4 := hidden hr4; clear hb4 hr4)
          go_ret
          exact ⟨ret_bool (Hid.out HALL).symm, Hid.out HB4⟩
      · have H41 := hidden (find_out w2 t k hT2 hkk.1 (by rw [pageOf_key hkk.2]; exact hkt))
        have HALL : Hid (s.ks.all (goodAt s t) = false) := by
          show s.ks.all (goodAt s t) = false
          rw [← Bool.not_eq_true, List.all_eq_true]
          intro h
          have := h k hks
          simp [goodAt, hkt] at this
        have HB2 := hidden hB2
        clear hS hT hI hB hG hI2 hO hB2 hS2 hT2 hkk hks hk hkt
        go_wp2_with (go_at_call 30; refine (Hid.out H41).mono ?_; rintro e w3 ⟨rfl, n, hww⟩; have HW := hidden hww; clear hww)
        go_quiet (fail)
        go_wp2
        go_ret
        exact ⟨ret_bool (Hid.out HALL).symm, by rw [Hid.out HW]; exact below_drewN (below_drewN (Hid.out HB2) _) _⟩
theorem same_any (w : World) (s t : MS) (hs : MemW w s) (ht : MemW w t) : Calls Try.prog 13 #[.pointer (some ⟨s.mb, 0, none⟩), .pointer (some ⟨t.mb, 0, none⟩)] w fun e w' => e = .returned (.bool (sameM s t)) ∧ Below w.heap.size w w' := by
  unfold sameM
  by_cases h : s.ks.length = t.ks.length
  · rw [decide_eq_true h, Bool.true_and]
    exact same_loop w s t hs ht h
  · rw [decide_eq_false h, Bool.false_and]
    exact same_len w s t hs ht h
end Go.Proofs.Ytobnocioefchlaa
namespace Go.Proofs.Ytobnocioefchlaa
open Go.ChangeShapes Go.WideShapes Go.ChangeAt Go.RowKit
set_option linter.unusedVariables false
/-- What the store into the copy's counter leaves. -/
structure R2 (c : Nat) (l : List UInt8) (p n : Int) (w w' : World) : Prop where
  only : Only c w w'
  any : (∃ m, Pg 125 w c l p m) → ∃ m, Pg 125 w' c l p m
  fin : Pg 125 w c l p n → Pg 125 w' c l p n
theorem R2.refl {c : Nat} {l : List UInt8} {p n : Int} (w : World) : R2 c l p n w w := ⟨Only.refl _ _, id, id⟩
theorem R2.later (c : Nat) (l : List UInt8) (p n : Int) : Later (R2 c l p n) :=
  ⟨fun w => R2.refl w, fun u v w h k => ⟨h.only.trans k.only, fun x => k.any (h.any x), fun x => k.fin (h.fin x)⟩, fun w => ⟨(Only.refl _ w).drew, fun ⟨m, h⟩ => ⟨m, h.same rfl⟩, fun h => h.same rfl⟩⟩
theorem r2_store {c : Nat} {l : List UInt8} {p n m : Int} {w : World} (h : Pg 125 w c l p m) : R2 c l p n w (w.setCell ⟨c, 257, none⟩ (.int .i64 n)) :=
  ⟨(Only.refl _ _).setCell _ _, fun _ => ⟨n, h.setCount n⟩, fun _ => h.setCount n⟩
/-- What the slots of the region hold, whatever the order. -/
def phiBox (b m : Nat) (l : List UInt8) (p : Int) : Nat → Value → World → Prop
  | 0, x, _ => x = .pointer (some ⟨b, 0, none⟩)
  | 1, x, _ => x = .pointer (some ⟨b, 0, none⟩)
  | 2, x, _ => x = .pointer (some ⟨b, 0, none⟩)
  | 3, x, _ => x = .agg (cellsU l).toArray
  | 4, x, _ => x = .pointer (some ⟨b, 0, none⟩)
  | 5, x, _ => x = .pointer (some ⟨b, 0, none⟩)
  | 6, x, _ => x = .pointer (some ⟨b, 256, none⟩)
  | 7, x, _ => x = .int .i64 p
  | 8, x, _ => x = .agg (pcells l p 0)
  | 9, x, w => ∃ g, x = .pointer (some ⟨g, 0, none⟩) ∧ m ≤ g ∧ Pg 125 w g l p 0
  | 10, x, w => ∃ g, x = .pointer (some ⟨g, 0, none⟩) ∧ m ≤ g ∧ Pg 125 w g l p 0
  | _ + 11, _, _ => True
theorem phiBox_mono (b m : Nat) (l : List UInt8) (p : Int) : ∀ i x w w', phiBox b m l p i x w → Below w.heap.size w w' → phiBox b m l p i x w'
  | 0, _, _, _, h, _ => h
  | 1, _, _, _, h, _ => h
  | 2, _, _, _, h, _ => h
  | 3, _, _, _, h, _ => h
  | 4, _, _, _, h, _ => h
  | 5, _, _, _, h, _ => h
  | 6, _, _, _, h, _ => h
  | 7, _, _, _, h, _ => h
  | 8, _, _, _, h, _ => h
  | 9, x, w, w', h, hb => by obtain ⟨g, e, h1, h2⟩ := h; exact ⟨g, e, h1, h2.later hb⟩
  | 10, x, w, w', h, hb => by obtain ⟨g, e, h1, h2⟩ := h; exact ⟨g, e, h1, h2.later hb⟩
  | _ + 11, _, _, _, _, _ => trivial
/-- What the slots of the region hold, whatever the order. -/
def phiStore (b c : Nat) (l : List UInt8) (p n : Int) : Nat → Value → World → Prop
  | 0, x, _ => x = .pointer (some ⟨c, 0, none⟩)
  | 1, x, _ => x = .pointer (some ⟨c, 0, none⟩)
  | 2, x, _ => x = .pointer (some ⟨c, 257, none⟩)
  | 3, x, _ => x = .pointer (some ⟨b, 0, none⟩)
  | 4, x, _ => x = .pointer (some ⟨b, 0, none⟩)
  | 5, x, _ => x = .pointer (some ⟨b, 257, none⟩)
  | 6, x, _ => x = .int .i64 n
  | 7, x, w => x = .tuple #[] ∧ Pg 125 w c l p n
  | _ + 8, _, _ => True
theorem phiStore_mono (b c : Nat) (l : List UInt8) (p n : Int) : ∀ i x w w', phiStore b c l p n i x w → R2 c l p n w w' → phiStore b c l p n i x w'
  | 0, _, _, _, h, _ => h
  | 1, _, _, _, h, _ => h
  | 2, _, _, _, h, _ => h
  | 3, _, _, _, h, _ => h
  | 4, _, _, _, h, _ => h
  | 5, _, _, _, h, _ => h
  | 6, _, _, _, h, _ => h
  | 7, x, w, w', h, hb => ⟨h.1, hb.fin h.2⟩
  | _ + 8, _, _, _, _, _ => trivial
theorem list11 : ∀ xs : List Value, xs.length = 11 → ∃ x0 x1 x2 x3 x4 x5 x6 x7 x8 x9 x10, xs = [x0, x1, x2, x3, x4, x5, x6, x7, x8, x9, x10]
  | [x0, x1, x2, x3, x4, x5, x6, x7, x8, x9, x10], _ => ⟨_, _, _, _, _, _, _, _, _, _, _, rfl⟩
theorem list8 : ∀ xs : List Value, xs.length = 8 → ∃ x0 x1 x2 x3 x4 x5 x6 x7, xs = [x0, x1, x2, x3, x4, x5, x6, x7]
  | [x0, x1, x2, x3, x4, x5, x6, x7], _ => ⟨_, _, _, _, _, _, _, _, rfl⟩
end Go.Proofs.Ytobnocioefchlaa
namespace Go.Proofs.Ytobnocioefchlaa
open Go Go.RowKit
set_option linter.unusedVariables false
section
variable {P : Program}
/-- The head is listed, and nothing else. -/
def headDone (n g : Nat) : Array Bool := Array.replicate n true ++ Array.replicate g false
theorem headDone_eq {L : Array Bool} {n g : Nat} (hs : L.size = n + g) (h1 : ∀ i, i < n → L.getD i false = true) (h2 : ∀ i, n ≤ i → i < n + g → L.getD i true = false) : L = headDone n g := by
  refine Array.ext (by simp [headDone, hs]) fun i hi1 hi2 => ?_
  by_cases h : i < n
  · have := h1 i h
    simp [hi1] at this
    simp [headDone, h, this]
  · have := h2 i (by omega) (by omega)
    simp [hi1] at this
    simp [headDone, Array.getElem_append, h, this]
def headB (ops : Array Oper) (n : Nat) : Bool :=
  decide (n < ops.size) && Region.sinkB .any ops n && Region.chainB .any ops n && edgesB .any ops && Region.seqB .any ops (ops.size - n) n (headDone n (ops.size - n))
theorem count_head : ∀ (l : List Bool) (n i : Nat), l[i]? = some false → i < n → ((l.set i true).take n).count false + 1 = (l.take n).count false := by
  intro l n i h hn
  rw [List.take_set]
  exact count_up _ i (by rw [List.getElem?_take_of_lt hn]; exact h)
theorem wp_region_head {R : World → World → Prop} (hR : Later R) {id : Nat} {Q : Exit → Act → World → Prop} {a : Act} {w : World} {l : List Oper} (n : Nat) (ds : List Nat) (Φ : Nat → Value → World → Prop) (hm : P.follows .mixedOrders = true) (hB : headB l.toArray n = true) (hd : ds.length = n)
    (hmono : ∀ i v w w', Φ i v w → R w w' → Φ i v w')
    (hstep : ∀ j, j < n → ∀ xs w', xs.length = n → R w w' → (∀ i, waitsB .any l.toArray j i = true → Φ i (xs.getD i undef) w') →
      Runs P l.toArray Q j (fun a' w'' => ∃ v, a' = slotsOn a ds (xs.set j v) ∧ Φ j v w'' ∧ R w' w'') (slotsOn a ds xs) w')
    (hfin : ∀ xs w', xs.length = n → R w w' → (∀ i, i < n → Φ i (xs.getD i undef) w') → wpList P l.toArray Q (l.drop n) (slotsOn a ds xs) w') :
    (Code.region id l.toArray true).wp P Q a w := by
  simp only [headB, Bool.and_eq_true, decide_eq_true_eq] at hB
  obtain ⟨⟨⟨⟨hn, hs⟩, hc⟩, hb⟩, hq⟩ := hB
  have key : ∀ (c : Nat) (L : Array Bool) (xs : List Value) (w' : World), HeadInv .any l.toArray n L → xs.length = n → R w w' → (∀ i, i < n → L.getD i false = true → Φ i (xs.getD i undef) w') → (L.toList.take n).count false = c →
      wpAny P .any l.toArray Q (c + (l.toArray.size - n)) L (slotsOn a ds xs) w' := by
    intro c
    induction c with
    | zero =>
      intro L xs w' inv hx hR' hΦ h0
      have hall : ∀ i, i < n → L.getD i false = true := by
        intro i hi
        cases h : L.getD i false with
        | true => rfl
        | false =>
          exfalso
          have hlt : i < L.size := by rw [inv.size]; omega
          have : false ∈ L.toList.take n := by
            rw [List.mem_iff_getElem?]
            refine ⟨i, ?_⟩
            rw [List.getElem?_take_of_lt hi]
            simp [hlt] at h ⊢
            exact h
          have := List.count_pos_iff.2 this
          omega
      have e := headDone_eq (L := L) (n := n) (g := l.toArray.size - n) (by rw [inv.size]; omega) hall (fun i h1 h2 => inv.tail i h1 (by omega))
      have hdl : (l.drop n).length = l.toArray.size - n := by simp
      have := wpAny_of_seq (P := P) (md := .any) (Q' := Q) (l.drop n) n L (slotsOn a ds xs) w' (fun j => by simp [List.getElem?_drop]) (by rw [hdl, e]; exact hq) (hfin xs w' hx hR' fun i hi => hΦ i hi (hall i hi))
      rw [hdl] at this
      rw [Nat.zero_add]
      exact this
    | succ c ih =>
      intro L xs w' inv hx hR' hΦ h0
      obtain ⟨q, hq1, hq2⟩ : ∃ q, q < n ∧ L.getD q true = false := by
        have : false ∈ L.toList.take n := List.count_pos_iff.1 (by omega)
        obtain ⟨i, hi⟩ := List.mem_iff_getElem?.1 this
        have hin : i < n := by
          have := (List.getElem?_eq_some_iff.1 hi).1
          simp at this
          omega
        rw [List.getElem?_take_of_lt hin] at hi
        have hlt : i < L.size := by rw [inv.size]; omega
        refine ⟨i, hin, ?_⟩
        simp [hlt] at hi ⊢
        exact hi
      have hlow : ∀ j ∈ Region.ready .any l.toArray L, j < n := fun j hj => Nat.lt_of_not_le fun h => tail_waits hs hc hn inv _ q rfl hq1 hq2 j h hj
      rw [show c + 1 + (l.toArray.size - n) = (c + (l.toArray.size - n)) + 1 by omega]
      refine ⟨fun hno => ?_, fun i hi => ?_⟩
      · exfalso
        have := all_up hb inv.size hno q (by omega)
        rw [getD_both hq2] at this
        cases this
      · have hin := hlow i hi
        obtain ⟨hl, o, ho, hall⟩ := mem_ready.1 hi
        have hr := hstep i hin xs w' hx hR' (fun j hj => by
          simp only [waitsB, ho] at hj
          obtain ⟨e, he, hbb⟩ := Array.any_eq_true'.1 hj
          simp only [Bool.and_eq_true, beq_iff_eq] at hbb
          have hlt := edge_back hb ho he hbb.1
          rw [← hbb.2]
          exact hΦ e.on (by omega) (hall e he hbb.1))
        refine wpOp_mono ?_ hr.out
        rintro a' w'' ⟨v, rfl, hv, hR''⟩
        have hlt : i < L.size := by rw [inv.size]; omega
        refine ih (L.setIfInBounds i true) (xs.set i v) w'' (inv.set hi hin) (by simpa using hx) (hR.trans _ _ _ hR' hR'') ?_ ?_
        · intro k hk hLk
          by_cases hik : i = k
          · subst hik
            rw [List.getD_eq_getElem?_getD, List.getElem?_set_self (by omega), Option.getD_some]
            exact hv
          · rw [List.getD_eq_getElem?_getD, List.getElem?_set_ne hik, ← List.getD_eq_getElem?_getD]
            refine hmono k _ w' w'' (hΦ k hk ?_) hR''
            rw [getD_set_ne false hik] at hLk
            exact hLk
        · rw [Array.toList_setIfInBounds]
          have hf : L.toList[i]? = some false := by
            simp [hlt] at hl ⊢
            exact hl
          have := count_head L.toList n i hf hin
          omega
  have inv0 : HeadInv .any l.toArray n (Array.replicate l.toArray.size false) :=
    ⟨by simp, fun j oj _ hl => (by rw [getD_replicate_false] at hl; cases hl), fun t _ ht => getD_in (by simpa using ht) (getD_replicate_false _ _)⟩
  refine wp_region_any hm ?_
  have hsz : n < l.length := by simpa using hn
  have h := key n (Array.replicate l.toArray.size false) (ds.map fun d => a.tmps.toList.getD d undef) _ inv0 (by simpa using hd) (hR.drew w) (fun i _ h => by rw [getD_replicate_false] at h; cases h) (by
    simp only [Array.toList_replicate, List.take_replicate, List.count_replicate_self]
    simp
    omega)
  rw [show n + (l.toArray.size - n) = l.toArray.size by omega, slotsOn_self] at h
  exact h
end
end Go.Proofs.Ytobnocioefchlaa

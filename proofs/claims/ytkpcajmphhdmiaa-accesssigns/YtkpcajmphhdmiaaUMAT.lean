/- Chapter 5's own memory: the calls over the object. -/
import Derived.Test.YtkpcajmphhdmiaaUMAS
import Derived.Test.YtkpcajmphhdmiaaUMAK
import Derived.Test.YtkpcajmphhdmiaaUMAH
import Derived.Test.YtkpcajmphhdmiaaUMAN
namespace Go.Proofs.Ytkpcajmphhdmiaa
open Go.ChangeShapes Go.WideShapes Go.ChangeAt Go.RowKit
set_option linter.unusedVariables false
theorem M5.findC {w : World} {s : S5} (h : M5 w s) (a : Nat) (ha : a < 4294967296) : Calls Try.prog 58 #[.pointer (some ⟨s.m, 0, none⟩), .int .u32 (a : Int)] w fun e w' => e = .returned (.int .i64 (find5I s.l (a / 256 * 256))) ∧ w' = w := by
  obtain ⟨ao, cap, hv, hps⟩ := h.ps
  exact find_any w s.m ao cap a s.l hps (by rw [h.cellP, hv]) h.few ha
theorem M5.permC {w : World} {s : S5} (h : M5 w s) (a : Nat) (ha : a < 4294967296) : Calls Try.prog 36 #[.pointer (some ⟨s.m, 0, none⟩), .int .u32 (a : Int)] w fun e w' => e = .returned (.int .i64 (perm5 s.l (a / 256 * 256))) ∧ w' = w := by
  obtain ⟨ao, cap, hv, hps⟩ := h.ps
  exact perm5_any w s.m ao cap a s.l hps (by rw [h.cellP, hv]) h.few ha
theorem M5.peekC {w : World} {s : S5} (h : M5 w s) (a : Nat) (ha : a < 4294967296) : Calls Try.prog 41 #[.pointer (some ⟨s.m, 0, none⟩), .int .u32 (a : Int)] w fun e w' => e = .returned (.int .u8 ((peek5 s.l a).toNat : Int)) ∧ w' = w := by
  obtain ⟨ao, cap, hv, hps⟩ := h.ps
  exact peek5_any w s.m ao cap a s.l hps (by rw [h.cellP, hv]) h.few ha
theorem M5.bytesC {w : World} {s : S5} (h : M5 w s) (a c : Nat) (ha : a < 4294967296) (hc : c ≤ 16384) : Calls Try.prog 49 #[.pointer (some ⟨s.m, 0, none⟩), .int .u32 (a : Int), .int .i64 (c : Int)] w fun e w' => ∃ v, e = .returned v ∧ w'.ownsRow w.heap.size 5 1 v (bytes5 s.l a c).length (cellsU (bytes5 s.l a c)) ∧ Below w.heap.size w w' := by
  obtain ⟨ao, cap, hv, hps⟩ := h.ps
  exact bytes5_any w s.m ao cap a c s.l hps h.lt (by rw [h.cellP, hv]) h.few ha hc
theorem M5.pagesC {w : World} {s : S5} (h : M5 w s) : Calls Try.prog 46 #[.pointer (some ⟨s.m, 0, none⟩)] w fun e w' => ∃ v, e = .returned v ∧ w'.ownsRow w.heap.size 23 1 v (s.l.map P5.at_).length (words (s.l.map P5.at_)) ∧ Below w.heap.size w w' := by
  obtain ⟨ao, cap, hv, hps⟩ := h.ps
  exact pages5_any w s.m ao cap s.l hps h.lt (by rw [h.cellP, hv]) h.few
def setW5 (l : List P5) (p : Nat) (b : Bool) : List P5 := if find5 l p < l.length then l.set (find5 l p) { l.getD (find5 l p) nop5 with watched := b } else l
theorem one5_setW {q : P5} (h : Fit5 q) (b : Bool) : one5 { q with watched := b } = (one5 q).set 258 (.bool b) := by
  have e : ∀ x : P5, one5 x = ([.int .u32 (x.at_ : Int), .int .i64 x.perm] ++ cellsU x.b) ++ [.bool x.watched] := fun x => by simp [one5]
  rw [e, e, List.set_append_right _ _ (by simp [cellsU, h.lb])]
  simp [cellsU, h.lb]
theorem one5_setP {q : P5} (z : Int) : one5 { q with perm := z } = (one5 q).set 1 (.int .i64 z) := rfl
set_option maxRecDepth 20000 in
set_option maxHeartbeats 2000000 in
theorem watch5_there (w : World) (m g off cap n k a : Nat) (ob b : Bool) (hC : Calls Try.prog 58 #[.pointer (some ⟨m, 0, none⟩), .int .u32 (a : Int)] w fun e w' => e = .returned (.int .i64 (k : Int)) ∧ w' = w) (hP : w.cell? ⟨m, 1, none⟩ = some (.slice (some ⟨g, off, none⟩) n cap)) (hB : w.cell? ⟨g, off + k * 259 + 258, none⟩ = some (.bool ob)) (hz : w.frozen? ⟨g, off + k * 259 + 258, none⟩ = false) (hne : ¬ m = g) (hkn : k < n) :
    Calls Try.prog 33 #[.pointer (some ⟨m, 0, none⟩), .int .u32 (a : Int), .bool b] w fun e w' => e = .returned (.tuple #[]) ∧ w' = w.setCell ⟨g, off + k * 259 + 258, none⟩ (.bool b) := by
  have C := hidden hC
  clear hC
  have hne' : ¬ g = m := fun e => hne e.symm
  have hk0 : (0 : Int) ≤ (k : Int) := by omega
  go_enter Try.func33, Try.ntmps33
  go_wp2_with ((go_at_call 58; with_reducible refine (Hid.out C).mono ?_; rintro e w4 ⟨rfl, hww⟩; rw [hww]; clear hww w4))
  go_end0
  exact ⟨rfl, rfl⟩
set_option maxRecDepth 20000 in
theorem M5.watchC {w : World} {s : S5} (h : M5 w s) (a : Nat) (b : Bool) (ha : a < 4294967296) : Calls Try.prog 33 #[.pointer (some ⟨s.m, 0, none⟩), .int .u32 (a : Int), .bool b] w fun e w' => e = .returned (.tuple #[]) ∧ ∃ s', Step5 w s w' s' ∧ s'.m = s.m ∧ s'.most = s.most ∧ s'.ts = s.ts ∧ s'.l = setW5 s.l (a / 256 * 256) b := by
  have hC := h.findC a ha
  unfold setW5
  obtain ⟨p, hp⟩ : ∃ p, a / 256 * 256 = p := ⟨_, rfl⟩
  rw [hp] at hC ⊢
  by_cases hf : find5 s.l p < s.l.length
  · rw [find5I_yes hf] at hC
    rw [if_pos hf]
    obtain ⟨k, hk⟩ : ∃ k, find5 s.l p = k := ⟨_, rfl⟩
    rw [hk] at hC hf ⊢
    obtain ⟨g, off, cap, h0, hv, hlt, hth, ⟨cur, hbg⟩, hc⟩ := h.row hf
    have hfit := h.fitAt hf
    refine (watch5_there w s.m g off cap s.l.length k a _ b hC (by rw [h.cellP, hv]) (hc k 258 _ hf (by omega) (one5_watch hfit)) (hth _) (blk_ne h.self hbg (by decide)) hf).mono ?_
    rintro e w' ⟨he, rfl⟩
    exact ⟨he, _, h.set hf (by omega) (one5_setW hfit b) ⟨hfit.lb, hfit.la⟩ hv h0, rfl, rfl, rfl, rfl⟩
  · rw [find5I_no hf] at hC
    rw [if_neg hf]
    have C := hidden hC
    have H := hidden h
    clear hC h hf hp
    go_enter Try.func33, Try.ntmps33
    go_wp2_with ((go_at_call 58; with_reducible refine (Hid.out C).mono ?_; rintro e w4 ⟨rfl, hww⟩; rw [hww]; clear hww w4))
    go_end0
    exact ⟨rfl, s, Step5.refl (Hid.out H), rfl, rfl, rfl, rfl⟩
set_option maxRecDepth 20000 in
theorem M5.takeC {w : World} {s : S5} (h : M5 w s) : Calls Try.prog 22 #[.pointer (some ⟨s.m, 0, none⟩)] w fun e w' => e = .returned s.vT ∧ Step5 w s w' { s with ts := [], vT := .slice none 0 0 } ∧ w'.ownsRow 0 23 1 s.vT s.ts.length (words s.ts) := by
  have h2 : w.cell? ⟨s.m, 2, none⟩ = some s.vT := h.self.cell rfl
  have hz : w.frozen? ⟨s.m, 2, none⟩ = false := frozen_of_row _ _ _ _ _ h.self
  have hlt := h.lt
  have out : ∀ t, t ≠ s.m → (w.setCell ⟨s.m, 2, none⟩ (.slice none 0 0)).heap[t]? = w.heap[t]? := fun t ht => Below.heap_setCell _ _ _ _ ht
  have hmP : ∀ t, s.vP.ownBlock = some t → t ≠ s.m := fun t ht => by
    obtain ⟨c, hb⟩ := h.blkP ht
    exact blk_ne hb h.self (by decide)
  have hmT : ∀ t, s.vT.ownBlock = some t → t ≠ s.m := fun t ht => by
    obtain ⟨c, hb⟩ := h.blkT ht
    exact blk_ne hb h.self (by decide)
  have HS : Hid (Step5 w s (w.setCell ⟨s.m, 2, none⟩ (.slice none 0 0)) { s with ts := [], vT := .slice none 0 0 } ∧ (w.setCell ⟨s.m, 2, none⟩ (.slice none 0 0)).ownsRow 0 23 1 s.vT s.ts.length (words s.ts)) := by
    refine ⟨⟨⟨?_, ownsRow_same h.pages fun t ht => out t (hmP t ht), World.ownsRow_nil _ _ _ _, h.fit, h.few⟩, (keep_set w _ _).mono fun b _ hb => .inl hb, ?_⟩, ownsRow_same h.touched fun t ht => out t (hmT t ht)⟩
    · show (w.setCell ⟨s.m, 2, none⟩ (.slice none 0 0)).heap[s.m]? = _
      rw [Lib.heap_setCell_same h.self]
      rfl
    · rintro b (hb | hb | hb)
      · exact .inl (.inl hb)
      · exact .inl (.inr (.inl hb))
      · simp [Value.ownBlock] at hb
  obtain ⟨vT, hvT⟩ : ∃ vT, s.vT = vT := ⟨_, rfl⟩
  rw [hvT] at h2 HS ⊢
  clear h out hmP hmT hvT
  go_enter Try.func22, Try.ntmps22
  go_wp2
  go_ret
  exact ⟨rfl, (Hid.out HS).1, (Hid.out HS).2⟩
def word5 (l : List P5) (a : Nat) : Nat := (peek5 l a).toNat * 16777216 + (peek5 l ((a + 1) % 4294967296)).toNat * 65536 + (peek5 l ((a + 2) % 4294967296)).toNat * 256 + (peek5 l ((a + 3) % 4294967296)).toNat
theorem Sim.word {s : MS} {l : List P5} (h : Sim s l) (a : Nat) (ha : a < 4294967296) : word5 l a = preW s a 4 := by
  unfold word5
  rw [h.peek, h.peek, h.peek, h.peek]
  simp only [preW, wrapAt]
  rw [show (a + 0) % 4294967296 = a by omega]
  omega
theorem Sim.bytes {s : MS} {l : List P5} (h : Sim s l) (a n : Nat) : bytes5 l a n = s.span a n := by
  unfold bytes5 MS.span
  refine List.map_congr_left fun i _ => ?_
  rw [h.peek]
  rfl
set_option maxRecDepth 20000 in
set_option maxHeartbeats 2000000 in
theorem M5.wordC {w : World} {s : S5} (h : M5 w s) (a : Nat) (ha : a < 4294967296) : Calls Try.prog 38 #[.pointer (some ⟨s.m, 0, none⟩), .int .u32 (a : Int)] w fun e w' => e = .returned (.int .u32 (word5 s.l a : Int)) ∧ w' = w := by
  have P0 := hidden (h.peekC a ha)
  have P1 : Hid (Calls Try.prog 41 #[.pointer (some ⟨s.m, 0, none⟩), .int .u32 (((a : Int) + 1) % 4294967296)] w fun e w' => e = .returned (.int .u8 ((peek5 s.l ((a + 1) % 4294967296)).toNat : Int)) ∧ w' = w) := by
    have := h.peekC ((a + 1) % 4294967296) (by omega)
    rw [show ((((a + 1) % 4294967296 : Nat)) : Int) = ((a : Int) + 1) % 4294967296 by omega] at this
    exact this
  have P2 : Hid (Calls Try.prog 41 #[.pointer (some ⟨s.m, 0, none⟩), .int .u32 (((a : Int) + 2) % 4294967296)] w fun e w' => e = .returned (.int .u8 ((peek5 s.l ((a + 2) % 4294967296)).toNat : Int)) ∧ w' = w) := by
    have := h.peekC ((a + 2) % 4294967296) (by omega)
    rw [show ((((a + 2) % 4294967296 : Nat)) : Int) = ((a : Int) + 2) % 4294967296 by omega] at this
    exact this
  have P3 : Hid (Calls Try.prog 41 #[.pointer (some ⟨s.m, 0, none⟩), .int .u32 (((a : Int) + 3) % 4294967296)] w fun e w' => e = .returned (.int .u8 ((peek5 s.l ((a + 3) % 4294967296)).toNat : Int)) ∧ w' = w) := by
    have := h.peekC ((a + 3) % 4294967296) (by omega)
    rw [show ((((a + 3) % 4294967296 : Nat)) : Int) = ((a : Int) + 3) % 4294967296 by omega] at this
    exact this
  unfold word5
  have b0 := UInt8.toNat_lt (peek5 s.l a)
  have b1 := UInt8.toNat_lt (peek5 s.l ((a + 1) % 4294967296))
  have b2 := UInt8.toNat_lt (peek5 s.l ((a + 2) % 4294967296))
  have b3 := UInt8.toNat_lt (peek5 s.l ((a + 3) % 4294967296))
  generalize (peek5 s.l a).toNat = x0 at *
  generalize (peek5 s.l ((a + 1) % 4294967296)).toNat = x1 at *
  generalize (peek5 s.l ((a + 2) % 4294967296)).toNat = x2 at *
  generalize (peek5 s.l ((a + 3) % 4294967296)).toNat = x3 at *
  clear h
  go_enter Try.func38, Try.ntmps38
  go_wp2_with (go_at_call 41; first | (with_reducible refine (Hid.out P0).mono ?_; rintro e w4 ⟨rfl, hww⟩; rw [hww]; clear hww w4) | (with_reducible refine (Hid.out P1).mono ?_; rintro e w4 ⟨rfl, hww⟩; rw [hww]; clear hww w4) | (with_reducible refine (Hid.out P2).mono ?_; rintro e w4 ⟨rfl, hww⟩; rw [hww]; clear hww w4) | (with_reducible refine (Hid.out P3).mono ?_; rintro e w4 ⟨rfl, hww⟩; rw [hww]; clear hww w4))
  go_ret
  exact ⟨ret_int (by omega), rfl⟩
/-- What Map makes of the pages. -/
def Mapped5 (l l' : List P5) (p : Nat) (q : Int) (most : Nat) : Prop :=
  (find5 l p < l.length ∧ l' = l.set (find5 l p) { l.getD (find5 l p) nop5 with perm := bits .or .i64 (l.getD (find5 l p) nop5).perm q }) ∨
  (¬ find5 l p < l.length ∧ l.length < most ∧ ∃ i, i ≤ l.length ∧ l' = l.take i ++ page5 p q :: l.drop i ∧ (∀ k, i = k + 1 → ¬ p < (l.getD k nop5).at_) ∧ ∀ j, i ≤ j → j < l.length → p < (l.getD j nop5).at_) ∨
  (¬ find5 l p < l.length ∧ ¬ l.length < most ∧ l' = l)
def mapErr5 (l : List P5) (p most : Nat) : Int := if find5 l p < l.length ∨ l.length < most then 0 else 2
theorem M5.mapC {w : World} {s : S5} (h : M5 w s) (a : Nat) (z : Int) (ha : a < 4294967296) (hlen : s.l.length < 1000) : Calls Try.prog 31 #[.pointer (some ⟨s.m, 0, none⟩), .int .u32 (a : Int), .int .i64 z] w fun e w' => e = .returned (.int .i64 (mapErr5 s.l (a / 256 * 256) s.most)) ∧ ∃ s', Step5 w s w' s' ∧ s'.m = s.m ∧ s'.most = s.most ∧ s'.ts = s.ts ∧ Mapped5 s.l s'.l (a / 256 * 256) (z % 8) s.most := by
  have e7 := and7 z
  have hC := h.findC a ha
  by_cases hf : find5 s.l (a / 256 * 256) < s.l.length
  · have he : mapErr5 s.l (a / 256 * 256) s.most = 0 := if_pos (.inl hf)
    rw [find5I_yes hf] at hC
    rw [he]
    obtain ⟨g, off, cap, h0, hv, hlt, hth, ⟨cur, hbg⟩, hc⟩ := h.row hf
    have hfit := h.fitAt hf
    refine (map5_there w s.m g off cap s.l.length _ a _ z hC (by rw [h.cellP, hv]) (hc _ 1 _ hf (by omega) rfl) (hth _) (blk_ne h.self hbg (by decide)) hf).mono ?_
    rintro e w' ⟨he, r, rfl⟩
    rw [e7]
    have hs := (h.drewN r).set hf (show 1 < 259 by omega) (one5_setP (bits .or .i64 (s.l.getD (find5 s.l (a / 256 * 256)) nop5).perm (z % 8))) ⟨hfit.lb, hfit.la⟩ hv h0
    exact ⟨he, _, ⟨hs.mem, (Keep.refl _ w).drewN r |>.trans hs.keep fun b _ hb => hb, hs.grow⟩, rfl, rfl, rfl, .inl ⟨hf, rfl⟩⟩
  · by_cases hr : s.l.length < s.most
    · have he : mapErr5 s.l (a / 256 * 256) s.most = 0 := if_pos (.inr hr)
      rw [he]
      refine (map5_new w s h a z ha hf hr hlen).mono ?_
      rintro e w' ⟨he, s', h1, h2, h3, h4, i, h5, h6, h7, h8⟩
      rw [e7] at h6
      exact ⟨he, s', h1, h2, h3, h4, .inr (.inl ⟨hf, hr, i, h5, h6, h7, h8⟩)⟩
    · have he : mapErr5 s.l (a / 256 * 256) s.most = 2 := if_neg (fun h => h.elim hf hr)
      rw [find5I_no hf] at hC
      rw [he]
      obtain ⟨ao, cap, hv, hps⟩ := h.ps
      refine (map5_full w s.m cap s.l.length s.most a ao z hC (by rw [h.cellP, hv]) (h.self.cell rfl) (by omega)).mono ?_
      rintro e w' ⟨he, r, rfl⟩
      exact ⟨he, s, ⟨h.drewN r, (Keep.refl _ w).drewN r, fun _ hb => .inl hb⟩, rfl, rfl, rfl, .inr (.inr ⟨hf, hr, rfl⟩)⟩
theorem pokeAt_fields (s : MS) (a : Nat) (v : UInt8) (tv : Value) (k : Nat) (h : k ≠ pageOf a) : (s.pokeAt a v tv).data k = s.data k ∧ (s.pokeAt a v tv).pm k = s.pm k ∧ (s.pokeAt a v tv).on k = s.on k := by
  unfold MS.pokeAt
  split
  · simp [MS.poke, upd, h]
  · exact ⟨rfl, rfl, rfl⟩
theorem Sim.poke {s : MS} {l : List P5} (h : Sim s l) (a : Nat) (v : UInt8) (tv : Value) : Sim (s.pokeAt a v tv) (poke5 l a v) := by
  unfold poke5
  by_cases hf : find5 l (a / 256 * 256) < l.length
  · rw [if_pos hf]
    have hk : pageOf a ∈ s.ks := by rw [pageOf_div]; exact (h.find _).2 hf
    have hs : s.pokeAt a v tv = s.poke a v tv := by unfold MS.pokeAt; rw [if_pos hk]
    obtain ⟨a1, a2, a3⟩ := h.at hf
    refine h.set hf (find5_at hf) (pokeAt_ks _ _ _ _) ?_ ?_ ?_ fun k hk => pokeAt_fields s a v tv k (by rw [pageOf_div]; exact hk)
    · rw [hs]
      show (l.getD (find5 l (a / 256 * 256)) nop5).b.set (a % 256) v = _
      rw [a1]
      simp [MS.poke, upd, pageOf_div]
    · rw [hs]
      simpa [put5, MS.poke] using a2
    · rw [hs]
      simpa [put5, MS.poke] using a3
  · rw [if_neg hf]
    have hk : pageOf a ∉ s.ks := by rw [pageOf_div]; exact fun e => hf ((h.find _).1 e)
    have hs : s.pokeAt a v tv = s := by unfold MS.pokeAt; rw [if_neg hk]
    rw [hs]
    exact h
theorem Sim.touch {s : MS} {l : List P5} (h : Sim s l) (a : Nat) (v : UInt8) (tv : Value) : (s.pokeAt a v tv).ts = touch5 l s.ts a := by
  unfold touch5 MS.pokeAt
  by_cases hf : find5 l (a / 256 * 256) < l.length
  · rw [if_pos (by rw [pageOf_div]; exact (h.find _).2 hf)]
    simp only [MS.poke, pageOf_div, ← (h.at hf).2.2]
    by_cases hw : (l.getD (find5 l (a / 256 * 256)) nop5).watched = true
    · rw [if_pos hw, if_pos ⟨hf, hw⟩]
    · rw [if_neg hw, if_neg (fun e => hw e.2)]
  · rw [if_neg (by rw [pageOf_div]; exact fun e => hf ((h.find _).1 e)), if_neg (fun e => hf e.1)]
theorem Sim.watch {s : MS} {l : List P5} (h : Sim s l) (a : Nat) (b : Bool) : Sim (s.watchAt a b) (setW5 l (a / 256 * 256) b) := by
  unfold setW5 MS.watchAt
  by_cases hf : find5 l (a / 256 * 256) < l.length
  · rw [if_pos hf, if_pos (by rw [pageOf_div]; exact (h.find _).2 hf)]
    obtain ⟨a1, a2, a3⟩ := h.at hf
    refine h.set hf (find5_at hf) rfl (by simpa [MS.watch] using a1) (by simpa [MS.watch] using a2) (by simp [MS.watch, upd, pageOf_div]) fun k hk => ?_
    rw [pageOf_div]
    simp [MS.watch, upd, hk]
  · rw [if_neg hf, if_neg (by rw [pageOf_div]; exact fun e => hf ((h.find _).1 e))]
    exact h
theorem Sim.map {s : MS} {l l' : List P5} (h : Sim s l) (a : Nat) (z : Int) (b most : Nat) (hm : s.most = most) (hp : ∀ k ∈ s.ks, 0 ≤ s.pm k ∧ s.pm k < 8) (hM : Mapped5 l l' (a / 256 * 256) (z % 8) most) : Sim (s.mapped a z b) l' ∧ s.mapErr a = mapErr5 l (a / 256 * 256) most := by
  have hfi := h.find (a / 256 * 256)
  have herr : s.mapErr a = mapErr5 l (a / 256 * 256) most := by
    unfold MS.mapErr mapErr5
    rw [pageOf_div, hm, h.len]
    by_cases c : find5 l (a / 256 * 256) < l.length ∨ l.length < most
    · rw [if_pos c, if_pos (c.imp hfi.2 id)]
    · rw [if_neg c, if_neg (fun e => c (e.imp hfi.1 id))]
  refine ⟨?_, herr⟩
  unfold MS.mapped
  rw [pageOf_div, hm, h.len]
  rcases hM with ⟨hf, rfl⟩ | ⟨hf, hr, i, hi, rfl, h1, h2⟩ | ⟨hf, hr, rfl⟩
  · rw [if_pos (hfi.2 hf)]
    obtain ⟨a1, a2, a3⟩ := h.at hf
    have hb := hp _ (hfi.2 hf)
    refine h.set hf (find5_at hf) rfl a1 ?_ a3 fun k hk => by simp [MS.also, upd, hk]
    rw [a2, orP_small _ _ hb.1 hb.2]
    simp [MS.also, upd]
  · rw [if_neg (fun e => hf (hfi.1 e)), if_pos hr]
    exact h.ins hf hi rfl h1 h2 rfl (by simp [page5, MS.lay, upd]) (by simp [page5, MS.lay, upd]) (by simp [page5, MS.lay, upd]) fun k hk => by simp [MS.lay, upd, hk]
  · rw [if_neg (fun e => hf (hfi.1 e)), if_neg hr]
    exact h
theorem Sim.copy {s t : MS} {l : List P5} (h : Sim s l) (hc : CopyOf s t) : Sim t l := by
  refine ⟨h.rise, fun j hj => ?_, fun k hk => h.back k ((hc.ks k).1 hk), by rw [hc.len]; exact h.len⟩
  have g := h.here j hj
  have hk := (hc.ks _).2 g.1
  obtain ⟨d1, d2, d3⟩ := hc.data _ hk
  rw [d1, d2, d3]
  exact ⟨hk, g.2⟩
theorem Sim.none (s : MS) (h : s.ks = []) : Sim s [] := ⟨fun _ _ _ hj => by simp at hj, fun _ hj => by simp at hj, fun k hk => by rw [h] at hk; simp at hk, by rw [h]; rfl⟩
end Go.Proofs.Ytkpcajmphhdmiaa
namespace Go.Proofs.Ytkpcajmphhdmiaa
open Go.ChangeShapes Go.WideShapes Go.ChangeAt Go.RowKit
set_option linter.unusedVariables false
/-- Behind the bytes L of s stands s'. -/
def PokesTo : MS → List (Nat × UInt8) → MS → Prop
  | s, [], s' => s' = s
  | s, x :: L, s' => ∃ tv, PokesTo (s.pokeAt x.1 x.2 tv) L s'
theorem PokesTo.snoc : ∀ {L : List (Nat × UInt8)} {s s' : MS}, PokesTo s L s' → ∀ (x : Nat × UInt8) (tv : Value), PokesTo s (L ++ [x]) (s'.pokeAt x.1 x.2 tv)
  | [], s, s', h, x, tv => by
    have e : s' = s := h
    subst e
    exact ⟨tv, rfl⟩
  | y :: L, s, s', ⟨tv0, h⟩, x, tv => ⟨tv0, PokesTo.snoc h x tv⟩
theorem PokesTo.mb : ∀ {L : List (Nat × UInt8)} {s s' : MS}, PokesTo s L s' → s'.mb = s.mb
  | [], s, s', h => by rw [show s' = s from h]
  | x :: L, s, s', ⟨tv, h⟩ => (PokesTo.mb h).trans (pokeAt_mb s x.1 x.2 tv)
theorem PokesTo.ks : ∀ {L : List (Nat × UInt8)} {s s' : MS}, PokesTo s L s' → s'.ks = s.ks
  | [], s, s', h => by rw [show s' = s from h]
  | x :: L, s, s', ⟨tv, h⟩ => (PokesTo.ks h).trans (pokeAt_ks s x.1 x.2 tv)
theorem PokesTo.pm : ∀ {L : List (Nat × UInt8)} {s s' : MS}, PokesTo s L s' → s'.pm = s.pm
  | [], s, s', h => by rw [show s' = s from h]
  | x :: L, s, s', ⟨tv, h⟩ => (PokesTo.pm h).trans (pokeAt_pm s x.1 x.2 tv)
theorem PokesTo.on : ∀ {L : List (Nat × UInt8)} {s s' : MS}, PokesTo s L s' → s'.on = s.on
  | [], s, s', h => by rw [show s' = s from h]
  | x :: L, s, s', ⟨tv, h⟩ => (PokesTo.on h).trans (pokeAt_on s x.1 x.2 tv)
theorem PokesTo.most : ∀ {L : List (Nat × UInt8)} {s s' : MS}, PokesTo s L s' → s'.most = s.most
  | [], s, s', h => by rw [show s' = s from h]
  | x :: L, s, s', ⟨tv, h⟩ => (PokesTo.most h).trans (pokeAt_most s x.1 x.2 tv)
theorem PokesTo.c : ∀ {L : List (Nat × UInt8)} {s s' : MS}, PokesTo s L s' → s'.c ≤ s.c + L.length
  | [], s, s', h => by rw [show s' = s from h]; simp
  | x :: L, s, s', ⟨tv, h⟩ => by
    have h1 := PokesTo.c h
    have h2 := pokeAt_c s x.1 x.2 tv
    rw [List.length_cons]
    omega
/-- The plain pages behind bytes. -/
def pokesA : List (Nat × UInt8) → AM → AM
  | [], f => f
  | x :: L, f => pokesA L (apoke f x.1 x.2)
theorem PokesTo.abs : ∀ {L : List (Nat × UInt8)} {s s' : MS}, PokesTo s L s' → s'.abs = pokesA L s.abs
  | [], s, s', h => by rw [show s' = s from h]; rfl
  | x :: L, s, s', ⟨tv, h⟩ => by
    rw [PokesTo.abs h, abs_pokeAt]
    rfl
/-- The own memory behind bytes: its pages, and what was touched. -/
def pokes5 : List (Nat × UInt8) → List P5 → List P5
  | [], l => l
  | x :: L, l => pokes5 L (poke5 l x.1 x.2)
def touches5 : List (Nat × UInt8) → List P5 → List Nat → List Nat
  | [], _, ts => ts
  | x :: L, l, ts => touches5 L (poke5 l x.1 x.2) (touch5 l ts x.1)
theorem pokes5_snoc (x : Nat × UInt8) : ∀ (L : List (Nat × UInt8)) (l : List P5), pokes5 (L ++ [x]) l = poke5 (pokes5 L l) x.1 x.2
  | [], _ => rfl
  | y :: L, l => pokes5_snoc x L _
theorem touches5_snoc (x : Nat × UInt8) : ∀ (L : List (Nat × UInt8)) (l : List P5) (ts : List Nat), touches5 (L ++ [x]) l ts = touch5 (pokes5 L l) (touches5 L l ts) x.1
  | [], _, _ => rfl
  | y :: L, l, ts => touches5_snoc x L _ _
theorem PokesTo.sim : ∀ {L : List (Nat × UInt8)} {s s' : MS} {l : List P5}, PokesTo s L s' → Sim s l → Sim s' (pokes5 L l) ∧ s'.ts = touches5 L l s.ts
  | [], s, s', l, h, hs => by
    rw [show s' = s from h]
    exact ⟨hs, rfl⟩
  | x :: L, s, s', l, ⟨tv, h⟩, hs => by
    obtain ⟨h1, h2⟩ := PokesTo.sim h (hs.poke x.1 x.2 tv)
    refine ⟨h1, h2.trans ?_⟩
    rw [hs.touch x.1 x.2 tv]
    rfl
/-- Bytes from a place on. -/
def placesL (a : Nat) (bl : List UInt8) : List (Nat × UInt8) := (List.range bl.length).map fun j => (wrapAt a j, bl.getD j 0)
theorem placesL_len (a : Nat) (bl : List UInt8) : (placesL a bl).length = bl.length := by simp [placesL]
theorem placesL_take (a : Nat) (bl : List UInt8) (k : Nat) (hk : k < bl.length) : (placesL a bl).take (k + 1) = (placesL a bl).take k ++ [(wrapAt a k, bl.getD k 0)] := by
  rw [List.take_add_one]
  congr 1
  simp [placesL, hk]
theorem placesL_all (a : Nat) (bl : List UInt8) : (placesL a bl).take bl.length = placesL a bl := by
  rw [← placesL_len a bl, List.take_length]
end Go.Proofs.Ytkpcajmphhdmiaa
namespace Go.Proofs.Ytkpcajmphhdmiaa
open Go.ChangeShapes Go.WideShapes Go.ChangeAt Go.RowKit
set_option linter.unusedVariables false
/-- An instruction's value. -/
abbrev insC (op S T D A imm : Int) : Array Value := #[.int .i64 op, .int .i64 S, .int .i64 T, .int .i64 D, .int .i64 A, .int .u32 imm]
/-- Whether a place may not be, by its number. -/
def astrayB (op : Int) (a : Nat) : Bool := if op = 51 ∨ op = 58 then decide (a % 4 ≠ 0) else if op = 49 ∨ op = 53 ∨ op = 56 then decide (a % 2 ≠ 0) else false
theorem bne_t {x : Int} (h : (x == 0) = false) : (x != 0) = true := by unfold bne; rw [h]; rfl
theorem bne_f {x : Int} (h : (x == 0) = true) : (x != 0) = false := by unfold bne; rw [h]; rfl
set_option maxRecDepth 20000 in
theorem astray_w (op : Int) (h : op = 51 ∨ op = 58) (a : Nat) (ha : a < 4294967296) (w : World) : Calls Try.prog 61 #[.int .i64 op, .int .u32 (a : Int)] w fun e w' => e = .returned (.bool (decide (a % 4 ≠ 0))) ∧ w' = w := by
  by_cases h1 : a / 2 % 2 ≠ 0
  · rw [decide_eq_true (show a % 4 ≠ 0 by omega)]
    have f1 : ((a : Int) / 2 % 2 == 0) = false := beq_eq_false_iff_ne.2 (by omega)
    rcases h with rfl | rfl
    · go_enter Try.func61, Try.ntmps61
      go_wp2
      go_ret
      exact ⟨rfl, rfl⟩
    · go_enter Try.func61, Try.ntmps61
      go_wp2
      go_ret
      exact ⟨rfl, rfl⟩
  · have f1 : ((a : Int) / 2 % 2 == 0) = true := beq_iff_eq.2 (by omega)
    by_cases h2 : a % 2 ≠ 0
    · rw [decide_eq_true (show a % 4 ≠ 0 by omega)]
      have f2 : ((a : Int) % 2 == 0) = false := beq_eq_false_iff_ne.2 (by omega)
      rcases h with rfl | rfl
      · go_enter Try.func61, Try.ntmps61
        go_wp2
        go_ret
        exact ⟨ret_bool (bne_t f2), rfl⟩
      · go_enter Try.func61, Try.ntmps61
        go_wp2
        go_ret
        exact ⟨ret_bool (bne_t f2), rfl⟩
    · rw [decide_eq_false (show ¬ a % 4 ≠ 0 by omega)]
      have f2 : ((a : Int) % 2 == 0) = true := beq_iff_eq.2 (by omega)
      rcases h with rfl | rfl
      · go_enter Try.func61, Try.ntmps61
        go_wp2
        go_ret
        exact ⟨ret_bool (bne_f f2), rfl⟩
      · go_enter Try.func61, Try.ntmps61
        go_wp2
        go_ret
        exact ⟨ret_bool (bne_f f2), rfl⟩
set_option maxRecDepth 20000 in
theorem astray_h (op : Int) (h : op = 49 ∨ op = 53 ∨ op = 56) (a : Nat) (ha : a < 4294967296) (w : World) : Calls Try.prog 61 #[.int .i64 op, .int .u32 (a : Int)] w fun e w' => e = .returned (.bool (decide (a % 2 ≠ 0))) ∧ w' = w := by
  by_cases h2 : a % 2 ≠ 0
  · rw [decide_eq_true h2]
    have f2 : ((a : Int) % 2 == 0) = false := beq_eq_false_iff_ne.2 (by omega)
    rcases h with rfl | rfl | rfl
    · go_enter Try.func61, Try.ntmps61
      go_wp2
      go_ret
      exact ⟨ret_bool (bne_t f2), rfl⟩
    · go_enter Try.func61, Try.ntmps61
      go_wp2
      go_ret
      exact ⟨ret_bool (bne_t f2), rfl⟩
    · go_enter Try.func61, Try.ntmps61
      go_wp2
      go_ret
      exact ⟨ret_bool (bne_t f2), rfl⟩
  · rw [decide_eq_false h2]
    have f2 : ((a : Int) % 2 == 0) = true := beq_iff_eq.2 (by omega)
    rcases h with rfl | rfl | rfl
    · go_enter Try.func61, Try.ntmps61
      go_wp2
      go_ret
      exact ⟨ret_bool (bne_f f2), rfl⟩
    · go_enter Try.func61, Try.ntmps61
      go_wp2
      go_ret
      exact ⟨ret_bool (bne_f f2), rfl⟩
    · go_enter Try.func61, Try.ntmps61
      go_wp2
      go_ret
      exact ⟨ret_bool (bne_f f2), rfl⟩
set_option maxRecDepth 20000 in
theorem astray_o (op : Int) (h1 : (op == 51) = false) (h2 : (op == 58) = false) (h3 : (op == 49) = false) (h4 : (op == 53) = false) (h5 : (op == 56) = false) (a : Nat) (w : World) : Calls Try.prog 61 #[.int .i64 op, .int .u32 (a : Int)] w fun e w' => e = .returned (.bool false) ∧ w' = w := by
  go_enter Try.func61, Try.ntmps61
  go_wp2
  go_ret
  exact ⟨rfl, rfl⟩
theorem astray_any (op : Int) (a : Nat) (ha : a < 4294967296) (w : World) : Calls Try.prog 61 #[.int .i64 op, .int .u32 (a : Int)] w fun e w' => e = .returned (.bool (astrayB op a)) ∧ w' = w := by
  unfold astrayB
  by_cases h1 : op = 51 ∨ op = 58
  · rw [if_pos h1]
    exact astray_w op h1 a ha w
  · rw [if_neg h1]
    by_cases h2 : op = 49 ∨ op = 53 ∨ op = 56
    · rw [if_pos h2]
      exact astray_h op h2 a ha w
    · rw [if_neg h2]
      exact astray_o op (beq_eq_false_iff_ne.2 (by omega)) (beq_eq_false_iff_ne.2 (by omega)) (beq_eq_false_iff_ne.2 (by omega)) (beq_eq_false_iff_ne.2 (by omega)) (beq_eq_false_iff_ne.2 (by omega)) a w
/-- What a need says of a place. -/
def faultV (s : MS) (pm al pg : Int) (op : Int) (a : Nat) : Int := if astrayB op a = true then al else if bits .and .i64 (s.perm a) pm = 0 then pg else 0
theorem MemW.alloc {w : World} {s : MS} (h : MemW w s) (o : Obj) : MemW (w.alloc o) s := h.later (below_new w o)
set_option maxRecDepth 20000 in
theorem fault_any (w : World) (s : MS) (h : MemW w s) (pm al pg : Int) (op : Int) (a : Nat) (ha : a < 4294967296) : Calls Try.prog 35 #[.agg #[.int .i64 pm, .int .i64 al, .int .i64 pg], .pointer (some ⟨s.mb, 0, none⟩), .int .i64 op, .int .u32 (a : Int)] w fun e w' => e = .returned (.int .i64 (faultV s pm al pg op a)) ∧ Below w.heap.size w w' := by
  have HA := hidden (fun u => astray_any op a ha u)
  have hB := hidden (below_new w (.cells #[.int .i64 pm, .int .i64 al, .int .i64 pg] 65))
  have HM := hidden (h.alloc (.cells #[.int .i64 pm, .int .i64 al, .int .i64 pg] 65))
  unfold faultV
  clear h
  cases hs : astrayB op a with
  | true =>
    rw [hs] at HA
    rw [if_pos rfl]
    clear hs
    go_enter Try.func35, Try.ntmps35
    go_wp2_with (go_at_call 61; refine (HA.out _).mono ?_; rintro e w1 ⟨rfl, hww⟩; rw [hww]; clear hww w1)
    go_ret
    exact ⟨rfl, hB.out⟩
  | false =>
    rw [hs] at HA
    rw [if_neg (by decide)]
    clear hs
    have HP := hidden (fun m => permOf_any _ s a (HM.out.drewN m) ha)
    generalize s.perm a = p at HP ⊢
    by_cases hz : bits .and .i64 p pm = 0
    · have f1 : (bits .and .i64 p pm == 0) = true := beq_iff_eq.2 hz
      rw [if_pos hz]
      clear hz
      go_enter Try.func35, Try.ntmps35
      go_wp2_with (go_at_call 61; refine (HA.out _).mono ?_; rintro e w1 ⟨rfl, hww⟩; rw [hww]; clear hww w1)
      go_quiet ((go_at_call 37; exact Calls.quiet_of (HP.out _)))
      go_wp2
      go_ret
      exact ⟨rfl, below_drewN hB.out _⟩
    · have f1 : (bits .and .i64 p pm == 0) = false := beq_eq_false_iff_ne.2 hz
      rw [if_neg hz]
      clear hz
      go_enter Try.func35, Try.ntmps35
      go_wp2_with (go_at_call 61; refine (HA.out _).mono ?_; rintro e w1 ⟨rfl, hww⟩; rw [hww]; clear hww w1)
      go_quiet ((go_at_call 37; exact Calls.quiet_of (HP.out _)))
      go_wp2
      go_ret
      exact ⟨rfl, below_drewN hB.out _⟩
/-- The fault's kind of an instruction at a place. -/
def faultK (s : MS) (op : Int) (a : Nat) : Int := if kindP op = 4 then faultV s 4 2 5 op a else if kindP op = 5 then faultV s 2 3 6 op a else 0
set_option maxRecDepth 20000 in
theorem accKind_any (w : World) (s : MS) (h : MemW w s) (op S T D A imm : Int) (a : Nat) (ha : a < 4294967296) : Calls Try.prog 11 #[.pointer (some ⟨s.mb, 0, none⟩), .agg (insC op S T D A imm), .int .u32 (a : Int)] w fun e w' => e = .returned (.int .i64 (faultK s op a)) ∧ Below w.heap.size w w' := by
  have HK := hidden (fun u => insKind_any op u)
  have hB := hidden (below_new w (.cells (insC op S T D A imm) 31))
  have hI := Blk.new w (insC op S T D A imm) 31
  have HI := hidden hI
  have HM := hidden (h.alloc (.cells (insC op S T D A imm) 31))
  have HF := hidden (fun (u : World) (hm : MemW u s) (pm al pg : Int) => fault_any u s hm pm al pg op a ha)
  unfold faultK
  clear h hI
  obtain ⟨kd, hkd⟩ : ∃ kd, kindP op = kd := ⟨_, rfl⟩
  rw [hkd] at HK ⊢
  clear hkd
  by_cases h4 : kd = 4
  · rw [if_pos h4]
    subst h4
    go_enter Try.func11, Try.ntmps11
    go_wp2_with (first | (go_at_call 34; refine (HK.out _).mono ?_; rintro e w1 ⟨rfl, hb1⟩; have c1 : w1.cell? ⟨w.heap.size, 0, none⟩ = some (.int .i64 op) := (HI.out.later hb1).cell rfl; have HM1 := hidden (HM.out.later hb1); have HB1 := hidden (hB.out.trans (hb1.mono hB.out.size)); clear hb1) | (go_at_call 35; refine (HF.out _ HM1.out 4 2 5).mono ?_; rintro e w2 ⟨rfl, hb2⟩; have HB2 := hidden hb2; clear hb2))
    go_ret
    exact ⟨rfl, HB1.out.trans (HB2.out.mono HB1.out.size)⟩
  · rw [if_neg h4]
    have g4 : (kd == 4) = false := beq_eq_false_iff_ne.2 h4
    by_cases h5 : kd = 5
    · rw [if_pos h5]
      subst h5
      clear h4 g4
      go_enter Try.func11, Try.ntmps11
      go_wp2_with (first | (go_at_call 34; refine (HK.out _).mono ?_; rintro e w1 ⟨rfl, hb1⟩; have c1 : w1.cell? ⟨w.heap.size, 0, none⟩ = some (.int .i64 op) := (HI.out.later hb1).cell rfl; have HM1 := hidden (HM.out.later hb1); have HB1 := hidden (hB.out.trans (hb1.mono hB.out.size)); clear hb1) | (go_at_call 35; refine (HF.out _ HM1.out 2 3 6).mono ?_; rintro e w2 ⟨rfl, hb2⟩; have HB2 := hidden hb2; clear hb2))
      go_ret
      exact ⟨rfl, HB1.out.trans (HB2.out.mono HB1.out.size)⟩
    · rw [if_neg h5]
      have g5 : (kd == 5) = false := beq_eq_false_iff_ne.2 h5
      clear h4 h5
      go_enter Try.func11, Try.ntmps11
      go_wp2_with (go_at_call 34; refine (HK.out _).mono ?_; rintro e w1 ⟨rfl, hb1⟩; have HB1 := hidden (hB.out.trans (hb1.mono hB.out.size)); clear hb1)
      go_ret
      exact ⟨rfl, HB1.out⟩
/-- An instruction's word: its number, its fault's kind. -/
def fetchV (s : MS) (a : Nat) : Int × Int := if a % 4 ≠ 0 then (0, 1) else if bits .and .i64 (s.perm a) 1 = 0 then (0, 4) else ((preW s a 4 : Nat), 0)
set_option maxRecDepth 20000 in
theorem accFetch_any (w : World) (s : MS) (h : MemW w s) (a : Nat) (ha : a < 4294967296) : Calls Try.prog 13 #[.pointer (some ⟨s.mb, 0, none⟩), .int .u32 (a : Int)] w fun e w' => e = .returned (.tuple #[.int .u32 (fetchV s a).1, .int .i64 (fetchV s a).2]) ∧ ∃ n, w' = w.drewN n := by
  have HP := hidden (permOf_any w s a h ha)
  have HW := hidden (fun m => word_any (w.drewN m) s a (h.drewN m) ha)
  clear h
  by_cases h4 : a % 4 ≠ 0
  · have f1 : ((a : Int) % 4 == 0) = false := beq_eq_false_iff_ne.2 (by omega)
    rw [show fetchV s a = (0, 1) from if_pos h4]
    go_enter Try.func13, Try.ntmps13
    go_wp2
    go_ret2
    exact ⟨rfl, 0, rfl⟩
  · have f1 : ((a : Int) % 4 == 0) = true := beq_iff_eq.2 (by omega)
    unfold fetchV
    rw [if_neg h4]
    generalize s.perm a = p at HP ⊢
    by_cases hz : bits .and .i64 p 1 = 0
    · have f2 : (bits .and .i64 p 1 == 0) = true := beq_iff_eq.2 hz
      rw [if_pos hz]
      clear hz
      go_enter Try.func13, Try.ntmps13
      go_wp2_with (go_at_call 37; refine HP.out.mono ?_; rintro e w1 ⟨rfl, n, hww⟩; rw [hww]; clear hww w1)
      go_ret2
      exact ⟨rfl, n, rfl⟩
    · have f2 : (bits .and .i64 p 1 == 0) = false := beq_eq_false_iff_ne.2 hz
      rw [if_neg hz]
      clear hz
      go_enter Try.func13, Try.ntmps13
      go_wp2_with (first | (go_at_call 37; refine HP.out.mono ?_; rintro e w1 ⟨rfl, n, hww⟩; rw [hww]; clear hww w1) | (go_at_call 23; refine (HW.out _).mono ?_; rintro e w2 ⟨rfl, n2, hww2⟩; rw [hww2]; clear hww2 w2))
      go_ret2
      exact ⟨rfl, n + n2, rfl⟩
end Go.Proofs.Ytkpcajmphhdmiaa

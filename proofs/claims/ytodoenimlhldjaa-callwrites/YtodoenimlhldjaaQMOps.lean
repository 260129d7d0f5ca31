/- Chapter 5's own memory: the calls over the object. -/
import Derived.Test.YtodoenimlhldjaaQSim
import Derived.Test.YtodoenimlhldjaaQMAJ
namespace Go.Proofs.Ytodoenimlhldjaa
open Go.ChangeShapes Go.WideShapes Go.ChangeAt Go.RowKit
set_option linter.unusedVariables false
theorem M5.findC {w : World} {s : S5} (h : M5 w s) (a : Nat) (ha : a < 4294967296) : Calls Try.prog 61 #[.pointer (some ⟨s.m, 0, none⟩), .int .u32 (a : Int)] w fun e w' => e = .returned (.int .i64 (find5I s.l (a / 256 * 256))) ∧ w' = w := by
  obtain ⟨ao, cap, hv, hps⟩ := h.ps
  exact find_any w s.m ao cap a s.l hps (by rw [h.cellP, hv]) h.few ha
theorem M5.permC {w : World} {s : S5} (h : M5 w s) (a : Nat) (ha : a < 4294967296) : Calls Try.prog 47 #[.pointer (some ⟨s.m, 0, none⟩), .int .u32 (a : Int)] w fun e w' => e = .returned (.int .i64 (perm5 s.l (a / 256 * 256))) ∧ w' = w := by
  obtain ⟨ao, cap, hv, hps⟩ := h.ps
  exact perm5_any w s.m ao cap a s.l hps (by rw [h.cellP, hv]) h.few ha
theorem M5.peekC {w : World} {s : S5} (h : M5 w s) (a : Nat) (ha : a < 4294967296) : Calls Try.prog 69 #[.pointer (some ⟨s.m, 0, none⟩), .int .u32 (a : Int)] w fun e w' => e = .returned (.int .u8 ((peek5 s.l a).toNat : Int)) ∧ w' = w := by
  obtain ⟨ao, cap, hv, hps⟩ := h.ps
  exact peek5_any w s.m ao cap a s.l hps (by rw [h.cellP, hv]) h.few ha
theorem M5.bytesC {w : World} {s : S5} (h : M5 w s) (a c : Nat) (ha : a < 4294967296) (hc : c ≤ 16384) : Calls Try.prog 48 #[.pointer (some ⟨s.m, 0, none⟩), .int .u32 (a : Int), .int .i64 (c : Int)] w fun e w' => ∃ v, e = .returned v ∧ w'.ownsRow w.heap.size 5 1 v (bytes5 s.l a c).length (cellsU (bytes5 s.l a c)) ∧ Below w.heap.size w w' := by
  obtain ⟨ao, cap, hv, hps⟩ := h.ps
  exact bytes5_any w s.m ao cap a c s.l hps h.lt (by rw [h.cellP, hv]) h.few ha hc
theorem M5.pagesC {w : World} {s : S5} (h : M5 w s) : Calls Try.prog 46 #[.pointer (some ⟨s.m, 0, none⟩)] w fun e w' => ∃ v, e = .returned v ∧ w'.ownsRow w.heap.size 23 1 v (s.l.map P5.at_).length (words (s.l.map P5.at_)) ∧ Below w.heap.size w w' := by
  obtain ⟨ao, cap, hv, hps⟩ := h.ps
  exact pages5_any w s.m ao cap s.l hps h.lt (by rw [h.cellP, hv]) h.few
def setW5 (l : List P5) (p : Nat) (b : Bool) : List P5 := if find5 l p < l.length then l.set (find5 l p) { l.getD (find5 l p) nop5 with watched := b } else l
theorem one5_setW {q : P5} (h : Fit5 q) (b : Bool) : one5 { q with watched := b } = (one5 q).set 258 (.bool b) := by
  have e : ∀ x : P5, one5 x = ([.int .u32 (x.at_ : Int), .int .i64 x.perm] ++ cellsU x.b) ++ [.bool x.watched] := fun x => by simp [one5]
  rw [e, e, List.set_append_right _ _ (by simp [cellsU, h.lb])]
  simp [cellsU, h.lb]
theorem one5_setP {q : P5} (z : Int) : one5 { q with perm := z } = (one5 q).set 1 (.int .i64 z) := rfl
set_option maxRecDepth 20000 in
set_option maxHeartbeats 2000000 in
theorem watch5_there (w : World) (m g off cap n k a : Nat) (ob b : Bool) (hC : Calls Try.prog 61 #[.pointer (some ⟨m, 0, none⟩), .int .u32 (a : Int)] w fun e w' => e = .returned (.int .i64 (k : Int)) ∧ w' = w) (hP : w.cell? ⟨m, 1, none⟩ = some (.slice (some ⟨g, off, none⟩) n cap)) (hB : w.cell? ⟨g, off + k * 259 + 258, none⟩ = some (.bool ob)) (hz : w.frozen? ⟨g, off + k * 259 + 258, none⟩ = false) (hne : ¬ m = g) (hkn : k < n) :
    Calls Try.prog 33 #[.pointer (some ⟨m, 0, none⟩), .int .u32 (a : Int), .bool b] w fun e w' => e = .returned (.tuple #[]) ∧ w' = w.setCell ⟨g, off + k * 259 + 258, none⟩ (.bool b) := by
  have C := hidden hC
  clear hC
  have hne' : ¬ g = m := fun e => hne e.symm
  have hk0 : (0 : Int) ≤ (k : Int) := by omega
  go_enter Try.func33, Try.ntmps33
  go_wp2_with ((go_at_call 61; with_reducible refine (Hid.out C).mono ?_; rintro e w4 ⟨rfl, hww⟩; rw [hww]; clear hww w4))
  go_end0
  exact ⟨rfl, rfl⟩
set_option maxRecDepth 20000 in
theorem M5.watchC {w : World} {s : S5} (h : M5 w s) (a : Nat) (b : Bool) (ha : a < 4294967296) : Calls Try.prog 33 #[.pointer (some ⟨s.m, 0, none⟩), .int .u32 (a : Int), .bool b] w fun e w' => e = .returned (.tuple #[]) ∧ ∃ s', Step5 w s w' s' ∧ s'.m = s.m ∧ s'.most = s.most ∧ s'.ts = s.ts ∧ s'.l = setW5 s.l (a / 256 * 256) b := by
  have hC := h.findC a ha
  unfold setW5
  obtain ⟨p, hp⟩ : ∃ p, a / 256 * 256 = p := ⟨_, rfl⟩
  rw [hp] at hC ⊢
  by_cases hf : find5 s.l p < s.l.length
  · rw [find5I_yes hf] at hC
    rw [if_pos hf]
    obtain ⟨k, hk⟩ : ∃ k, find5 s.l p = k := ⟨_, rfl⟩
    rw [hk] at hC hf ⊢
    obtain ⟨g, off, cap, h0, hv, hlt, hth, ⟨cur, hbg⟩, hc⟩ := h.row hf
    have hfit := h.fitAt hf
    refine (watch5_there w s.m g off cap s.l.length k a _ b hC (by rw [h.cellP, hv]) (hc k 258 _ hf (by omega) (one5_watch hfit)) (hth _) (blk_ne h.self hbg (by decide)) hf).mono ?_
    rintro e w' ⟨he, rfl⟩
    exact ⟨he, _, h.set hf (by omega) (one5_setW hfit b) ⟨hfit.lb, hfit.la⟩ hv h0, rfl, rfl, rfl, rfl⟩
  · rw [find5I_no hf] at hC
    rw [if_neg hf]
    have C := hidden hC
    have H := hidden h
    clear hC h hf hp
    go_enter Try.func33, Try.ntmps33
    go_wp2_with ((go_at_call 61; with_reducible refine (Hid.out C).mono ?_; rintro e w4 ⟨rfl, hww⟩; rw [hww]; clear hww w4))
    go_end0
    exact ⟨rfl, s, Step5.refl (Hid.out H), rfl, rfl, rfl, rfl⟩
set_option maxRecDepth 20000 in
theorem M5.takeC {w : World} {s : S5} (h : M5 w s) : Calls Try.prog 20 #[.pointer (some ⟨s.m, 0, none⟩)] w fun e w' => e = .returned s.vT ∧ Step5 w s w' { s with ts := [], vT := .slice none 0 0 } ∧ w'.ownsRow 0 23 1 s.vT s.ts.length (words s.ts) := by
  have h2 : w.cell? ⟨s.m, 2, none⟩ = some s.vT := h.self.cell rfl
  have hz : w.frozen? ⟨s.m, 2, none⟩ = false := frozen_of_row _ _ _ _ _ h.self
  have hlt := h.lt
  have out : ∀ t, t ≠ s.m → (w.setCell ⟨s.m, 2, none⟩ (.slice none 0 0)).heap[t]? = w.heap[t]? := fun t ht => Below.heap_setCell _ _ _ _ ht
  have hmP : ∀ t, s.vP.ownBlock = some t → t ≠ s.m := fun t ht => by
    obtain ⟨c, hb⟩ := h.blkP ht
    exact blk_ne hb h.self (by decide)
  have hmT : ∀ t, s.vT.ownBlock = some t → t ≠ s.m := fun t ht => by
    obtain ⟨c, hb⟩ := h.blkT ht
    exact blk_ne hb h.self (by decide)
  have HS : Hid (Step5 w s (w.setCell ⟨s.m, 2, none⟩ (.slice none 0 0)) { s with ts := [], vT := .slice none 0 0 } ∧ (w.setCell ⟨s.m, 2, none⟩ (.slice none 0 0)).ownsRow 0 23 1 s.vT s.ts.length (words s.ts)) := by
    refine ⟨⟨⟨?_, ownsRow_same h.pages fun t ht => out t (hmP t ht), World.ownsRow_nil _ _ _ _, h.fit, h.few⟩, (keep_set w _ _).mono fun b _ hb => .inl hb, ?_⟩, ownsRow_same h.touched fun t ht => out t (hmT t ht)⟩
    · show (w.setCell ⟨s.m, 2, none⟩ (.slice none 0 0)).heap[s.m]? = _
      rw [Lib.heap_setCell_same h.self]
      rfl
    · rintro b (hb | hb | hb)
      · exact .inl (.inl hb)
      · exact .inl (.inr (.inl hb))
      · simp [Value.ownBlock] at hb
  obtain ⟨vT, hvT⟩ : ∃ vT, s.vT = vT := ⟨_, rfl⟩
  rw [hvT] at h2 HS ⊢
  clear h out hmP hmT hvT
  go_enter Try.func20, Try.ntmps20
  go_wp2
  go_ret
  exact ⟨rfl, (Hid.out HS).1, (Hid.out HS).2⟩
def word5 (l : List P5) (a : Nat) : Nat := (peek5 l a).toNat * 16777216 + (peek5 l ((a + 1) % 4294967296)).toNat * 65536 + (peek5 l ((a + 2) % 4294967296)).toNat * 256 + (peek5 l ((a + 3) % 4294967296)).toNat
theorem Sim.word {s : MS} {l : List P5} (h : Sim s l) (a : Nat) (ha : a < 4294967296) : word5 l a = preW s a 4 := by
  unfold word5
  rw [h.peek, h.peek, h.peek, h.peek]
  simp only [preW, wrapAt]
  rw [show (a + 0) % 4294967296 = a by omega]
  omega
theorem Sim.bytes {s : MS} {l : List P5} (h : Sim s l) (a n : Nat) : bytes5 l a n = s.span a n := by
  unfold bytes5 MS.span
  refine List.map_congr_left fun i _ => ?_
  rw [h.peek]
  rfl
/-- What Map makes of the pages. -/
def Mapped5 (l l' : List P5) (p : Nat) (q : Int) (most : Nat) : Prop :=
  (find5 l p < l.length ∧ l' = l.set (find5 l p) { l.getD (find5 l p) nop5 with perm := bits .or .i64 (l.getD (find5 l p) nop5).perm q }) ∨
  (¬ find5 l p < l.length ∧ l.length < most ∧ ∃ i, i ≤ l.length ∧ l' = l.take i ++ page5 p q :: l.drop i ∧ (∀ k, i = k + 1 → ¬ p < (l.getD k nop5).at_) ∧ ∀ j, i ≤ j → j < l.length → p < (l.getD j nop5).at_) ∨
  (¬ find5 l p < l.length ∧ ¬ l.length < most ∧ l' = l)
def mapErr5 (l : List P5) (p most : Nat) : Int := if find5 l p < l.length ∨ l.length < most then 0 else 2
theorem M5.mapC {w : World} {s : S5} (h : M5 w s) (a : Nat) (z : Int) (ha : a < 4294967296) (hlen : s.l.length < 1000) : Calls Try.prog 31 #[.pointer (some ⟨s.m, 0, none⟩), .int .u32 (a : Int), .int .i64 z] w fun e w' => e = .returned (.int .i64 (mapErr5 s.l (a / 256 * 256) s.most)) ∧ ∃ s', Step5 w s w' s' ∧ s'.m = s.m ∧ s'.most = s.most ∧ s'.ts = s.ts ∧ Mapped5 s.l s'.l (a / 256 * 256) (z % 8) s.most := by
  have e7 := and7 z
  have hC := h.findC a ha
  by_cases hf : find5 s.l (a / 256 * 256) < s.l.length
  · have he : mapErr5 s.l (a / 256 * 256) s.most = 0 := if_pos (.inl hf)
    rw [find5I_yes hf] at hC
    rw [he]
    obtain ⟨g, off, cap, h0, hv, hlt, hth, ⟨cur, hbg⟩, hc⟩ := h.row hf
    have hfit := h.fitAt hf
    refine (map5_there w s.m g off cap s.l.length _ a _ z hC (by rw [h.cellP, hv]) (hc _ 1 _ hf (by omega) rfl) (hth _) (blk_ne h.self hbg (by decide)) hf).mono ?_
    rintro e w' ⟨he, r, rfl⟩
    rw [e7]
    have hs := (h.drewN r).set hf (show 1 < 259 by omega) (one5_setP (bits .or .i64 (s.l.getD (find5 s.l (a / 256 * 256)) nop5).perm (z % 8))) ⟨hfit.lb, hfit.la⟩ hv h0
    exact ⟨he, _, ⟨hs.mem, (Keep.refl _ w).drewN r |>.trans hs.keep fun b _ hb => hb, hs.grow⟩, rfl, rfl, rfl, .inl ⟨hf, rfl⟩⟩
  · by_cases hr : s.l.length < s.most
    · have he : mapErr5 s.l (a / 256 * 256) s.most = 0 := if_pos (.inr hr)
      rw [he]
      refine (map5_new w s h a z ha hf hr hlen).mono ?_
      rintro e w' ⟨he, s', h1, h2, h3, h4, i, h5, h6, h7, h8⟩
      rw [e7] at h6
      exact ⟨he, s', h1, h2, h3, h4, .inr (.inl ⟨hf, hr, i, h5, h6, h7, h8⟩)⟩
    · have he : mapErr5 s.l (a / 256 * 256) s.most = 2 := if_neg (fun h => h.elim hf hr)
      rw [find5I_no hf] at hC
      rw [he]
      obtain ⟨ao, cap, hv, hps⟩ := h.ps
      refine (map5_full w s.m cap s.l.length s.most a ao z hC (by rw [h.cellP, hv]) (h.self.cell rfl) (by omega)).mono ?_
      rintro e w' ⟨he, r, rfl⟩
      exact ⟨he, s, ⟨h.drewN r, (Keep.refl _ w).drewN r, fun _ hb => .inl hb⟩, rfl, rfl, rfl, .inr (.inr ⟨hf, hr, rfl⟩)⟩
theorem pokeAt_fields (s : MS) (a : Nat) (v : UInt8) (tv : Value) (k : Nat) (h : k ≠ pageOf a) : (s.pokeAt a v tv).data k = s.data k ∧ (s.pokeAt a v tv).pm k = s.pm k ∧ (s.pokeAt a v tv).on k = s.on k := by
  unfold MS.pokeAt
  split
  · simp [MS.poke, upd, h]
  · exact ⟨rfl, rfl, rfl⟩
theorem Sim.poke {s : MS} {l : List P5} (h : Sim s l) (a : Nat) (v : UInt8) (tv : Value) : Sim (s.pokeAt a v tv) (poke5 l a v) := by
  unfold poke5
  by_cases hf : find5 l (a / 256 * 256) < l.length
  · rw [if_pos hf]
    have hk : pageOf a ∈ s.ks := by rw [pageOf_div]; exact (h.find _).2 hf
    have hs : s.pokeAt a v tv = s.poke a v tv := by unfold MS.pokeAt; rw [if_pos hk]
    obtain ⟨a1, a2, a3⟩ := h.at hf
    refine h.set hf (find5_at hf) (pokeAt_ks _ _ _ _) ?_ ?_ ?_ fun k hk => pokeAt_fields s a v tv k (by rw [pageOf_div]; exact hk)
    · rw [hs]
      show (l.getD (find5 l (a / 256 * 256)) nop5).b.set (a % 256) v = _
      rw [a1]
      simp [MS.poke, upd, pageOf_div]
    · rw [hs]
      simpa [put5, MS.poke] using a2
    · rw [hs]
      simpa [put5, MS.poke] using a3
  · rw [if_neg hf]
    have hk : pageOf a ∉ s.ks := by rw [pageOf_div]; exact fun e => hf ((h.find _).1 e)
    have hs : s.pokeAt a v tv = s := by unfold MS.pokeAt; rw [if_neg hk]
    rw [hs]
    exact h
theorem Sim.touch {s : MS} {l : List P5} (h : Sim s l) (a : Nat) (v : UInt8) (tv : Value) : (s.pokeAt a v tv).ts = touch5 l s.ts a := by
  unfold touch5 MS.pokeAt
  by_cases hf : find5 l (a / 256 * 256) < l.length
  · rw [if_pos (by rw [pageOf_div]; exact (h.find _).2 hf)]
    simp only [MS.poke, pageOf_div, ← (h.at hf).2.2]
    by_cases hw : (l.getD (find5 l (a / 256 * 256)) nop5).watched = true
    · rw [if_pos hw, if_pos ⟨hf, hw⟩]
    · rw [if_neg hw, if_neg (fun e => hw e.2)]
  · rw [if_neg (by rw [pageOf_div]; exact fun e => hf ((h.find _).1 e)), if_neg (fun e => hf e.1)]
theorem Sim.watch {s : MS} {l : List P5} (h : Sim s l) (a : Nat) (b : Bool) : Sim (s.watchAt a b) (setW5 l (a / 256 * 256) b) := by
  unfold setW5 MS.watchAt
  by_cases hf : find5 l (a / 256 * 256) < l.length
  · rw [if_pos hf, if_pos (by rw [pageOf_div]; exact (h.find _).2 hf)]
    obtain ⟨a1, a2, a3⟩ := h.at hf
    refine h.set hf (find5_at hf) rfl (by simpa [MS.watch] using a1) (by simpa [MS.watch] using a2) (by simp [MS.watch, upd, pageOf_div]) fun k hk => ?_
    rw [pageOf_div]
    simp [MS.watch, upd, hk]
  · rw [if_neg hf, if_neg (by rw [pageOf_div]; exact fun e => hf ((h.find _).1 e))]
    exact h
theorem Sim.map {s : MS} {l l' : List P5} (h : Sim s l) (a : Nat) (z : Int) (b most : Nat) (hm : s.most = most) (hp : ∀ k ∈ s.ks, 0 ≤ s.pm k ∧ s.pm k < 8) (hM : Mapped5 l l' (a / 256 * 256) (z % 8) most) : Sim (s.mapped a z b) l' ∧ s.mapErr a = mapErr5 l (a / 256 * 256) most := by
  have hfi := h.find (a / 256 * 256)
  have herr : s.mapErr a = mapErr5 l (a / 256 * 256) most := by
    unfold MS.mapErr mapErr5
    rw [pageOf_div, hm, h.len]
    by_cases c : find5 l (a / 256 * 256) < l.length ∨ l.length < most
    · rw [if_pos c, if_pos (c.imp hfi.2 id)]
    · rw [if_neg c, if_neg (fun e => c (e.imp hfi.1 id))]
  refine ⟨?_, herr⟩
  unfold MS.mapped
  rw [pageOf_div, hm, h.len]
  rcases hM with ⟨hf, rfl⟩ | ⟨hf, hr, i, hi, rfl, h1, h2⟩ | ⟨hf, hr, rfl⟩
  · rw [if_pos (hfi.2 hf)]
    obtain ⟨a1, a2, a3⟩ := h.at hf
    have hb := hp _ (hfi.2 hf)
    refine h.set hf (find5_at hf) rfl a1 ?_ a3 fun k hk => by simp [MS.also, upd, hk]
    rw [a2, orP_small _ _ hb.1 hb.2]
    simp [MS.also, upd]
  · rw [if_neg (fun e => hf (hfi.1 e)), if_pos hr]
    exact h.ins hf hi rfl h1 h2 rfl (by simp [page5, MS.lay, upd]) (by simp [page5, MS.lay, upd]) (by simp [page5, MS.lay, upd]) fun k hk => by simp [MS.lay, upd, hk]
  · rw [if_neg (fun e => hf (hfi.1 e)), if_neg hr]
    exact h
theorem Sim.copy {s t : MS} {l : List P5} (h : Sim s l) (hc : CopyOf s t) : Sim t l := by
  refine ⟨h.rise, fun j hj => ?_, fun k hk => h.back k ((hc.ks k).1 hk), by rw [hc.len]; exact h.len⟩
  have g := h.here j hj
  have hk := (hc.ks _).2 g.1
  obtain ⟨d1, d2, d3⟩ := hc.data _ hk
  rw [d1, d2, d3]
  exact ⟨hk, g.2⟩
theorem Sim.none (s : MS) (h : s.ks = []) : Sim s [] := ⟨fun _ _ _ hj => by simp at hj, fun _ hj => by simp at hj, fun k hk => by rw [h] at hk; simp at hk, by rw [h]; rfl⟩
end Go.Proofs.Ytodoenimlhldjaa

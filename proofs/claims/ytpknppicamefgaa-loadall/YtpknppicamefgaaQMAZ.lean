/- Chapter 5's own memory: the calls over the object. -/
import Derived.Test.YtpknppicamefgaaQMAY
import Derived.Test.YtpknppicamefgaaQMAX
namespace Go.Proofs.Ytpknppicamefgaa
open Go.ChangeShapes Go.WideShapes Go.ChangeAt Go.RowKit
set_option linter.unusedVariables false
theorem M5.findC {w : World} {s : S5} (h : M5 w s) (a : Nat) (ha : a < 4294967296) : Calls Try.prog 59 #[.pointer (some ⟨s.m, 0, none⟩), .int .u32 (a : Int)] w fun e w' => e = .returned (.int .i64 (find5I s.l (a / 256 * 256))) ∧ w' = w := by
  obtain ⟨ao, cap, hv, hps⟩ := h.ps
  exact find_any w s.m ao cap a s.l hps (by rw [h.cellP, hv]) h.few ha
theorem M5.permC {w : World} {s : S5} (h : M5 w s) (a : Nat) (ha : a < 4294967296) : Calls Try.prog 35 #[.pointer (some ⟨s.m, 0, none⟩), .int .u32 (a : Int)] w fun e w' => e = .returned (.int .i64 (perm5 s.l (a / 256 * 256))) ∧ w' = w := by
  obtain ⟨ao, cap, hv, hps⟩ := h.ps
  exact perm5_any w s.m ao cap a s.l hps (by rw [h.cellP, hv]) h.few ha
theorem M5.peekC {w : World} {s : S5} (h : M5 w s) (a : Nat) (ha : a < 4294967296) : Calls Try.prog 61 #[.pointer (some ⟨s.m, 0, none⟩), .int .u32 (a : Int)] w fun e w' => e = .returned (.int .u8 ((peek5 s.l a).toNat : Int)) ∧ w' = w := by
  obtain ⟨ao, cap, hv, hps⟩ := h.ps
  exact peek5_any w s.m ao cap a s.l hps (by rw [h.cellP, hv]) h.few ha
theorem M5.bytesC {w : World} {s : S5} (h : M5 w s) (a c : Nat) (ha : a < 4294967296) (hc : c ≤ 16384) : Calls Try.prog 37 #[.pointer (some ⟨s.m, 0, none⟩), .int .u32 (a : Int), .int .i64 (c : Int)] w fun e w' => ∃ v, e = .returned v ∧ w'.ownsRow w.heap.size 5 1 v (bytes5 s.l a c).length (cellsU (bytes5 s.l a c)) ∧ Below w.heap.size w w' := by
  obtain ⟨ao, cap, hv, hps⟩ := h.ps
  exact bytes5_any w s.m ao cap a c s.l hps h.lt (by rw [h.cellP, hv]) h.few ha hc
theorem M5.pagesC {w : World} {s : S5} (h : M5 w s) : Calls Try.prog 33 #[.pointer (some ⟨s.m, 0, none⟩)] w fun e w' => ∃ v, e = .returned v ∧ w'.ownsRow w.heap.size 22 1 v (s.l.map P5.at_).length (words (s.l.map P5.at_)) ∧ Below w.heap.size w w' := by
  obtain ⟨ao, cap, hv, hps⟩ := h.ps
  exact pages5_any w s.m ao cap s.l hps h.lt (by rw [h.cellP, hv]) h.few
def setW5 (l : List P5) (p : Nat) (b : Bool) : List P5 := if find5 l p < l.length then l.set (find5 l p) { l.getD (find5 l p) nop5 with watched := b } else l
theorem one5_setW {q : P5} (h : Fit5 q) (b : Bool) : one5 { q with watched := b } = (one5 q).set 258 (.bool b) := by
  have e : ∀ x : P5, one5 x = ([.int .u32 (x.at_ : Int), .int .i64 x.perm] ++ cellsU x.b) ++ [.bool x.watched] := fun x => by simp [one5]
  rw [e, e, List.set_append_right _ _ (by simp [cellsU, h.lb])]
  simp [cellsU, h.lb]
theorem one5_setP {q : P5} (z : Int) : one5 { q with perm := z } = (one5 q).set 1 (.int .i64 z) := rfl
def word5 (l : List P5) (a : Nat) : Nat := (peek5 l a).toNat * 16777216 + (peek5 l ((a + 1) % 4294967296)).toNat * 65536 + (peek5 l ((a + 2) % 4294967296)).toNat * 256 + (peek5 l ((a + 3) % 4294967296)).toNat
theorem Sim.word {s : MS} {l : List P5} (h : Sim s l) (a : Nat) (ha : a < 4294967296) : word5 l a = preW s a 4 := by
  unfold word5
  rw [h.peek, h.peek, h.peek, h.peek]
  simp only [preW, wrapAt]
  rw [show (a + 0) % 4294967296 = a by omega]
  omega
theorem Sim.bytes {s : MS} {l : List P5} (h : Sim s l) (a n : Nat) : bytes5 l a n = s.span a n := by
  unfold bytes5 MS.span
  refine List.map_congr_left fun i _ => ?_
  rw [h.peek]
  rfl
/-- What Map makes of the pages. -/
def Mapped5 (l l' : List P5) (p : Nat) (q : Int) (most : Nat) : Prop :=
  (find5 l p < l.length ∧ l' = l.set (find5 l p) { l.getD (find5 l p) nop5 with perm := bits .or .i64 (l.getD (find5 l p) nop5).perm q }) ∨
  (¬ find5 l p < l.length ∧ l.length < most ∧ ∃ i, i ≤ l.length ∧ l' = l.take i ++ page5 p q :: l.drop i ∧ (∀ k, i = k + 1 → ¬ p < (l.getD k nop5).at_) ∧ ∀ j, i ≤ j → j < l.length → p < (l.getD j nop5).at_) ∨
  (¬ find5 l p < l.length ∧ ¬ l.length < most ∧ l' = l)
def mapErr5 (l : List P5) (p most : Nat) : Int := if find5 l p < l.length ∨ l.length < most then 0 else 2
theorem M5.mapC {w : World} {s : S5} (h : M5 w s) (a : Nat) (z : Int) (ha : a < 4294967296) (hlen : s.l.length < 1000) : Calls Try.prog 31 #[.pointer (some ⟨s.m, 0, none⟩), .int .u32 (a : Int), .int .i64 z] w fun e w' => e = .returned (.int .i64 (mapErr5 s.l (a / 256 * 256) s.most)) ∧ ∃ s', Step5 w s w' s' ∧ s'.m = s.m ∧ s'.most = s.most ∧ s'.ts = s.ts ∧ Mapped5 s.l s'.l (a / 256 * 256) (z % 8) s.most := by
  have e7 := and7 z
  have hC := h.findC a ha
  by_cases hf : find5 s.l (a / 256 * 256) < s.l.length
  · have he : mapErr5 s.l (a / 256 * 256) s.most = 0 := if_pos (.inl hf)
    rw [find5I_yes hf] at hC
    rw [he]
    obtain ⟨g, off, cap, h0, hv, hlt, hth, ⟨cur, hbg⟩, hc⟩ := h.row hf
    have hfit := h.fitAt hf
    refine (map5_there w s.m g off cap s.l.length _ a _ z hC (by rw [h.cellP, hv]) (hc _ 1 _ hf (by omega) rfl) (hth _) (blk_ne h.self hbg (by decide)) hf).mono ?_
    rintro e w' ⟨he, r, rfl⟩
    rw [e7]
    have hs := (h.drewN r).set hf (show 1 < 259 by omega) (one5_setP (bits .or .i64 (s.l.getD (find5 s.l (a / 256 * 256)) nop5).perm (z % 8))) ⟨hfit.lb, hfit.la⟩ hv h0
    exact ⟨he, _, ⟨hs.mem, (Keep.refl _ w).drewN r |>.trans hs.keep fun b _ hb => hb, hs.grow⟩, rfl, rfl, rfl, .inl ⟨hf, rfl⟩⟩
  · by_cases hr : s.l.length < s.most
    · have he : mapErr5 s.l (a / 256 * 256) s.most = 0 := if_pos (.inr hr)
      rw [he]
      refine (map5_new w s h a z ha hf hr hlen).mono ?_
      rintro e w' ⟨he, s', h1, h2, h3, h4, i, h5, h6, h7, h8⟩
      rw [e7] at h6
      exact ⟨he, s', h1, h2, h3, h4, .inr (.inl ⟨hf, hr, i, h5, h6, h7, h8⟩)⟩
    · have he : mapErr5 s.l (a / 256 * 256) s.most = 2 := if_neg (fun h => h.elim hf hr)
      rw [find5I_no hf] at hC
      rw [he]
      obtain ⟨ao, cap, hv, hps⟩ := h.ps
      refine (map5_full w s.m cap s.l.length s.most a ao z hC (by rw [h.cellP, hv]) (h.self.cell rfl) (by omega)).mono ?_
      rintro e w' ⟨he, r, rfl⟩
      exact ⟨he, s, ⟨h.drewN r, (Keep.refl _ w).drewN r, fun _ hb => .inl hb⟩, rfl, rfl, rfl, .inr (.inr ⟨hf, hr, rfl⟩)⟩
theorem pokeAt_fields (s : MS) (a : Nat) (v : UInt8) (tv : Value) (k : Nat) (h : k ≠ pageOf a) : (s.pokeAt a v tv).data k = s.data k ∧ (s.pokeAt a v tv).pm k = s.pm k ∧ (s.pokeAt a v tv).on k = s.on k := by
  unfold MS.pokeAt
  split
  · simp [MS.poke, upd, h]
  · exact ⟨rfl, rfl, rfl⟩
theorem Sim.poke {s : MS} {l : List P5} (h : Sim s l) (a : Nat) (v : UInt8) (tv : Value) : Sim (s.pokeAt a v tv) (poke5 l a v) := by
  unfold poke5
  by_cases hf : find5 l (a / 256 * 256) < l.length
  · rw [if_pos hf]
    have hk : pageOf a ∈ s.ks := by rw [pageOf_div]; exact (h.find _).2 hf
    have hs : s.pokeAt a v tv = s.poke a v tv := by unfold MS.pokeAt; rw [if_pos hk]
    obtain ⟨a1, a2, a3⟩ := h.at hf
    refine h.set hf (find5_at hf) (pokeAt_ks _ _ _ _) ?_ ?_ ?_ fun k hk => pokeAt_fields s a v tv k (by rw [pageOf_div]; exact hk)
    · rw [hs]
      show (l.getD (find5 l (a / 256 * 256)) nop5).b.set (a % 256) v = _
      rw [a1]
      simp [MS.poke, upd, pageOf_div]
    · rw [hs]
      simpa [put5, MS.poke] using a2
    · rw [hs]
      simpa [put5, MS.poke] using a3
  · rw [if_neg hf]
    have hk : pageOf a ∉ s.ks := by rw [pageOf_div]; exact fun e => hf ((h.find _).1 e)
    have hs : s.pokeAt a v tv = s := by unfold MS.pokeAt; rw [if_neg hk]
    rw [hs]
    exact h
theorem Sim.touch {s : MS} {l : List P5} (h : Sim s l) (a : Nat) (v : UInt8) (tv : Value) : (s.pokeAt a v tv).ts = touch5 l s.ts a := by
  unfold touch5 MS.pokeAt
  by_cases hf : find5 l (a / 256 * 256) < l.length
  · rw [if_pos (by rw [pageOf_div]; exact (h.find _).2 hf)]
    simp only [MS.poke, pageOf_div, ← (h.at hf).2.2]
    by_cases hw : (l.getD (find5 l (a / 256 * 256)) nop5).watched = true
    · rw [if_pos hw, if_pos ⟨hf, hw⟩]
    · rw [if_neg hw, if_neg (fun e => hw e.2)]
  · rw [if_neg (by rw [pageOf_div]; exact fun e => hf ((h.find _).1 e)), if_neg (fun e => hf e.1)]
theorem Sim.watch {s : MS} {l : List P5} (h : Sim s l) (a : Nat) (b : Bool) : Sim (s.watchAt a b) (setW5 l (a / 256 * 256) b) := by
  unfold setW5 MS.watchAt
  by_cases hf : find5 l (a / 256 * 256) < l.length
  · rw [if_pos hf, if_pos (by rw [pageOf_div]; exact (h.find _).2 hf)]
    obtain ⟨a1, a2, a3⟩ := h.at hf
    refine h.set hf (find5_at hf) rfl (by simpa [MS.watch] using a1) (by simpa [MS.watch] using a2) (by simp [MS.watch, upd, pageOf_div]) fun k hk => ?_
    rw [pageOf_div]
    simp [MS.watch, upd, hk]
  · rw [if_neg hf, if_neg (by rw [pageOf_div]; exact fun e => hf ((h.find _).1 e))]
    exact h
theorem Sim.map {s : MS} {l l' : List P5} (h : Sim s l) (a : Nat) (z : Int) (b most : Nat) (hm : s.most = most) (hp : ∀ k ∈ s.ks, 0 ≤ s.pm k ∧ s.pm k < 8) (hM : Mapped5 l l' (a / 256 * 256) (z % 8) most) : Sim (s.mapped a z b) l' ∧ s.mapErr a = mapErr5 l (a / 256 * 256) most := by
  have hfi := h.find (a / 256 * 256)
  have herr : s.mapErr a = mapErr5 l (a / 256 * 256) most := by
    unfold MS.mapErr mapErr5
    rw [pageOf_div, hm, h.len]
    by_cases c : find5 l (a / 256 * 256) < l.length ∨ l.length < most
    · rw [if_pos c, if_pos (c.imp hfi.2 id)]
    · rw [if_neg c, if_neg (fun e => c (e.imp hfi.1 id))]
  refine ⟨?_, herr⟩
  unfold MS.mapped
  rw [pageOf_div, hm, h.len]
  rcases hM with ⟨hf, rfl⟩ | ⟨hf, hr, i, hi, rfl, h1, h2⟩ | ⟨hf, hr, rfl⟩
  · rw [if_pos (hfi.2 hf)]
    obtain ⟨a1, a2, a3⟩ := h.at hf
    have hb := hp _ (hfi.2 hf)
    refine h.set hf (find5_at hf) rfl a1 ?_ a3 fun k hk => by simp [MS.also, upd, hk]
    rw [a2, orP_small _ _ hb.1 hb.2]
    simp [MS.also, upd]
  · rw [if_neg (fun e => hf (hfi.1 e)), if_pos hr]
    exact h.ins hf hi rfl h1 h2 rfl (by simp [page5, MS.lay, upd]) (by simp [page5, MS.lay, upd]) (by simp [page5, MS.lay, upd]) fun k hk => by simp [MS.lay, upd, hk]
  · rw [if_neg (fun e => hf (hfi.1 e)), if_neg hr]
    exact h
theorem Sim.copy {s t : MS} {l : List P5} (h : Sim s l) (hc : CopyOf s t) : Sim t l := by
  refine ⟨h.rise, fun j hj => ?_, fun k hk => h.back k ((hc.ks k).1 hk), by rw [hc.len]; exact h.len⟩
  have g := h.here j hj
  have hk := (hc.ks _).2 g.1
  obtain ⟨d1, d2, d3⟩ := hc.data _ hk
  rw [d1, d2, d3]
  exact ⟨hk, g.2⟩
theorem Sim.none (s : MS) (h : s.ks = []) : Sim s [] := ⟨fun _ _ _ hj => by simp at hj, fun _ hj => by simp at hj, fun k hk => by rw [h] at hk; simp at hk, by rw [h]; rfl⟩
end Go.Proofs.Ytpknppicamefgaa
namespace Go.Proofs.Ytpknppicamefgaa
open Go.ChangeShapes Go.WideShapes Go.ChangeAt Go.RowKit
set_option linter.unusedVariables false
/-- The own memory l holds the keys ks and the pages f. -/
def G5 (most : Nat) (ks : List Nat) (f : AM) (l : List P5) : Prop := ∃ s : MS, Sim s l ∧ s.most = most ∧ s.ks = ks ∧ s.abs = f ∧ ∀ k ∈ s.ks, 0 ≤ s.pm k ∧ s.pm k < 8
theorem G5.len {most : Nat} {ks : List Nat} {f : AM} {l : List P5} (h : G5 most ks f l) : ks.length = l.length := by
  obtain ⟨s, h1, _, rfl, _, _⟩ := h
  exact h1.len
theorem G5.none (most : Nat) : G5 most [] (fun _ => none) [] := by
  let s : MS := ⟨0, 0, [], fun _ => 0, fun _ => 0, fun _ => [], fun _ => 0, fun _ => false, most, .bool false, [], 0⟩
  refine ⟨s, Sim.none s rfl, rfl, rfl, ?_, fun k hk => by simp [s] at hk⟩
  funext k
  exact abs_out (by simp [s])
theorem mapped_pm {s : MS} (a : Nat) (z : Int) (b : Nat) (h : ∀ k ∈ s.ks, 0 ≤ s.pm k ∧ s.pm k < 8) : ∀ k ∈ (s.mapped a z b).ks, 0 ≤ (s.mapped a z b).pm k ∧ (s.mapped a z b).pm k < 8 := by
  intro k hk
  unfold MS.mapped at hk ⊢
  by_cases hp : pageOf a ∈ s.ks
  · rw [if_pos hp] at hk ⊢
    show 0 ≤ upd s.pm (pageOf a) _ k ∧ upd s.pm (pageOf a) _ k < 8
    unfold upd
    split
    · unfold orP; omega
    · exact h k hk
  · rw [if_neg hp] at hk ⊢
    by_cases hr : s.ks.length < s.most
    · rw [if_pos hr] at hk ⊢
      show 0 ≤ upd s.pm (pageOf a) _ k ∧ upd s.pm (pageOf a) _ k < 8
      unfold upd
      split
      · omega
      · rename_i hne
        have : k ∈ s.ks ++ [pageOf a] := hk
        rcases List.mem_append.1 this with h1 | h1
        · exact h k h1
        · exact absurd (by simpa using h1) hne
    · rw [if_neg hr] at hk ⊢
      exact h k hk
theorem G5.map {most : Nat} {ks : List Nat} {f : AM} {l l' : List P5} (h : G5 most ks f l) (a : Nat) (z : Int) (hM : Mapped5 l l' (a / 256 * 256) (z % 8) most) :
    (∀ ks', layKs most ks [pageOf a] = some ks' → mapErr5 l (a / 256 * 256) most = 0 ∧ G5 most ks' (amap f a z) l') ∧ (layKs most ks [pageOf a] = .none → mapErr5 l (a / 256 * 256) most = 2) := by
  obtain ⟨s, h1, h2, rfl, rfl, h5⟩ := h
  obtain ⟨m1, m2⟩ := h1.map a z 0 most h2 h5 hM
  rw [← m2]
  unfold layKs layKs MS.mapErr
  constructor
  · intro ks' hk
    have hroom : pageOf a ∈ s.ks ∨ s.ks.length < s.most := by
      by_cases hp : pageOf a ∈ s.ks
      · exact .inl hp
      · rw [if_neg hp] at hk
        by_cases hr : s.ks.length < most
        · exact .inr (by omega)
        · rw [if_neg hr] at hk; cases hk
    refine ⟨by rw [if_pos hroom], s.mapped a z 0, m1, by rw [mapped_most]; exact h2, ?_, abs_mapped hroom, mapped_pm a z 0 h5⟩
    rw [mapped_keys, h2]
    split at hk
    · rename_i hp
      rw [if_pos hp]
      exact Option.some.inj hk
    · rename_i hp
      rw [if_neg hp]
      split at hk
      · rename_i hr
        rw [if_pos hr]
        exact Option.some.inj hk
      · cases hk
  · intro hk
    rw [if_neg]
    rintro (hp | hr)
    · rw [if_pos hp] at hk; cases hk
    · split at hk
      · cases hk
      · rw [if_pos (by omega)] at hk; cases hk
theorem G5.poke {most : Nat} {ks : List Nat} {f : AM} {l : List P5} (h : G5 most ks f l) (a : Nat) (v : UInt8) : G5 most ks (apoke f a v) (poke5 l a v) := by
  obtain ⟨s, h1, h2, rfl, rfl, h5⟩ := h
  have e1 : (s.pokeAt a v s.tv).ks = s.ks := by unfold MS.pokeAt; split <;> rfl
  have e2 : (s.pokeAt a v s.tv).most = s.most := by unfold MS.pokeAt; split <;> rfl
  have e3 : (s.pokeAt a v s.tv).pm = s.pm := by unfold MS.pokeAt; split <;> rfl
  refine ⟨s.pokeAt a v s.tv, h1.poke a v s.tv, by rw [e2]; exact h2, e1, abs_pokeAt s a v s.tv, ?_⟩
  rw [e1, e3]
  exact h5
/-- A memory of the code with the same keys and pages is the same. -/
theorem G5.sim {most : Nat} {ks : List Nat} {f : AM} {l : List P5} (h : G5 most ks f l) {t : MS} (hk : t.ks = ks) (ha : t.abs = f) : Sim t l := by
  obtain ⟨s, h1, h2, rfl, rfl, h5⟩ := h
  refine ⟨h1.rise, fun j hj => ?_, fun k hkk => h1.back k (by rw [← hk]; exact hkk), by rw [hk]; exact h1.len⟩
  obtain ⟨g1, g2, g3, g4⟩ := h1.here j hj
  have e := congrFun ha (l.getD j nop5).at_
  rw [abs_in g1, abs_in (by rw [hk]; exact g1)] at e
  have e2 := Option.some.inj e
  have p1 := congrArg Prod.fst e2
  have p2 := congrArg (fun x => x.2.1) e2
  have p3 := congrArg (fun x => x.2.2) e2
  simp only at p1 p2 p3
  exact ⟨by rw [hk]; exact g1, by rw [p1]; exact g2, by rw [p2]; exact g3, by rw [p3]; exact g4⟩
end Go.Proofs.Ytpknppicamefgaa
namespace Go.Proofs.Ytpknppicamefgaa
open Go.ChangeShapes Go.WideShapes Go.ChangeAt Go.RowKit
set_option linter.unusedVariables false
/-- The own memory t in wr, made behind u. -/
structure OM (u wr : World) (mb mo : Nat) (ks : List Nat) (f : AM) (t : S5) : Prop where
  mem : M5 wr t
  new : ∀ b, foot5 t b → u.heap.size ≤ b
  bel : Below u.heap.size u wr
  m : t.m = mb
  most : t.most = mo
  ts : t.ts = []
  g : G5 mo ks f t.l
  off : OffA f
  room : ks.length ≤ mo
  great : mo ≤ 64
theorem OM.made {u w : World} (hu : Below u.heap.size u w) (most : Nat) (z : Int) (hz : min (max z 0) 64 = (most : Int)) : Calls Try.prog 30 #[.int .i64 z] w fun e w' => e = .returned (.pointer (some ⟨w.heap.size, 0, none⟩)) ∧ Below w.heap.size w w' ∧ ∃ t, OM u w' w.heap.size most [] (fun _ => none) t := by
  refine (new5_any most z hz w).mono ?_
  rintro e w' ⟨h1, h2, h3⟩
  have hs := hu.size
  refine ⟨h1, h2, _, h3, ?_, hu.trans (h2.mono hs), rfl, rfl, rfl, G5.none most, (fun _ _ h => by cases h), by simp, by omega⟩
  rintro b (hb | hb | hb)
  · rw [hb]; exact hs
  · cases hb
  · cases hb
theorem OM.step {u w w' : World} {mb mo : Nat} {ks ks' : List Nat} {f f' : AM} {t t' : S5} (h : OM u w mb mo ks f t) (k : Step5 w t w' t') (e1 : t'.m = t.m) (e2 : t'.most = t.most) (e3 : t'.ts = []) (g : G5 mo ks' f' t'.l) (o : OffA f') (r : ks'.length ≤ mo) : OM u w' mb mo ks' f' t' := by
  have hs := h.bel.size
  refine ⟨k.mem, fun b hb => ?_, ?_, e1.trans h.m, e2.trans h.most, e3, g, o, r, h.great⟩
  · rcases k.grow b hb with h1 | h1
    · exact h.new b h1
    · omega
  · exact h.bel.trans (k.keep.below hs fun b hb => h.new b hb)
theorem OM.map {u w : World} {mb mo : Nat} {ks : List Nat} {f : AM} {t : S5} (h : OM u w mb mo ks f t) (a : Nat) (z : Int) (ha : a < 4294967296) : Calls Try.prog 31 #[.pointer (some ⟨mb, 0, none⟩), .int .u32 (a : Int), .int .i64 z] w fun e w' => Below u.heap.size u w' ∧ Keep (foot5 t) w w' ∧ ((∃ ks' t', layKs mo ks [pageOf a] = some ks' ∧ e = .returned (.int .i64 0) ∧ OM u w' mb mo ks' (amap f a z) t') ∨ (layKs mo ks [pageOf a] = none ∧ e = .returned (.int .i64 2))) := by
  have hl := h.g.len
  have hc := h.mem.mapC a z ha (by have := h.room; have := h.great; omega)
  rw [h.m, h.most] at hc
  refine hc.mono ?_
  rintro e w' ⟨h1, t', hs, e1, e2, e3, hM⟩
  obtain ⟨m1, m2⟩ := h.g.map a z hM
  have hb : Below u.heap.size u w' := h.bel.trans (hs.keep.below h.bel.size fun b hb => h.new b hb)
  refine ⟨hb, hs.keep, ?_⟩
  cases hk : layKs mo ks [pageOf a] with
  | none => exact .inr ⟨rfl, by rw [h1, m2 hk]⟩
  | some ks' =>
    obtain ⟨n1, n2⟩ := m1 ks' hk
    refine .inl ⟨ks', t', rfl, by rw [h1, n1], h.step hs (e1.trans h.m.symm) (e2.trans h.most.symm) (e3.trans h.ts) n2 (offA_amap h.off a z) ?_⟩
    unfold layKs layKs at hk
    split at hk
    · rw [← Option.some.inj hk]; exact h.room
    · split at hk
      · rw [← Option.some.inj hk, List.length_append, List.length_singleton]; omega
      · cases hk
theorem OM.poke {u w : World} {mb mo : Nat} {ks : List Nat} {f : AM} {t : S5} (h : OM u w mb mo ks f t) (a : Nat) (v : UInt8) (ha : a < 4294967296) : Calls Try.prog 32 #[.pointer (some ⟨mb, 0, none⟩), .int .u32 (a : Int), .int .u8 (v.toNat : Int)] w fun e w' => (∃ x, e = .returned (.bool x)) ∧ Keep (foot5 t) w w' ∧ ∃ t', OM u w' mb mo ks (apoke f a v) t' := by
  have hc := poke5_any w t h.mem a v ha (by rw [h.ts]; simp)
  rw [h.m] at hc
  refine hc.mono ?_
  rintro e w' ⟨h1, t', hs, e1, e2, e3, e4⟩
  have hts : touch5 t.l t.ts a = [] := by
    obtain ⟨s, g1, g2, g3, g4, g5⟩ := h.g
    have hof := off_of_abs (s := s) (by rw [g4]; exact h.off)
    have hw : watch5 t.l (a / 256 * 256) = false := by
      unfold watch5
      by_cases hf : find5 t.l (a / 256 * 256) < t.l.length
      · rw [(g1.at hf).2.2, hof _ ((g1.find _).2 hf), Bool.and_false]
      · simp [hf]
    rw [h.ts]
    unfold touch5
    unfold watch5 at hw
    simp_all
  exact ⟨⟨_, h1⟩, hs.keep, t', h.step hs (e1.trans h.m.symm) e2 (e4.trans hts) (by rw [e3]; exact h.g.poke a v) (offA_apoke h.off a v) h.room⟩
end Go.Proofs.Ytpknppicamefgaa

/- Files that are not too much. -/
import Derived.Test.YtpknppicamefgaaQMBA
import Derived.Test.YtpknppicamefgaaQMAH
namespace Go.Proofs.Ytpknppicamefgaa
open Go.ChangeShapes Go.WideShapes Go.ChangeAt Go.RowKit
set_option linter.unusedVariables false
def fewB (l : List Sg) : Bool := (l.take 12).all (fun s => decide (s.data.length ≤ 4000)) && decide (l.length ≤ 12)
set_option maxRecDepth 20000 in
set_option maxHeartbeats 1000000 in
theorem fewFile_any (w : World) (ao : Option Addr) (cap ent : Nat) (l : List Sg) (h : Segs w ao l) (hcap : l.length ≤ cap) (hmax : cap ≤ 9223372036854775807) : Calls Try.prog 7 #[.agg #[.int .u32 (ent : Int), .slice ao l.length cap]] w fun e w' => e = .returned (.bool (fewB l)) ∧ Below w.heap.size w w' := by
  have hb0 := below_new w (.cells #[.int .u32 (ent : Int), .slice ao l.length cap] 25)
  have H := hidden (h.later hb0)
  have HB0 := hidden hb0
  have HF := hidden (Blk.new w #[.int .u32 (ent : Int), .slice ao l.length cap] 25)
  clear h hb0
  go_enter Try.func7, Try.ntmps7
  go_wp2
  go_loopw [3] (fun x3 wr => ∃ k : Nat, k ≤ l.length ∧ k ≤ 12 ∧ x3 = .int .i64 (k : Int) ∧ wr = w.alloc (.cells #[.int .u32 (ent : Int), .slice ao l.length cap] 25) ∧ ∀ j, j < k → (l.getD j nosg).data.length ≤ 4000) (fun x3 _ => 12 - (intOf x3).toNat)
  case atStart => exact ⟨0, by omega, by omega, rfl, rfl, by omega⟩
  case round =>
    obtain ⟨k, hk1, hk2, rfl, hwr, hall⟩ := hrel
    have HA := hidden hall
    have HF2 : Hid (Blk wr w.heap.size #[.int .u32 (ent : Int), .slice ao l.length cap] 25) := by rw [hwr]; exact Hid.out HF
    have HS2 : Hid (Segs wr ao l) := by rw [hwr]; exact Hid.out H
    have HB2 : Hid (Below w.heap.size w wr) := by rw [hwr]; exact Hid.out HB0
    have HWR := hidden hwr
    have g1 : wr.cell? ⟨w.heap.size, 1, none⟩ = some (.slice ao l.length cap) := (Hid.out HF2).cell rfl
    have hgl := (Hid.out HF2).lt
    clear hall hwr
    by_cases hkl : k < l.length
    · have hkl2 : (k : Int) < (l.length : Int) := by omega
      by_cases hk12 : k < 12
      · have hk122 : (k : Int) < 12 := by omega
        obtain ⟨b, off, rfl, hlt, hc⟩ := (Hid.out HS2).at hkl
        obtain ⟨c0, c1, c2, c3, fit⟩ := hc k hkl
        have hld := fit.ld
        obtain ⟨d, hd⟩ : ∃ d, d = (l.getD k nosg).data := ⟨_, rfl⟩
        rw [← hd] at c1 hld
        have HD := hidden hd
        have hds : (ByteArray.mk d.toArray).size = d.length := by simp [ByteArray.size]
        clear hc c0 c2 c3 fit hd
        by_cases h4 : d.length ≤ 4000
        · have h42 : ¬ (4000 : Int) < (d.length : Int) := by omega
          go_wp2
          go_roundw
          case rel => first | exact ⟨k + 1, by omega, by omega, by simp, Hid.out HWR, upto (P := fun j => (l.getD j nosg).data.length ≤ 4000) (Hid.out HA) (by rw [← Hid.out HD]; exact h4)⟩ | ((repeat apply Exists.intro); exact ⟨⟨k + 1, by omega, by omega, by simp, Hid.out HWR, upto (P := fun j => (l.getD j nosg).data.length ≤ 4000) (Hid.out HA) (by rw [← Hid.out HD]; exact h4)⟩, rfl⟩)
          case measure => simp [intOf]; omega
        · have h42 : (4000 : Int) < (d.length : Int) := by omega
          have HR : Hid (fewB l = false) := by
            show fewB l = false
            unfold fewB
            rw [Bool.and_eq_false_iff]
            left
            refine all_no (j := k) (by rw [List.length_take]; omega) ?_
            rw [List.getD_eq_getElem?_getD, List.getElem?_take_of_lt hk12, ← List.getD_eq_getElem?_getD, ← Hid.out HD]
            exact decide_eq_false h4
          go_wp2
          go_ret
          exact ⟨ret_bool (Hid.out HR).symm, Hid.out HB2⟩
      · have hk122 : ¬ (k : Int) < 12 := by omega
        have hl12 : ¬ (l.length : Int) ≤ 12 := by omega
        have HR : Hid (fewB l = false) := by
          show fewB l = false
          unfold fewB
          rw [decide_eq_false (show ¬ l.length ≤ 12 by omega), Bool.and_false]
        go_wp2
        go_ret
        exact ⟨ret_bool (Hid.out HR).symm, Hid.out HB2⟩
    · have hkl2 : decide ((k : Int) < (l.length : Int)) = false := by simp; omega
      have hl12 : (l.length : Int) ≤ 12 := by omega
      have HR : Hid (fewB l = true) := by
        show fewB l = true
        unfold fewB
        rw [decide_eq_true (show l.length ≤ 12 by omega), Bool.and_true]
        refine all_yes fun j hj => ?_
        rw [List.length_take] at hj
        rw [List.getD_eq_getElem?_getD, List.getElem?_take_of_lt (by omega), ← List.getD_eq_getElem?_getD]
        exact decide_eq_true (Hid.out HA j (by omega))
      go_wp2
      go_ret
      exact ⟨ret_bool (Hid.out HR).symm, Hid.out HB2⟩
end Go.Proofs.Ytpknppicamefgaa
namespace Go.Proofs.Ytpknppicamefgaa
open Go.ChangeShapes Go.WideShapes Go.ChangeAt Go.RowKit
set_option linter.unusedVariables false
def byteA (f : AM) (a : Nat) : UInt8 := match f (pageOf a) with
  | some x => x.1.getD (a % 256) 0
  | none => 0
def permA (f : AM) (a : Nat) : Int := match f (pageOf a) with
  | some x => x.2.1
  | none => 0
def inA (f : AM) (a : Nat) : Prop := ∃ x, f (pageOf a) = some x
def LenA (f : AM) : Prop := ∀ k x, f k = some x → x.1.length = 256
theorem lenA_amap {f : AM} (h : LenA f) (a : Nat) (z : Int) : LenA (amap f a z) := by
  intro k x hx
  unfold amap at hx
  split at hx
  · split at hx
    · rename_i l p o he
      cases hx
      exact h k (l, p, o) he
    · cases hx; exact zeros_len
  · exact h _ _ hx
theorem lenA_apoke {f : AM} (h : LenA f) (a : Nat) (v : UInt8) : LenA (apoke f a v) := by
  intro k x hx
  unfold apoke at hx
  split at hx
  · cases he : f k with
    | none => rw [he] at hx; cases hx
    | some y => rw [he] at hx; cases hx; simpa using h k y he
  · exact h _ _ hx
theorem byteA_amap (f : AM) (p : Nat) (z : Int) (a : Nat) : byteA (amap f p z) a = byteA f a := by
  unfold byteA amap
  by_cases e : pageOf a = pageOf p
  · rw [if_pos e]
    cases hf : f (pageOf a) with
    | none =>
      show zeros.getD (a % 256) 0 = 0
      unfold zeros
      rw [List.getD_eq_getElem?_getD, List.getElem?_replicate]
      split <;> rfl
    | some x => rfl
  · rw [if_neg e]
theorem inA_amap {f : AM} {p : Nat} {z : Int} {a : Nat} : inA (amap f p z) a ↔ pageOf a = pageOf p ∨ inA f a := by
  unfold inA amap
  by_cases e : pageOf a = pageOf p
  · rw [if_pos e]
    refine ⟨fun _ => .inl e, fun _ => ?_⟩
    cases hf : f (pageOf a) with
    | none => exact ⟨_, rfl⟩
    | some x => exact ⟨_, rfl⟩
  · rw [if_neg e]
    exact ⟨.inr, fun h => h.elim (fun h => absurd h e) id⟩
theorem permA_amap_other {f : AM} {p : Nat} {z : Int} {a : Nat} (e : pageOf a ≠ pageOf p) : permA (amap f p z) a = permA f a := by
  unfold permA amap
  rw [if_neg e]
theorem permA_amap_new {f : AM} {p : Nat} {z : Int} {a : Nat} (e : pageOf a = pageOf p) (h : ¬ inA f a) : permA (amap f p z) a = z % 8 := by
  unfold permA amap
  rw [if_pos e]
  cases hf : f (pageOf a) with
  | none => rfl
  | some x => exact absurd ⟨x, hf⟩ h
theorem permA_amap_in {f : AM} {p : Nat} {z : Int} {a : Nat} (e : pageOf a = pageOf p) (h : inA f a) : permA (amap f p z) a = orP (permA f a) z := by
  unfold permA amap
  rw [if_pos e]
  obtain ⟨x, hx⟩ := h
  rw [hx]
theorem inA_apoke {f : AM} {p : Nat} {v : UInt8} {a : Nat} : inA (apoke f p v) a ↔ inA f a := by
  unfold inA apoke
  by_cases e : pageOf a = pageOf p
  · rw [if_pos e]
    cases hf : f (pageOf a) with
    | none => simp
    | some x => simp
  · rw [if_neg e]
theorem permA_apoke (f : AM) (p : Nat) (v : UInt8) (a : Nat) : permA (apoke f p v) a = permA f a := by
  unfold permA apoke
  by_cases e : pageOf a = pageOf p
  · rw [if_pos e]
    cases hf : f (pageOf a) <;> rfl
  · rw [if_neg e]
theorem byteA_apoke {f : AM} (hl : LenA f) {p : Nat} (hp : inA f p) (v : UInt8) (a : Nat) : byteA (apoke f p v) a = if a = p then v else byteA f a := by
  unfold byteA apoke
  by_cases e : pageOf a = pageOf p
  · rw [if_pos e]
    obtain ⟨x, hx⟩ := hp
    rw [← e] at hx
    have hlen := hl _ _ hx
    rw [hx]
    simp only [Option.map_some]
    by_cases e2 : a = p
    · subst e2
      rw [if_pos rfl]
      simp [List.getD_eq_getElem?_getD, hlen, Nat.mod_lt]
    · rw [if_neg e2]
      have : p % 256 ≠ a % 256 := by unfold pageOf at e; omega
      simp [List.getD_eq_getElem?_getD, this]
  · rw [if_neg e, if_neg fun h => e (by rw [h])]
theorem byteA_lay (z : Int) (a : Nat) : ∀ (ps : List Nat) (f : AM), byteA (layAm f z ps) a = byteA f a := by
  intro ps
  induction ps with
  | nil => intro f; rfl
  | cons p ps ih => intro f; exact (ih _).trans (byteA_amap f p z a)
theorem lenA_lay (z : Int) : ∀ (ps : List Nat) {f : AM}, LenA f → LenA (layAm f z ps) := by
  intro ps
  induction ps with
  | nil => intro f h; exact h
  | cons p ps ih => intro f h; exact ih (lenA_amap h p z)
theorem inA_lay {z : Int} {a : Nat} : ∀ (ps : List Nat) {f : AM}, inA (layAm f z ps) a ↔ (∃ p ∈ ps, pageOf a = pageOf p) ∨ inA f a := by
  intro ps
  induction ps with
  | nil => intro f; simp [layAm]
  | cons p ps ih =>
    intro f
    show inA (layAm (amap f p z) z ps) a ↔ _
    rw [ih, inA_amap]
    simp only [List.mem_cons, exists_eq_or_imp]
    constructor
    · rintro (h | h | h)
      · exact .inl (.inr h)
      · exact .inl (.inl h)
      · exact .inr h
    · rintro ((h | h) | h)
      · exact .inr (.inl h)
      · exact .inl h
      · exact .inr (.inr h)
theorem permA_lay_out {z : Int} {a : Nat} : ∀ (ps : List Nat) {f : AM}, (∀ p ∈ ps, pageOf a ≠ pageOf p) → permA (layAm f z ps) a = permA f a := by
  intro ps
  induction ps with
  | nil => intro f _; rfl
  | cons p ps ih =>
    intro f h
    show permA (layAm (amap f p z) z ps) a = _
    rw [ih fun q hq => h q (List.mem_cons_of_mem _ hq), permA_amap_other (h p List.mem_cons_self)]
/-- Each page once: laid anew, or in addition. -/
theorem permA_lay_in {z : Int} {a : Nat} : ∀ (ps : List Nat) {f : AM}, (ps.map pageOf).Nodup → (∃ p ∈ ps, pageOf a = pageOf p) → (¬ inA f a → permA (layAm f z ps) a = z % 8) ∧ (inA f a → permA (layAm f z ps) a = orP (permA f a) z) := by
  intro ps
  induction ps with
  | nil => intro f _ h; obtain ⟨p, hp, _⟩ := h; cases hp
  | cons p ps ih =>
    intro f hnd h
    simp only [List.map_cons, List.nodup_cons] at hnd
    have hs : layAm f z (p :: ps) = layAm (amap f p z) z ps := rfl
    rw [hs]
    by_cases e : pageOf a = pageOf p
    · have hout : ∀ q ∈ ps, pageOf a ≠ pageOf q := fun q hq e2 => hnd.1 (List.mem_map.2 ⟨q, hq, by rw [← e2, e]⟩)
      rw [permA_lay_out ps hout]
      exact ⟨permA_amap_new e, permA_amap_in e⟩
    · obtain ⟨q, hq, hq2⟩ := h
      rcases List.mem_cons.1 hq with rfl | hq
      · exact absurd hq2 e
      · have := ih (f := amap f p z) hnd.2 ⟨q, hq, hq2⟩
        refine ⟨fun hn => this.1 fun hi => ?_, fun hi => ?_⟩
        · rcases inA_amap.1 hi with h1 | h1
          · exact e h1
          · exact hn h1
        · rw [this.2 (inA_amap.2 (.inr hi)), permA_amap_other e]
theorem fill_all (f : AM) (hl : LenA f) (b : Nat) (d : List UInt8) : ∀ k, (∀ j, j < k → inA f (b + j)) → LenA (fillAm f b d k) ∧ (∀ a, inA (fillAm f b d k) a ↔ inA f a) ∧ (∀ a, permA (fillAm f b d k) a = permA f a) ∧ ∀ a, byteA (fillAm f b d k) a = if b ≤ a ∧ a < b + k then d.getD (a - b) 0 else byteA f a := by
  intro k
  induction k with
  | zero => intro _; exact ⟨hl, fun a => Iff.rfl, fun a => rfl, fun a => by rw [if_neg (by omega)]; rfl⟩
  | succ k ih =>
    intro h
    obtain ⟨h1, h2, h3, h4⟩ := ih fun j hj => h j (by omega)
    refine ⟨lenA_apoke h1 _ _, fun a => inA_apoke.trans (h2 a), fun a => (permA_apoke _ _ _ _).trans (h3 a), fun a => ?_⟩
    show byteA (apoke (fillAm f b d k) (b + k) (d.getD k 0)) a = _
    rw [byteA_apoke h1 ((h2 _).2 (h k (by omega))), h4]
    by_cases e : a = b + k
    · subst e
      rw [if_pos rfl, if_pos (by omega), Nat.add_sub_cancel_left]
    · rw [if_neg e]
      by_cases e2 : b ≤ a ∧ a < b + k
      · rw [if_pos e2, if_pos (by omega)]
      · rw [if_neg e2, if_neg (by omega)]
/-- The pages of a segment. -/
def inSeg (g : Sg) (a : Nat) : Prop := ∃ j, j < g.size ∧ pageOf a = pageOf (g.at_ + j)
theorem pgs_mul (a k : Nat) : ∀ p ∈ pgs a k, pageOf p = p := by
  intro p hp
  simp only [pgs, List.mem_map] at hp
  obtain ⟨j, _, rfl⟩ := hp
  unfold pageOf
  omega
theorem pgs_nodup (a k : Nat) : ((pgs a k).map pageOf).Nodup := by
  have : (pgs a k).map pageOf = pgs a k := by
    have h := List.map_congr_left (pgs_mul a k)
    rw [h]; simp
  rw [this]
  unfold pgs
  exact List.Pairwise.map _ (fun x y h => by omega) List.nodup_range
theorem segPg_iff {g : Sg} (h : 0 < g.size) (a : Nat) : (∃ p ∈ segPg g, pageOf a = pageOf p) ↔ inSeg g a := by
  unfold segPg pgs cntP inSeg
  constructor
  · rintro ⟨p, hp, e⟩
    simp only [List.mem_map, List.mem_range] at hp
    obtain ⟨j, hj, rfl⟩ := hp
    by_cases h0 : j = 0
    · refine ⟨0, h, ?_⟩
      subst h0
      unfold pageOf at e ⊢
      omega
    · refine ⟨256 * j - g.at_ % 256, ?_, ?_⟩
      · omega
      · unfold pageOf at e ⊢
        omega
  · rintro ⟨j, hj, e⟩
    refine ⟨pageOf g.at_ + 256 * ((g.at_ % 256 + j) / 256), ?_, ?_⟩
    · simp only [List.mem_map, List.mem_range]
      exact ⟨(g.at_ % 256 + j) / 256, by omega, rfl⟩
    · unfold pageOf at e ⊢
      omega
theorem segAm_all {f : AM} (hl : LenA f) {g : Sg} (hg : okB g = true) : LenA (segAm f g) ∧ (∀ a, inA (segAm f g) a ↔ inSeg g a ∨ inA f a) ∧ (∀ a, ¬ inSeg g a → permA (segAm f g) a = permA f a) ∧ (∀ a, inSeg g a → ¬ inA f a → permA (segAm f g) a = g.perm) ∧ ∀ a, byteA (segAm f g) a = if g.at_ ≤ a ∧ a < g.at_ + g.data.length then g.data.getD (a - g.at_) 0 else byteA f a := by
  obtain ⟨g1, g2, g3, g4, g5, g6⟩ := ok_size hg
  have hp := fun a => segPg_iff (g := g) g1 a
  obtain ⟨f1, f2, f3, f4⟩ := fill_all (segLay f g) (lenA_lay _ _ hl) g.at_ g.data g.data.length fun j hj => (inA_lay _).2 (.inl ((hp _).2 ⟨j, by omega, rfl⟩))
  refine ⟨f1, fun a => (f2 a).trans ((inA_lay _).trans (or_congr (hp a) Iff.rfl)), fun a ha => (f3 a).trans (permA_lay_out _ fun p hp' e => ha ((hp a).1 ⟨p, hp', e⟩)), fun a ha hn => ?_, fun a => ?_⟩
  · refine (f3 a).trans ?_
    show permA (layAm f g.perm (segPg g)) a = _
    rw [(permA_lay_in (segPg g) (pgs_nodup _ _) ((hp a).2 ha)).1 hn]
    omega
  · refine (f4 a).trans ?_
    by_cases e : g.at_ ≤ a ∧ a < g.at_ + g.data.length
    · rw [if_pos e, if_pos e]
    · rw [if_neg e, if_neg e]
      exact byteA_lay _ _ _ _
theorem loads_out {a : Nat} : ∀ (l : List Sg) {f : AM}, LenA f → (∀ g ∈ l, okB g = true) → (∀ g ∈ l, ¬ inSeg g a) → LenA (l.foldl segAm f) ∧ (inA (l.foldl segAm f) a ↔ inA f a) ∧ permA (l.foldl segAm f) a = permA f a ∧ byteA (l.foldl segAm f) a = byteA f a := by
  intro l
  induction l with
  | nil => intro f hl _ _; exact ⟨hl, Iff.rfl, rfl, rfl⟩
  | cons g l ih =>
    intro f hl hok hout
    have hg := hok g List.mem_cons_self
    have ho := hout g List.mem_cons_self
    obtain ⟨s1, s2, s3, s4, s5⟩ := segAm_all hl hg
    obtain ⟨i1, i2, i3, i4⟩ := ih s1 (fun g h => hok g (List.mem_cons_of_mem _ h)) (fun g h => hout g (List.mem_cons_of_mem _ h))
    obtain ⟨g1, g2, g3, g4, g5, g6⟩ := ok_size hg
    refine ⟨i1, i2.trans ((s2 a).trans (or_iff_right ho)), i3.trans (s3 a ho), i4.trans ((s5 a).trans (if_neg fun h => ho ⟨a - g.at_, by omega, by rw [show g.at_ + (a - g.at_) = a by omega]⟩))⟩
theorem share_of {g o : Sg} (hg : okB g = true) (ho : okB o = true) {a : Nat} (h1 : inSeg g a) (h2 : inSeg o a) : shareB g o = true := by
  obtain ⟨j, hj, e⟩ := h1
  obtain ⟨i, hi, e2⟩ := h2
  unfold shareB lastPg
  rw [Bool.and_eq_true, decide_eq_true_eq, decide_eq_true_eq]
  unfold pageOf at e e2
  omega
theorem share_comm (g o : Sg) : shareB g o = shareB o g := by
  unfold shareB
  rw [Bool.and_comm]
theorem apart_no {l : List Sg} (h : overB l = false) {i j : Nat} (hi : i < l.length) (hj : j < l.length) (hne : i ≠ j) : shareB (l.getD i nosg) (l.getD j nosg) = false := by
  cases hs : shareB (l.getD i nosg) (l.getD j nosg) with
  | false => rfl
  | true =>
    by_cases h1 : j < i
    · rw [over_yes h1 hi hs] at h; cases h
    · rw [share_comm] at hs
      rw [over_yes (show i < j by omega) hj hs] at h; cases h
/-- Where a byte of a segment is, and may be what. -/
theorem load_holds {ent : Nat} {l : List Sg} (h : checkE ent l = 0) {i k : Nat} (hi : i < l.length) (hk : k < (l.getD i nosg).size) : inA (loadAm l) ((l.getD i nosg).at_ + k) ∧ permA (loadAm l) ((l.getD i nosg).at_ + k) = (l.getD i nosg).perm ∧ byteA (loadAm l) ((l.getD i nosg).at_ + k) = if k < (l.getD i nosg).data.length then (l.getD i nosg).data.getD k 0 else 0 := by
  obtain ⟨h8, hok, hov, _⟩ := check_facts h
  obtain ⟨g, hg⟩ : ∃ g, g = l.getD i nosg := ⟨_, rfl⟩
  rw [← hg] at hk ⊢
  have hgok : okB g = true := by rw [hg]; exact hok i hi
  obtain ⟨a, ha⟩ : ∃ a, a = g.at_ + k := ⟨_, rfl⟩
  rw [← ha]
  have hin : inSeg g a := ⟨k, hk, by rw [ha]⟩
  have hget : ∀ j (hj : j < l.length), l.getD j nosg = l[j] := fun j hj => by simp [List.getD_eq_getElem?_getD, hj]
  have hsplit : l = l.take i ++ g :: l.drop (i + 1) := by
    rw [hg, hget i hi, List.getElem_cons_drop, List.take_append_drop]
  have h1 : ∀ o ∈ l.take i, okB o = true ∧ ¬ inSeg o a := by
    intro o ho
    obtain ⟨j, hj, e⟩ := List.getElem_of_mem ho
    rw [List.length_take] at hj
    rw [List.getElem_take] at e
    have e2 := hget j (by omega)
    rw [e] at e2
    have hjo := hok j (by omega)
    rw [e2] at hjo
    refine ⟨hjo, fun hx => ?_⟩
    have h3 := share_of hgok hjo hin hx
    rw [hg, ← e2, apart_no hov hi (by omega) (by omega)] at h3
    cases h3
  have h2 : ∀ o ∈ l.drop (i + 1), okB o = true ∧ ¬ inSeg o a := by
    intro o ho
    obtain ⟨j, hj, e⟩ := List.getElem_of_mem ho
    rw [List.length_drop] at hj
    rw [List.getElem_drop] at e
    have e2 := hget (i + 1 + j) (by omega)
    rw [e] at e2
    have hjo := hok (i + 1 + j) (by omega)
    rw [e2] at hjo
    refine ⟨hjo, fun hx => ?_⟩
    have h3 := share_of hgok hjo hin hx
    rw [hg, ← e2, apart_no hov hi (by omega) (by omega)] at h3
    cases h3
  obtain ⟨p1, p2, p3, p4⟩ := loads_out (a := a) (l.take i) (f := fun _ => none) (fun _ _ h => by cases h) (fun o ho => (h1 o ho).1) (fun o ho => (h1 o ho).2)
  have hnone : ¬ inA ((l.take i).foldl segAm fun _ => none) a := fun hx => by
    obtain ⟨x, hx⟩ := p2.1 hx
    cases hx
  obtain ⟨s1, s2, s3, s4, s5⟩ := segAm_all p1 hgok
  obtain ⟨q1, q2, q3, q4⟩ := loads_out (a := a) (l.drop (i + 1)) s1 (fun o ho => (h2 o ho).1) (fun o ho => (h2 o ho).2)
  have hload : loadAm l = (l.drop (i + 1)).foldl segAm (segAm ((l.take i).foldl segAm fun _ => none) g) := by
    unfold loadAm
    conv => lhs; rw [hsplit]
    rw [List.foldl_append, List.foldl_cons]
  rw [hload]
  refine ⟨q2.2 ((s2 a).2 (.inl hin)), q3.trans (s4 a hin hnone), ?_⟩
  rw [q4, s5, p4]
  by_cases e : k < g.data.length
  · rw [if_pos (by omega), if_pos e, show a - g.at_ = k by omega]
  · rw [if_neg (by omega), if_neg e]
    rfl
theorem and_or : ∀ p q : Fin 8, bits .and .i64 (orP (p.val : Int) (q.val : Int)) (p.val : Int) = (p.val : Int) ∧ bits .and .i64 (p.val : Int) (p.val : Int) = (p.val : Int) ∧ bits .and .i64 (orP (p.val : Int) 6) 6 = 6 := by decide
theorem and_of {p : Int} (h0 : 0 ≤ p) (h7 : p ≤ 7) : bits .and .i64 (orP p 6) p = p ∧ bits .and .i64 p p = p ∧ bits .and .i64 (orP p 6) 6 = 6 := by
  have h := and_or ⟨p.toNat, by omega⟩ ⟨6, by omega⟩
  have e : ((p.toNat : Nat) : Int) = p := by omega
  simp only [e] at h
  exact h
theorem stack_pages : stackPg = [2147479040, 2147479296] := by decide
/-- The same with the stack's pages. -/
theorem all_at {ent : Nat} {l : List Sg} (h : checkE ent l = 0) {i k : Nat} (hi : i < l.length) (hk : k < (l.getD i nosg).size) : bits .and .i64 (permA (allAm l) ((l.getD i nosg).at_ + k)) (l.getD i nosg).perm = (l.getD i nosg).perm ∧ byteA (allAm l) ((l.getD i nosg).at_ + k) = if k < (l.getD i nosg).data.length then (l.getD i nosg).data.getD k 0 else 0 := by
  obtain ⟨h1, h2, h3⟩ := load_holds h hi hk
  obtain ⟨_, hok, _, _⟩ := check_facts h
  obtain ⟨g1, g2, g3, g4, g5, g6⟩ := ok_size (hok i hi)
  have hand := and_of g5 g6
  unfold allAm
  refine ⟨?_, (byteA_lay _ _ _ _).trans h3⟩
  by_cases hs : ∃ p ∈ stackPg, pageOf ((l.getD i nosg).at_ + k) = pageOf p
  · rw [(permA_lay_in stackPg (pgs_nodup _ _) hs).2 h1, h2]
    exact hand.1
  · rw [permA_lay_out stackPg fun p hp e => hs ⟨p, hp, e⟩, h2]
    exact hand.2.1
end Go.Proofs.Ytpknppicamefgaa
namespace Go.Proofs.Ytpknppicamefgaa
open Go.ChangeShapes Go.WideShapes Go.ChangeAt Go.RowKit
set_option linter.unusedVariables false
def exSg : Sg := ⟨4096, [], 300, 5⟩
theorem ex_ok : checkE 4096 [exSg] = 0 := by decide
theorem ex_ks : allKs 64 [exSg] = some [4096, 4352, 2147479040, 2147479296] := by decide
theorem segs_one4 {w : World} {b : Nat} {g : Sg} (h : Blk w b #[.int .u32 (g.at_ : Int), .string ⟨g.data.toArray⟩, .int .u32 (g.size : Int), .int .i64 g.perm] 44) (hf : Fit g) : Segs w (some ⟨b, 0, none⟩) [g] := by
  refine .inr ⟨b, 0, rfl, h.lt, fun j hj => ?_⟩
  obtain rfl : j = 0 := by simpa using hj
  exact ⟨h.cell rfl, h.cell rfl, h.cell rfl, h.cell rfl, hf⟩
set_option maxRecDepth 20000 in
set_option maxHeartbeats 1000000 in
theorem wake_any (w : World) : Calls Try.prog 8 #[] w fun e w' => e = .returned (.bool true) ∧ Below w.heap.size w w' := by
  obtain ⟨n, hn⟩ : ∃ n, w.heap.size = n := ⟨_, rfl⟩
  obtain ⟨W0, hW0⟩ : ∃ W0, (w.alloc (.cells #[.int .u32 4096, .string ⟨#[]⟩, .int .u32 300, .int .i64 5] 44)).alloc (.cells #[.int .u32 4096, .slice (some ⟨n, 0, none⟩) 1 1] 25) = W0 := ⟨_, rfl⟩
  have hb0 : Below n w W0 := by rw [← hW0, ← hn]; exact ((Below.refl _ w).alloc (Nat.le_refl _) _).alloc (by simp) _
  have hk0 : Blk W0 n #[.int .u32 4096, .string ⟨#[]⟩, .int .u32 300, .int .i64 5] 44 := by rw [← hW0, ← hn]; exact (heap_alloc_old _ _ (by simp)).trans (Blk.new w _ _)
  have H9 : Hid (Calls Try.prog 9 #[.agg #[.int .u32 4096, .slice (some ⟨n, 0, none⟩) 1 1], .int .i64 64] W0 fun e w1 => ∃ mb g, e = .returned (.tuple #[.pointer (some ⟨mb, 0, none⟩), .agg (stC 2147479536 4096 4100), .int .i64 0]) ∧ w1.heap.size = g ∧ ∀ w2 w3, Blk w3 g (stC 2147479536 4096 4100) 31 → Below g w1 w2 → Only g w2 w3 → Calls Try.prog 24 #[.pointer (some ⟨mb, 0, none⟩)] w3 fun e w4 => ∃ ao cap, e = .returned (.slice ao 4 cap) ∧ Blk w4 g (stC 2147479536 4096 4100) 31 ∧ Below n w w4) := by
    have h := load_file W0 (some ⟨n, 0, none⟩) 1 4096 [exSg] 64 (segs_one4 (g := exSg) hk0 ⟨by decide, by decide, by decide⟩) (by simp) (by omega) (by omega)
    refine Calls.mono h ?_
    rintro e w1 (⟨h1, _⟩ | ⟨_, h1, _⟩ | ⟨_, s, he, hL⟩)
    · exact absurd ex_ok h1
    · rw [show cutMost 64 = 64 by decide, ex_ks] at h1; cases h1
    · refine ⟨s.mb, w1.heap.size, he, rfl, fun w2 w3 hk3 hb2 ho3 => ?_⟩
      have hks := hL.ks
      rw [show cutMost 64 = 64 by decide, ex_ks] at hks
      have hks2 : s.ks = [4096, 4352, 2147479040, 2147479296] := (Option.some.inj hks).symm
      have ho2 := hL.own.step (Step.later hL.own.mem hb2)
      have hg2 : W0.heap.size ≤ w1.heap.size := hL.own.below.size
      have hnf : ¬ foot s w1.heap.size := fun hf => by have := hL.own.mem.lt hf; omega
      have ho4 := own_only ho2 ho3 hg2 hnf
      refine (pages_small w3 s ho4.mem (by rw [hks2]; decide)).mono ?_
      rintro e w4 ⟨ao, cap, l, he4, hp, _, _, hb4⟩
      have hl : l.length = 4 := by rw [hp.length_eq, hks2]; rfl
      rw [hl] at he4
      exact ⟨ao, cap, he4, hk3.later hb4, (hb0.trans (ho4.below.mono (by have := hb0.size; omega))).trans (hb4.mono (by have := hb0.size; have := ho4.below.size; omega))⟩
  have hk1 : Blk W0 (n + 1) #[.int .u32 4096, .slice (some ⟨n, 0, none⟩) 1 1] 25 := by
    have := Blk.new (w.alloc (.cells #[.int .u32 4096, .string ⟨#[]⟩, .int .u32 300, .int .i64 5] 44)) #[.int .u32 4096, .slice (some ⟨n, 0, none⟩) 1 1] 25
    rw [World.size_alloc, hn] at this
    rw [← hW0]; exact this
  have q0 : W0.cell? ⟨n + 1, 0, none⟩ = some (.int .u32 4096) := hk1.cell rfl
  have q1 : W0.cell? ⟨n + 1, 1, none⟩ = some (.slice (some ⟨n, 0, none⟩) 1 1) := hk1.cell rfl
  clear hb0 hk0 hk1
  go_enter Try.func8, Try.ntmps8
  go_wp2_with (first
    | (go_at_call 9; with_reducible refine (Hid.out H9).mono ?_; rintro e w1 ⟨mb, g, rfl, hg1, hf⟩; have HF := hidden hf; clear hf)
    | (refine wpList_allocSt rfl rfl ?_; rw [hg1]; rintro w2 hk2 hs2 hb2; have HK2 := hidden hk2; have HB2 := hidden hb2; clear hk2 hb2)
    | (refine wpList_storeSt rfl _ _ rfl g (stC 2147479536 4096 4100) rfl rfl (stC 0 0 0) (Hid.out HK2) (stC_size _ _ _) (stC_size _ _ _) (stC_one _ _ _) ?_; rintro w3 hk3 ho3; have H24 := hidden (Hid.out HF w2 w3 hk3 (Hid.out HB2) ho3); clear hk3 ho3)
    | (go_at_call 24; with_reducible refine (Hid.out H24).mono ?_; rintro e w4 ⟨ao, cap, rfl, hk4, hb4⟩; have c29 : w4.cell? ⟨g, 29, none⟩ = some (.int .u32 2147479536) := hk4.cell rfl; have c34 : w4.cell? ⟨g, 34, none⟩ = some (.int .u32 4096) := hk4.cell rfl; have HB4 := hidden hb4; clear hk4 hb4))
  go_ret
  exact ⟨rfl, by rw [hn]; exact Hid.out HB4⟩
end Go.Proofs.Ytpknppicamefgaa

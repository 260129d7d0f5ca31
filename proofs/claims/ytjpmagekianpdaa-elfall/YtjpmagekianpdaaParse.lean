/- What a file says. -/
import Derived.Test.YtjpmagekianpdaaSegsOf
import Derived.Test.YtjpmagekianpdaaEnter
namespace Go.Proofs.Ytjpmagekianpdaa
open Go.ChangeShapes Go.WideShapes Go.ChangeAt Go.RowKit
set_option linter.unusedVariables false
theorem zero26 {w : World} {g : Nat} (h : Blk w g #[.int .u32 0, .slice none 0 0] 26) : w.cell? ⟨g, 0, none⟩ = some (.int .u32 0) ∧ w.cell? ⟨g, 1, none⟩ = some (.slice none 0 0) ∧ g < w.heap.size ∧ ∀ j, w.frozen? ⟨g, j, none⟩ = false :=
  ⟨h.cell rfl, h.cell rfl, h.lt, fun j => frozen_of_row _ _ _ _ _ h⟩
theorem Blk.set2 {w : World} {g : Nat} {a b a' b' : Value} {T : TypeId} (h : Blk w g #[a, b] T) : Blk ((w.setCell ⟨g, 0, none⟩ a').setCell ⟨g, 1, none⟩ b') g #[a', b'] T := by
  have h1 := heap_setCell_same w g 0 _ _ a' h
  exact heap_setCell_same _ g 1 _ _ b' h1
theorem below_set2 {w u : World} {g : Nat} {a' b' : Value} {B : Nat} (h : Below B u w) (hg : B ≤ g) : Below B u ((w.setCell ⟨g, 0, none⟩ a').setCell ⟨g, 1, none⟩ b') :=
  (h.setCell (p := ⟨g, 0, none⟩) hg _).setCell (p := ⟨g, 1, none⟩) hg _
theorem SegAt.set {w : World} {b o g j : Nat} {v : Value} {s : Sg} (h : SegAt w b o s) (hne : b ≠ g) : SegAt (w.setCell ⟨g, j, none⟩ v) b o s := by
  have e : (w.setCell ⟨g, j, none⟩ v).heap[b]? = w.heap[b]? := Below.heap_setCell _ _ _ _ hne
  exact ⟨(World.cell?_of_block (a := ⟨b, o, none⟩) e).trans h.c0, (World.cell?_of_block (a := ⟨b, o + 1, none⟩) e).trans h.c1, (World.cell?_of_block (a := ⟨b, o + 2, none⟩) e).trans h.c2, (World.cell?_of_block (a := ⟨b, o + 3, none⟩) e).trans h.c3, h.fit⟩
/-- Segments are not in the block of a file's two cells. -/
theorem Segs.set {w : World} {ao : Option Addr} {l : List Sg} {g j : Nat} {v : Value} (h : Segs w ao l) (hg : ∀ b off, ao = some ⟨b, off, none⟩ → l ≠ [] → b ≠ g) : Segs (w.setCell ⟨g, j, none⟩ v) ao l := by
  by_cases h0 : l = []
  · exact .inl h0
  rcases h with h | ⟨b, off, e, hlt, h⟩
  · exact .inl h
  · exact .inr ⟨b, off, e, by simpa [World.setCell] using hlt, fun j hj => (h j hj).set (hg b off e h0)⟩
theorem segs_ne {w : World} {ao : Option Addr} {l : List Sg} {g : Nat} {e : Value} (h : Segs w ao l) (hb : Blk w g #[e, .slice none 0 0] 26) : ∀ b off, ao = some ⟨b, off, none⟩ → l ≠ [] → b ≠ g := by
  rintro b off rfl h0 rfl
  rcases h with h | ⟨b', off', e', hlt, h⟩
  · exact h0 h
  · cases e'
    have h1 := (h 0 (by cases l <;> simp_all)).c1
    have h2 := (h 0 (by cases l <;> simp_all)).c3
    rw [cell_of_row _ _ _ _ _ _ hb] at h1 h2
    have a1 := (Array.getElem?_eq_some_iff.1 h2).1
    simp at a1
    omega
set_option maxRecDepth 20000 in
set_option maxHeartbeats 4000000 in
theorem parse_any (w : World) (ao : Option Addr) (l : List UInt8) (cap : Nat) (h : Row w ao l cap) (hl : l.length ≤ 20000) : Calls Try.prog 10 #[.slice ao l.length cap] w fun e w' => ∃ ao' cap', e = .returned (.tuple #[.agg #[.int .u32 ((parseE l).1 : Int), .slice ao' (parseE l).2.1.length cap'], .int .i64 ((parseE l).2.2 : Int)]) ∧ Segs w' ao' (parseE l).2.1 ∧ (parseE l).2.1.length ≤ cap' ∧ cap' ≤ 9223372036854775807 ∧ Below w.heap.size w w' := by
  have hb0 := below_new w (.cells #[.int .u32 0, .slice none 0 0] 26)
  have HB0 := hidden hb0
  have HZ := hidden (Blk.new w #[.int .u32 0, .slice none 0 0] 26)
  have H20 : Hid (Calls Try.prog 20 #[.slice ao l.length cap] (w.alloc (.cells #[.int .u32 0, .slice none 0 0] 26)) fun e w' => e = .returned (.int .i64 (headE l : Int)) ∧ Below (w.alloc (.cells #[.int .u32 0, .slice none 0 0] 26)).heap.size (w.alloc (.cells #[.int .u32 0, .slice none 0 0] 26)) w') := headerError_any _ ao l cap (h.later hb0) hl
  clear hb0
  by_cases h1 : headE l = 0
  case neg =>
    have e1 : parseE l = (0, [], headE l) := by unfold parseE; rw [if_pos h1]
    rw [e1]
    simp only
    have k1 : ¬ ((headE l : Nat) : Int) = 0 := by omega
    generalize headE l = c at H20 k1
    clear h
    go_enter Try.func10, Try.ntmps10
    go_wp2_with (first | (go_at_call 20; with_reducible refine (Hid.out H20).mono ?_; rintro e wa ⟨rfl, hb⟩; have HA := hidden (bthen (Hid.out HB0) hb); have HZA := hidden (Blk.later (Hid.out HZ) hb); obtain ⟨z0, z1, hzl, hzf⟩ := zero26 (Hid.out HZA); clear hb))
    have hf : Blk _ w.heap.size _ 26 := (Hid.out HZA).set2 (a' := .int .u32 0) (b' := .slice none 0 0)
    have hbf := below_set2 (a' := .int .u32 0) (b' := .slice none 0 0) (g := w.heap.size) (Hid.out HA) (Nat.le_refl _)
    generalize World.setCell _ _ _ = wf at hf hbf ⊢
    have f0 : wf.cell? ⟨w.heap.size, 0, none⟩ = some (.int .u32 0) := hf.cell rfl
    have f1 : wf.cell? ⟨w.heap.size, 1, none⟩ = some (.slice none 0 0) := hf.cell rfl
    exact bodyPost_ret (v := .tuple #[.agg #[.int .u32 0, .slice none 0 0], .int .i64 (c : Int)]) (by simp [results, Try.results10, go_sem, f0, f1]) rfl ⟨none, 0, rfl, .inl rfl, by simp, by omega, hbf⟩
  rw [h1] at H20
  have h52 : 52 ≤ l.length := by
    unfold headE at h1
    by_cases a : 16384 < l.length
    · rw [if_pos a] at h1; simp at h1
    · rw [if_neg a] at h1
      by_cases b : l.length < 52
      · rw [if_pos b] at h1; simp at h1
      · omega
  have H21 : Hid (∀ w1, Below w.heap.size w w1 → Calls Try.prog 21 #[.slice ao l.length cap] w1 fun e w' => ∃ ao', e = .returned (.tuple #[.slice ao' (tableT l).length (tableT l).length, .bool (tableE l)]) ∧ Row w' ao' (tableT l) (tableT l).length ∧ Below w1.heap.size w1 w') := fun w1 hb => tableOf_any w1 ao l cap (h.later hb) hl h52
  cases h2 : tableE l
  case false =>
    have e1 : parseE l = (0, [], 9) := by unfold parseE; rw [if_neg (by rw [h1]; simp), if_pos h2]
    rw [e1]
    simp only
    rw [h2] at H21
    clear h
    generalize (tableT l).length = tn at H21
    go_enter Try.func10, Try.ntmps10
    go_wp2_with (first | (go_at_call 20; with_reducible refine (Hid.out H20).mono ?_; rintro e wa ⟨rfl, hb⟩; have HA := hidden (bthen (Hid.out HB0) hb); have HZA := hidden (Blk.later (Hid.out HZ) hb);  clear hb) | (go_at_call 21; with_reducible refine (Hid.out H21 wa (Hid.out HA)).mono ?_; rintro e wb ⟨ta, rfl, hrt, hb⟩; have HB := hidden (bthen (Hid.out HA) hb); have HZB := hidden (Blk.later (Hid.out HZA) hb); have HRT := hidden hrt; obtain ⟨z0, z1, hzl, hzf⟩ := zero26 (Hid.out HZB); clear hb hrt))
    have hf : Blk _ w.heap.size _ 26 := (Hid.out HZB).set2 (a' := .int .u32 0) (b' := .slice none 0 0)
    have hbf := below_set2 (a' := .int .u32 0) (b' := .slice none 0 0) (g := w.heap.size) (Hid.out HB) (Nat.le_refl _)
    generalize World.setCell _ _ _ = wf at hf hbf ⊢
    have f0 : wf.cell? ⟨w.heap.size, 0, none⟩ = some (.int .u32 0) := hf.cell rfl
    have f1 : wf.cell? ⟨w.heap.size, 1, none⟩ = some (.slice none 0 0) := hf.cell rfl
    exact bodyPost_ret (v := .tuple #[.agg #[.int .u32 0, .slice none 0 0], .int .i64 9]) (by simp [results, Try.results10, go_sem, f0, f1]) rfl ⟨none, 0, rfl, .inl rfl, by simp, by omega, hbf⟩
  rw [h2] at H21
  have hn8 : w16 l 44 ≤ 8 := by
    have := h2
    unfold tableE at this
    rw [Bool.and_eq_true] at this
    simpa using this.1
  have htab : w16 l 44 = 0 ∨ w32 l 28 + 32 * w16 l 44 ≤ l.length := by
    have := h2
    unfold tableE at this
    rw [Bool.and_eq_true, Bool.or_eq_true, Bool.and_eq_true] at this
    rcases this.2 with a | a
    · exact .inl (by simpa using a)
    · exact .inr (by simpa using a.2)
  have htl : (tableT l).length = 32 * w16 l 44 := by
    unfold tableT
    rw [if_pos h2, List.length_take, List.length_drop]
    rcases htab with a | a <;> omega
  have hsegs : segsT l (w16 l 44) (tableT l) [] = segsE l (w16 l 44) (w32 l 28) [] := by
    unfold tableT
    rw [if_pos h2]
    rcases htab with a | a
    · rw [a]; rfl
    · exact segsT_E l _ _ _ a
  have H22 : Hid (∀ w1 ta, Below w.heap.size w w1 → Row w1 ta (tableT l) (tableT l).length → Calls Try.prog 22 #[.slice ao l.length cap, .slice ta (tableT l).length (tableT l).length] w1 fun e w' => ∃ v ok, e = .returned (.tuple #[v, .bool ok]) ∧ Below w1.heap.size w1 w' ∧ ((segsE l (w16 l 44) (w32 l 28) [] = none ∧ ok = false ∧ v = .slice none 0 0) ∨ (∃ acc ao' cap', segsE l (w16 l 44) (w32 l 28) [] = some acc ∧ ok = true ∧ v = .slice ao' acc.length cap' ∧ Segs w' ao' acc ∧ acc.length ≤ cap' ∧ cap' ≤ 9223372036854775807))) := by
    intro w1 ta hb hr
    have := segmentsOf_any w1 ao ta l (tableT l) cap (w16 l 44) (tableT l).length (h.later hb) hl hr rfl htl hn8
    rw [hsegs] at this
    exact this
  generalize (tableT l).length = tn at H21 H22 htl
  cases h3 : segsE l (w16 l 44) (w32 l 28) []
  case none =>
    have e1 : parseE l = (0, [], 10) := by unfold parseE; rw [if_neg (by rw [h1]; simp), if_neg (by rw [h2]; simp), h3]
    rw [e1]
    simp only
    have H22 : Hid (∀ w1 ta, Below w.heap.size w w1 → Row w1 ta (tableT l) tn → Calls Try.prog 22 #[.slice ao l.length cap, .slice ta tn tn] w1 fun e w' => e = .returned (.tuple #[.slice none 0 0, .bool false]) ∧ Below w1.heap.size w1 w') := by
      intro w1 ta hb hr
      refine (Hid.out H22 w1 ta hb hr).mono ?_
      rintro e w' ⟨v, ok, he, hb', hc⟩
      rw [h3] at hc
      rcases hc with ⟨_, rfl, rfl⟩ | ⟨acc, _, _, hc, _⟩
      · exact ⟨he, hb'⟩
      · simp at hc
    clear h htl hsegs htab hn8 h3 h2 h1
    go_enter Try.func10, Try.ntmps10
    go_wp2_with (first | (go_at_call 20; with_reducible refine (Hid.out H20).mono ?_; rintro e wa ⟨rfl, hb⟩; have HA := hidden (bthen (Hid.out HB0) hb); have HZA := hidden (Blk.later (Hid.out HZ) hb);  clear hb) | (go_at_call 21; with_reducible refine (Hid.out H21 wa (Hid.out HA)).mono ?_; rintro e wb ⟨ta, rfl, hrt, hb⟩; have HB := hidden (bthen (Hid.out HA) hb); have HZB := hidden (Blk.later (Hid.out HZA) hb); have HRT := hidden hrt;  clear hb hrt) | (go_at_call 22; with_reducible refine (Hid.out H22 wb ta (Hid.out HB) (Hid.out HRT)).mono ?_; rintro e wc ⟨rfl, hb⟩; have HC := hidden (bthen (Hid.out HB) hb); have HZC := hidden (Blk.later (Hid.out HZB) hb); obtain ⟨z0, z1, hzl, hzf⟩ := zero26 (Hid.out HZC); clear hb))
    have hf : Blk _ w.heap.size _ 26 := (Hid.out HZC).set2 (a' := .int .u32 0) (b' := .slice none 0 0)
    have hbf := below_set2 (a' := .int .u32 0) (b' := .slice none 0 0) (g := w.heap.size) (Hid.out HC) (Nat.le_refl _)
    generalize World.setCell _ _ _ = wf at hf hbf ⊢
    have f0 : wf.cell? ⟨w.heap.size, 0, none⟩ = some (.int .u32 0) := hf.cell rfl
    have f1 : wf.cell? ⟨w.heap.size, 1, none⟩ = some (.slice none 0 0) := hf.cell rfl
    exact bodyPost_ret (v := .tuple #[.agg #[.int .u32 0, .slice none 0 0], .int .i64 10]) (by simp [results, Try.results10, go_sem, f0, f1]) rfl ⟨none, 0, rfl, .inl rfl, by simp, by omega, hbf⟩
  case some acc =>
  have H22 : Hid (∀ w1 ta, Below w.heap.size w w1 → Row w1 ta (tableT l) tn → Calls Try.prog 22 #[.slice ao l.length cap, .slice ta tn tn] w1 fun e w' => ∃ sa sc, e = .returned (.tuple #[.slice sa acc.length sc, .bool true]) ∧ Below w1.heap.size w1 w' ∧ Segs w' sa acc ∧ acc.length ≤ sc ∧ sc ≤ 9223372036854775807) := by
    intro w1 ta hb hr
    refine (Hid.out H22 w1 ta hb hr).mono ?_
    rintro e w' ⟨v, ok, he, hb', hc⟩
    rw [h3] at hc
    rcases hc with ⟨hc, _⟩ | ⟨acc', sa, sc, hc, rfl, rfl, a1, a2, a3⟩
    · simp at hc
    · simp only [Option.some.injEq] at hc
      subst hc
      exact ⟨sa, sc, he, hb', a1, a2, a3⟩
  have H23 : Hid (∀ w1, Below w.heap.size w w1 → Calls Try.prog 23 #[.slice ao l.length cap, .int .i64 24] w1 fun e w' => e = .returned (.int .u32 (w32 l 24 : Int)) ∧ Below w1.heap.size w1 w') := fun w1 hb => bword_any w1 ao l cap 24 (h.later hb) (by omega) hl
  have hw := w32_lt l 24
  have hp : parseE l = if checkE (w32 l 24) acc ≠ 0 then (0, [], checkE (w32 l 24) acc) else (w32 l 24, acc, 0) := by unfold parseE; rw [if_neg (by rw [h1]; simp), if_neg (by rw [h2]; simp), h3]
  clear h htl hsegs htab hn8 h3 h2 h1
  generalize w32 l 24 = ent at H23 hw hp
  have H16 : Hid (∀ w1 sa sc, Segs w1 sa acc → acc.length ≤ sc → sc ≤ 9223372036854775807 → Calls Try.prog 16 #[.agg #[.int .u32 (ent : Int), .slice sa acc.length sc]] (w1.alloc (.cells #[.int .u32 (ent : Int), .slice sa acc.length sc] 26)) fun e w' => e = .returned (.int .i64 (checkE ent acc : Int)) ∧ Below w1.heap.size w1 w' ∧ Blk w' w1.heap.size #[.int .u32 (ent : Int), .slice sa acc.length sc] 26) := by
    intro w1 sa sc a1 a2 a3
    refine (check_any _ sa sc ent acc (a1.later (below_new w1 _)) a2 a3 hw).mono ?_
    rintro e w' ⟨h1, h2⟩
    exact ⟨h1, bthen (below_new w1 _) h2, (Blk.new w1 _ 26).later h2⟩
  by_cases h4 : checkE ent acc = 0
  case neg =>
    rw [hp, if_pos h4]
    simp only
    have k4 : ¬ ((checkE ent acc : Nat) : Int) = 0 := by omega
    clear hp
    generalize checkE ent acc = c at H16 k4
    go_enter Try.func10, Try.ntmps10
    go_wp2_with (first | (go_at_call 20; with_reducible refine (Hid.out H20).mono ?_; rintro e wa ⟨rfl, hb⟩; have HA := hidden (bthen (Hid.out HB0) hb); have HZA := hidden (Blk.later (Hid.out HZ) hb);  clear hb) | (go_at_call 21; with_reducible refine (Hid.out H21 wa (Hid.out HA)).mono ?_; rintro e wb ⟨ta, rfl, hrt, hb⟩; have HB := hidden (bthen (Hid.out HA) hb); have HZB := hidden (Blk.later (Hid.out HZA) hb); have HRT := hidden hrt;  clear hb hrt) | (go_at_call 22; with_reducible refine (Hid.out H22 wb ta (Hid.out HB) (Hid.out HRT)).mono ?_; rintro e wc ⟨sa, sc, rfl, hb, hsg, hsl, hsm⟩; have HC := hidden (bthen (Hid.out HB) hb); have HZC := hidden (Blk.later (Hid.out HZB) hb); have HSG := hidden hsg; clear hb hsg) | (go_at_call 23; with_reducible refine (Hid.out H23 wc (Hid.out HC)).mono ?_; rintro e wd ⟨rfl, hb⟩; have HD := hidden (bthen (Hid.out HC) hb); have HZD := hidden (Blk.later (Hid.out HZC) hb); have HSD := hidden (Segs.later (Hid.out HSG) hb); clear hb) | (go_at_call 16; with_reducible refine (Hid.out H16 wd sa sc (Hid.out HSD) hsl hsm).mono ?_; rintro e we ⟨rfl, hb, hf⟩; have HE := hidden (bthen (Hid.out HD) hb); have HZE := hidden (Blk.later (Hid.out HZD) hb); have HSE := hidden (Segs.later (Hid.out HSD) hb); have HFE := hidden hf; obtain ⟨z0, z1, hzl, hzf⟩ := zero26 (Hid.out HZE); clear hb hf))
    have hf : Blk _ w.heap.size _ 26 := (Hid.out HZE).set2 (a' := .int .u32 0) (b' := .slice none 0 0)
    have hbf := below_set2 (a' := .int .u32 0) (b' := .slice none 0 0) (g := w.heap.size) (Hid.out HE) (Nat.le_refl _)
    generalize World.setCell _ _ _ = wf at hf hbf ⊢
    have f0 : wf.cell? ⟨w.heap.size, 0, none⟩ = some (.int .u32 0) := hf.cell rfl
    have f1 : wf.cell? ⟨w.heap.size, 1, none⟩ = some (.slice none 0 0) := hf.cell rfl
    exact bodyPost_ret (v := .tuple #[.agg #[.int .u32 0, .slice none 0 0], .int .i64 (c : Int)]) (by simp [results, Try.results10, go_sem, f0, f1]) rfl ⟨none, 0, rfl, .inl rfl, by simp, by omega, hbf⟩
  rw [hp, if_neg (by rw [h4]; simp)]
  rw [h4] at H16
  simp only
  clear hp h4
  go_enter Try.func10, Try.ntmps10
  go_wp2_with (first | (go_at_call 20; with_reducible refine (Hid.out H20).mono ?_; rintro e wa ⟨rfl, hb⟩; have HA := hidden (bthen (Hid.out HB0) hb); have HZA := hidden (Blk.later (Hid.out HZ) hb);  clear hb) | (go_at_call 21; with_reducible refine (Hid.out H21 wa (Hid.out HA)).mono ?_; rintro e wb ⟨ta, rfl, hrt, hb⟩; have HB := hidden (bthen (Hid.out HA) hb); have HZB := hidden (Blk.later (Hid.out HZA) hb); have HRT := hidden hrt;  clear hb hrt) | (go_at_call 22; with_reducible refine (Hid.out H22 wb ta (Hid.out HB) (Hid.out HRT)).mono ?_; rintro e wc ⟨sa, sc, rfl, hb, hsg, hsl, hsm⟩; have HC := hidden (bthen (Hid.out HB) hb); have HZC := hidden (Blk.later (Hid.out HZB) hb); have HSG := hidden hsg; clear hb hsg) | (go_at_call 23; with_reducible refine (Hid.out H23 wc (Hid.out HC)).mono ?_; rintro e wd ⟨rfl, hb⟩; have HD := hidden (bthen (Hid.out HC) hb); have HZD := hidden (Blk.later (Hid.out HZC) hb); have HSD := hidden (Segs.later (Hid.out HSG) hb); clear hb) | (go_at_call 16; with_reducible refine (Hid.out H16 wd sa sc (Hid.out HSD) hsl hsm).mono ?_; rintro e we ⟨rfl, hb, hf⟩; have HE := hidden (bthen (Hid.out HD) hb); have HZE := hidden (Blk.later (Hid.out HZD) hb); have HSE := hidden (Segs.later (Hid.out HSD) hb); have HFE := hidden hf; obtain ⟨z0, z1, hzl, hzf⟩ := zero26 (Hid.out HZE); have g0 : we.cell? ⟨wd.heap.size, 0, none⟩ = some (.int .u32 (ent : Int)) := Blk.cell hf rfl; have g1 : we.cell? ⟨wd.heap.size, 1, none⟩ = some (.slice sa acc.length sc) := Blk.cell hf rfl; have hgl := Blk.lt hf; clear hb hf))
  have hf : Blk _ w.heap.size _ 26 := (Hid.out HZE).set2 (a' := .int .u32 (ent : Int)) (b' := .slice sa acc.length sc)
  have hbf := below_set2 (a' := .int .u32 (ent : Int)) (b' := .slice sa acc.length sc) (g := w.heap.size) (Hid.out HE) (Nat.le_refl _)
  have hsf := ((Hid.out HSE).set (j := 0) (v := .int .u32 (ent : Int)) (segs_ne (Hid.out HSE) (Hid.out HZE))).set (j := 1) (v := .slice sa acc.length sc) (segs_ne (Hid.out HSE) (Hid.out HZE))
  generalize World.setCell _ _ _ = wf at hf hbf hsf ⊢
  have f0 : wf.cell? ⟨w.heap.size, 0, none⟩ = some (.int .u32 (ent : Int)) := hf.cell rfl
  have f1 : wf.cell? ⟨w.heap.size, 1, none⟩ = some (.slice sa acc.length sc) := hf.cell rfl
  exact bodyPost_ret (v := .tuple #[.agg #[.int .u32 (ent : Int), .slice sa acc.length sc], .int .i64 0]) (by simp [results, Try.results10, go_sem, f0, f1]) rfl ⟨sa, sc, rfl, hsf, hsl, hsm, hbf⟩
end Go.Proofs.Ytjpmagekianpdaa

/- ElfSpoilt, walked. -/
import Derived.Test.YtjpmagekianpdaaBackW
namespace Go.Proofs.Ytjpmagekianpdaa
open Go.ChangeShapes Go.WideShapes Go.ChangeAt Go.RowKit
set_option linter.unusedVariables false
theorem cell_facts {w : World} {g : Nat} {a b c d : Value} (h : Blk w g #[a, b, c, d] 43) : w.cell? ⟨g, 0, none⟩ = some a ∧ w.cell? ⟨g, 1, none⟩ = some b ∧ w.cell? ⟨g, 2, none⟩ = some c ∧ w.cell? ⟨g, 3, none⟩ = some d ∧ g < w.heap.size ∧ ∀ j, w.frozen? ⟨g, j, none⟩ = false :=
  ⟨h.cell rfl, h.cell rfl, h.cell rfl, h.cell rfl, h.lt, fun j => frozen_of_row _ _ _ _ _ h⟩
theorem and_low (v k : Nat) (hv : v < 4294967296) (hk : 2 ^ k - 1 < 4294967296) : bits .and .u32 (v : Int) ((2 ^ k - 1 : Nat) : Int) = ((v % 2 ^ k : Nat) : Int) := by
  rw [u32_and_nat v (2 ^ k - 1) hv hk, Nat.and_two_pow_sub_one_eq_mod]
theorem check_bad {e : Nat} {s : Sg} (h : okB s = false) : checkE e [s] = 10 := by
  unfold checkE
  rw [if_neg (by simp), if_pos (by simp [h])]
theorem check_entry {e : Nat} {s : Sg} (h : okB s = true) (he : enterB e [s] = false) : checkE e [s] = 12 := by
  have hv : overB [s] = false := over_no (by
    intro a b h1 h2
    simp at h2
    omega)
  unfold checkE
  rw [if_neg (by simp), if_neg (by simp [h]), if_neg (by rw [hv]; simp), if_pos he]
theorem make_of {e c : Nat} {l : List Sg} (h : checkE e l = c) (hc : c ≠ 0) : makeE e l = ([], c) := by
  unfold makeE
  rw [if_pos (by rw [h]; exact hc), h]
theorem bad_fit {s : Sg} (h : fitsB s = false) : okB s = false := by
  unfold okB
  rw [h, Bool.and_false]
  rfl
theorem okS {d : List UInt8} {Z : Nat} {p : Int} (h0 : Z ≠ 0) (h1 : Z ≤ 16384) (h2 : d.length ≤ Z) (h3 : 0 ≤ p) (h4 : p ≤ 7) : okB ⟨65536, d, Z, p⟩ = true := by
  unfold okB fitsB
  simp only
  rw [decide_eq_true h0, decide_eq_true h1, decide_eq_true h2, decide_eq_true (show 65536 + Z ≤ 2147483648 by omega), decide_eq_true h3, decide_eq_true h4]
  rfl
set_option maxRecDepth 20000 in
set_option maxHeartbeats 2000000 in
theorem spoilt0 (w : World) (ao : Option Addr) (n cap v : Nat) (how : Int) (vs : List Nat) (h : Wds w ao vs) (hvs : ∀ x ∈ vs, x < 4294967296) (hn : vs.length = n) (hn0 : 0 < n) (hn5 : n ≤ 500) (hcap : n ≤ cap) (hmax : cap ≤ 9223372036854775807) (hv : v < 4294967296) (hc : how % 7 = 0) : Calls Try.prog 6 #[.slice ao n cap, .int .i64 how, .int .u32 (v : Int)] w fun e w' => e = .returned (.bool true) ∧ Below w.heap.size w w' := by
  obtain ⟨d, hd⟩ : ∃ d, d = vs.flatMap put32 := ⟨_, rfl⟩
  obtain ⟨Z, hZ⟩ : ∃ Z, Z = 4 * n + 256 := ⟨_, rfl⟩
  have hdl : d.length = 4 * n := by rw [hd, flat32_len, hn]
  have H19 : Hid (Calls Try.prog 19 #[.slice ao n cap] w fun e w' => ∃ g, e = .returned (.agg #[.int .u32 65536, .slice (some ⟨g, 0, none⟩) 1 1]) ∧ w.heap.size ≤ g ∧ Blk w' g #[.int .u32 65536, .string ⟨d.toArray⟩, .int .u32 (Z : Int), .int .i64 7] 43 ∧ Below w.heap.size w w') := by
    have := file_any w ao n cap vs h hvs hn hn5 hcap hmax
    rw [← hd, hn, ← hZ] at this
    exact this
  have H18 : Hid (∀ w, Calls Try.prog 18 #[.int .i64 how, .int .i64 7] w fun e w' => e = .returned (.int .i64 0) ∧ w' = w) := by
    intro w
    have := place_any how 7 (by omega) (by omega) w
    rw [hc] at this
    exact this
  have l1 : ¬ (500 : Int) < (n : Int) := by omega
  have l2 : ¬ (n : Int) = 0 := by omega
  have l3 : ((n : Int) == 0) = false := beq_eq_false_iff_ne.2 l2
  have q1 : (4 * (n : Int) - 1) % 4294967296 = 4 * (n : Int) - 1 := by omega
  have hck : checkE 65536 [⟨65536, d, 4 * n - 1, 7⟩] = 10 := check_bad (bad_fit (by
    unfold fitsB
    simp only
    rw [decide_eq_false (show ¬ d.length ≤ 4 * n - 1 by omega), Bool.and_false, Bool.false_and]))
  have H13 : Hid (∀ w1 g, Segs w1 (some ⟨g, 0, none⟩) [⟨65536, d, 4 * n - 1, 7⟩] → Calls Try.prog 13 #[.agg #[.int .u32 65536, .slice (some ⟨g, 0, none⟩) 1 1]] w1 fun e w' => ∃ va vc, e = .returned (.tuple #[.slice va 0 vc, .int .i64 10]) ∧ Below w1.heap.size w1 w') := by
    intro w1 g hs
    have := make_any w1 _ 1 (65536) [⟨65536, d, 4 * n - 1, 7⟩] hs (by simp) (by omega) (by omega)
    rw [make_of hck (by omega)] at this
    refine this.mono ?_
    rintro e w' ⟨v', h1, h2, h3⟩
    obtain ⟨va, vc, rfl, _⟩ := h2.row
    exact ⟨va, vc, h1, h3⟩
  have H16 : Hid (∀ w1 g, Segs w1 (some ⟨g, 0, none⟩) [⟨65536, d, 4 * n - 1, 7⟩] → Calls Try.prog 16 #[.agg #[.int .u32 65536, .slice (some ⟨g, 0, none⟩) 1 1]] w1 fun e w' => e = .returned (.int .i64 10) ∧ Below w1.heap.size w1 w') := by
    intro w1 g hs
    have := check_any w1 _ 1 (65536) [⟨65536, d, 4 * n - 1, 7⟩] hs (by simp) (by omega) (by omega)
    rw [hck] at this
    exact this
  have HU : Hid (∀ wb g, Blk wb g #[.int .u32 65536, .string ⟨d.toArray⟩, .int .u32 (Z : Int), .int .i64 7] 43 → Below w.heap.size w wb → w.heap.size ≤ g → Segs ((wb.setCell ⟨g, 2, none⟩ (.int .u32 (4 * (n : Int) - 1))).alloc (.cells #[.int .u32 65536, .slice (some ⟨g, 0, none⟩) 1 1] 26)) (some ⟨g, 0, none⟩) [⟨65536, d, 4 * n - 1, 7⟩] ∧ Blk ((wb.setCell ⟨g, 2, none⟩ (.int .u32 (4 * (n : Int) - 1))).alloc (.cells #[.int .u32 65536, .slice (some ⟨g, 0, none⟩) 1 1] 26)) wb.heap.size #[.int .u32 65536, .slice (some ⟨g, 0, none⟩) 1 1] 26 ∧ Below w.heap.size w ((wb.setCell ⟨g, 2, none⟩ (.int .u32 (4 * (n : Int) - 1))).alloc (.cells #[.int .u32 65536, .slice (some ⟨g, 0, none⟩) 1 1] 26))) := by
    intro wb g h1 h2 h3
    have hset : Blk (wb.setCell ⟨g, 2, none⟩ (.int .u32 (4 * (n : Int) - 1))) g #[.int .u32 65536, .string ⟨d.toArray⟩, .int .u32 (4 * (n : Int) - 1), .int .i64 7] 43 := heap_setCell_same _ g 2 _ _ _ h1
    have hnew := Blk.new (wb.setCell ⟨g, 2, none⟩ (.int .u32 (4 * (n : Int) - 1))) #[.int .u32 65536, .slice (some ⟨g, 0, none⟩) 1 1] 26
    rw [show (wb.setCell ⟨g, 2, none⟩ (.int .u32 (4 * (n : Int) - 1))).heap.size = wb.heap.size by simp [World.setCell]] at hnew
    refine ⟨segs_one (s := ⟨65536, d, 4 * n - 1, 7⟩) ?_ ⟨by show 65536 < _; omega, by show 4 * n - 1 < _; omega, by show d.length ≤ _; omega⟩, hnew, bthen (h2.setCell (p := ⟨g, 2, none⟩) h3 _) (below_new _ _)⟩
    have := hset.later (below_new _ (.cells #[.int .u32 65536, .slice (some ⟨g, 0, none⟩) 1 1] 26))
    rw [show (4 : Int) * (n : Int) - 1 = ((4 * n - 1 : Nat) : Int) by omega] at this ⊢; exact this
  have HDL := hidden hdl
  have HZ := hidden hZ
  clear h hd hdl hc hn hvs
  clear hZ
  go_enter Try.func6, Try.ntmps6
  go_wp2_with (first | (go_at_call 19; with_reducible refine (Hid.out H19).mono ?_; rintro e wb ⟨g, rfl, hgw, hg, hb⟩; have HG := hidden hg; have HB := hidden hb; have HGW := hidden hgw; obtain ⟨y0, y1, y2, y3, hyl, hyf⟩ := cell_facts hg; clear hb hg hgw) | (go_at_call 18; with_reducible refine (Hid.out H18 _).mono ?_; rintro e w18 ⟨rfl, hww⟩; rw [hww]; clear hww w18) | (go_at_call 13; obtain ⟨hs, hf, hbu⟩ := Hid.out HU wb g (Hid.out HG) (Hid.out HB) (Hid.out HGW); with_reducible refine (Hid.out H13 _ _ hs).mono ?_; rintro e wc ⟨va, vc, rfl, hb⟩; have HC := hidden (bthen hbu hb); have HSC := hidden (Segs.later hs hb); have hfc := Blk.later hf hb; have z0 : wc.cell? ⟨wb.heap.size, 0, none⟩ = some (.int .u32 65536) := Blk.cell hfc rfl; have z1 : wc.cell? ⟨wb.heap.size, 1, none⟩ = some (.slice (some ⟨g, 0, none⟩) 1 1) := Blk.cell hfc rfl; have hzl := Blk.lt hfc; clear hb hs hf hbu hfc) | (go_at_call 16; with_reducible refine (Hid.out H16 _ _ (Hid.out HSC)).mono ?_; rintro e wd ⟨rfl, hb⟩; have HD := hidden (bthen (Hid.out HC) hb); clear hb) | (go_at_call 9; with_reducible refine (awake_any _).mono ?_; rintro e we ⟨rfl, hb⟩; have HE := hidden (bthen (Hid.out HD) hb); clear hb))
  go_ret
  exact ⟨rfl, Hid.out HE⟩
set_option maxRecDepth 20000 in
set_option maxHeartbeats 2000000 in
theorem spoilt1 (w : World) (ao : Option Addr) (n cap v : Nat) (how : Int) (vs : List Nat) (h : Wds w ao vs) (hvs : ∀ x ∈ vs, x < 4294967296) (hn : vs.length = n) (hn0 : 0 < n) (hn5 : n ≤ 500) (hcap : n ≤ cap) (hmax : cap ≤ 9223372036854775807) (hv : v < 4294967296) (hc : how % 7 = 1) : Calls Try.prog 6 #[.slice ao n cap, .int .i64 how, .int .u32 (v : Int)] w fun e w' => e = .returned (.bool true) ∧ Below w.heap.size w w' := by
  obtain ⟨d, hd⟩ : ∃ d, d = vs.flatMap put32 := ⟨_, rfl⟩
  obtain ⟨Z, hZ⟩ : ∃ Z, Z = 4 * n + 256 := ⟨_, rfl⟩
  have hdl : d.length = 4 * n := by rw [hd, flat32_len, hn]
  have H19 : Hid (Calls Try.prog 19 #[.slice ao n cap] w fun e w' => ∃ g, e = .returned (.agg #[.int .u32 65536, .slice (some ⟨g, 0, none⟩) 1 1]) ∧ w.heap.size ≤ g ∧ Blk w' g #[.int .u32 65536, .string ⟨d.toArray⟩, .int .u32 (Z : Int), .int .i64 7] 43 ∧ Below w.heap.size w w') := by
    have := file_any w ao n cap vs h hvs hn hn5 hcap hmax
    rw [← hd, hn, ← hZ] at this
    exact this
  have H18 : Hid (∀ w, Calls Try.prog 18 #[.int .i64 how, .int .i64 7] w fun e w' => e = .returned (.int .i64 1) ∧ w' = w) := by
    intro w
    have := place_any how 7 (by omega) (by omega) w
    rw [hc] at this
    exact this
  have l1 : ¬ (500 : Int) < (n : Int) := by omega
  have l2 : ¬ (n : Int) = 0 := by omega
  have l3 : ((n : Int) == 0) = false := beq_eq_false_iff_ne.2 l2
  obtain ⟨r, hr, hrE⟩ : ∃ r : Nat, r < 8 ∧ bits .and .u32 (v : Int) 7 = (r : Int) := ⟨v % 8, Nat.mod_lt _ (by omega), and_low v 3 hv (by decide)⟩
  have hck : checkE 65536 [⟨65536, d, Z, 8 + (r : Int)⟩] = 10 := check_bad (by
    unfold okB
    simp only
    rw [decide_eq_false (show ¬ 8 + (r : Int) ≤ 7 by omega), Bool.and_false])
  have H13 : Hid (∀ w1 g, Segs w1 (some ⟨g, 0, none⟩) [⟨65536, d, Z, 8 + (r : Int)⟩] → Calls Try.prog 13 #[.agg #[.int .u32 65536, .slice (some ⟨g, 0, none⟩) 1 1]] w1 fun e w' => ∃ va vc, e = .returned (.tuple #[.slice va 0 vc, .int .i64 10]) ∧ Below w1.heap.size w1 w') := by
    intro w1 g hs
    have := make_any w1 _ 1 (65536) [⟨65536, d, Z, 8 + (r : Int)⟩] hs (by simp) (by omega) (by omega)
    rw [make_of hck (by omega)] at this
    refine this.mono ?_
    rintro e w' ⟨v', h1, h2, h3⟩
    obtain ⟨va, vc, rfl, _⟩ := h2.row
    exact ⟨va, vc, h1, h3⟩
  have H16 : Hid (∀ w1 g, Segs w1 (some ⟨g, 0, none⟩) [⟨65536, d, Z, 8 + (r : Int)⟩] → Calls Try.prog 16 #[.agg #[.int .u32 65536, .slice (some ⟨g, 0, none⟩) 1 1]] w1 fun e w' => e = .returned (.int .i64 10) ∧ Below w1.heap.size w1 w') := by
    intro w1 g hs
    have := check_any w1 _ 1 (65536) [⟨65536, d, Z, 8 + (r : Int)⟩] hs (by simp) (by omega) (by omega)
    rw [hck] at this
    exact this
  have HU : Hid (∀ wb g, Blk wb g #[.int .u32 65536, .string ⟨d.toArray⟩, .int .u32 (Z : Int), .int .i64 7] 43 → Below w.heap.size w wb → w.heap.size ≤ g → Segs ((wb.setCell ⟨g, 3, none⟩ (.int .i64 (8 + (r : Int)))).alloc (.cells #[.int .u32 65536, .slice (some ⟨g, 0, none⟩) 1 1] 26)) (some ⟨g, 0, none⟩) [⟨65536, d, Z, 8 + (r : Int)⟩] ∧ Blk ((wb.setCell ⟨g, 3, none⟩ (.int .i64 (8 + (r : Int)))).alloc (.cells #[.int .u32 65536, .slice (some ⟨g, 0, none⟩) 1 1] 26)) wb.heap.size #[.int .u32 65536, .slice (some ⟨g, 0, none⟩) 1 1] 26 ∧ Below w.heap.size w ((wb.setCell ⟨g, 3, none⟩ (.int .i64 (8 + (r : Int)))).alloc (.cells #[.int .u32 65536, .slice (some ⟨g, 0, none⟩) 1 1] 26))) := by
    intro wb g h1 h2 h3
    have hset : Blk (wb.setCell ⟨g, 3, none⟩ (.int .i64 (8 + (r : Int)))) g #[.int .u32 65536, .string ⟨d.toArray⟩, .int .u32 (Z : Int), .int .i64 (8 + (r : Int))] 43 := heap_setCell_same _ g 3 _ _ _ h1
    have hnew := Blk.new (wb.setCell ⟨g, 3, none⟩ (.int .i64 (8 + (r : Int)))) #[.int .u32 65536, .slice (some ⟨g, 0, none⟩) 1 1] 26
    rw [show (wb.setCell ⟨g, 3, none⟩ (.int .i64 (8 + (r : Int)))).heap.size = wb.heap.size by simp [World.setCell]] at hnew
    refine ⟨segs_one (s := ⟨65536, d, Z, 8 + (r : Int)⟩) ?_ ⟨by show 65536 < _; omega, by show Z < _; omega, by show d.length ≤ _; omega⟩, hnew, bthen (h2.setCell (p := ⟨g, 3, none⟩) h3 _) (below_new _ _)⟩
    have := hset.later (below_new _ (.cells #[.int .u32 65536, .slice (some ⟨g, 0, none⟩) 1 1] 26))
    exact this
  have HDL := hidden hdl
  have HZ := hidden hZ
  clear h hd hdl hc hn hvs
  clear hZ
  go_enter Try.func6, Try.ntmps6
  go_wp2_with (first | (go_at_call 19; with_reducible refine (Hid.out H19).mono ?_; rintro e wb ⟨g, rfl, hgw, hg, hb⟩; have HG := hidden hg; have HB := hidden hb; have HGW := hidden hgw; obtain ⟨y0, y1, y2, y3, hyl, hyf⟩ := cell_facts hg; clear hb hg hgw) | (go_at_call 18; with_reducible refine (Hid.out H18 _).mono ?_; rintro e w18 ⟨rfl, hww⟩; rw [hww]; clear hww w18) | (go_at_call 13; obtain ⟨hs, hf, hbu⟩ := Hid.out HU wb g (Hid.out HG) (Hid.out HB) (Hid.out HGW); with_reducible refine (Hid.out H13 _ _ hs).mono ?_; rintro e wc ⟨va, vc, rfl, hb⟩; have HC := hidden (bthen hbu hb); have HSC := hidden (Segs.later hs hb); have hfc := Blk.later hf hb; have z0 : wc.cell? ⟨wb.heap.size, 0, none⟩ = some (.int .u32 65536) := Blk.cell hfc rfl; have z1 : wc.cell? ⟨wb.heap.size, 1, none⟩ = some (.slice (some ⟨g, 0, none⟩) 1 1) := Blk.cell hfc rfl; have hzl := Blk.lt hfc; clear hb hs hf hbu hfc) | (go_at_call 16; with_reducible refine (Hid.out H16 _ _ (Hid.out HSC)).mono ?_; rintro e wd ⟨rfl, hb⟩; have HD := hidden (bthen (Hid.out HC) hb); clear hb) | (go_at_call 9; with_reducible refine (awake_any _).mono ?_; rintro e we ⟨rfl, hb⟩; have HE := hidden (bthen (Hid.out HD) hb); clear hb))
  go_ret
  exact ⟨rfl, Hid.out HE⟩
set_option maxRecDepth 20000 in
set_option maxHeartbeats 2000000 in
theorem spoilt2 (w : World) (ao : Option Addr) (n cap v : Nat) (how : Int) (vs : List Nat) (h : Wds w ao vs) (hvs : ∀ x ∈ vs, x < 4294967296) (hn : vs.length = n) (hn0 : 0 < n) (hn5 : n ≤ 500) (hcap : n ≤ cap) (hmax : cap ≤ 9223372036854775807) (hv : v < 4294967296) (hc : how % 7 = 2) : Calls Try.prog 6 #[.slice ao n cap, .int .i64 how, .int .u32 (v : Int)] w fun e w' => e = .returned (.bool true) ∧ Below w.heap.size w w' := by
  obtain ⟨d, hd⟩ : ∃ d, d = vs.flatMap put32 := ⟨_, rfl⟩
  obtain ⟨Z, hZ⟩ : ∃ Z, Z = 4 * n + 256 := ⟨_, rfl⟩
  have hdl : d.length = 4 * n := by rw [hd, flat32_len, hn]
  have H19 : Hid (Calls Try.prog 19 #[.slice ao n cap] w fun e w' => ∃ g, e = .returned (.agg #[.int .u32 65536, .slice (some ⟨g, 0, none⟩) 1 1]) ∧ w.heap.size ≤ g ∧ Blk w' g #[.int .u32 65536, .string ⟨d.toArray⟩, .int .u32 (Z : Int), .int .i64 7] 43 ∧ Below w.heap.size w w') := by
    have := file_any w ao n cap vs h hvs hn hn5 hcap hmax
    rw [← hd, hn, ← hZ] at this
    exact this
  have H18 : Hid (∀ w, Calls Try.prog 18 #[.int .i64 how, .int .i64 7] w fun e w' => e = .returned (.int .i64 2) ∧ w' = w) := by
    intro w
    have := place_any how 7 (by omega) (by omega) w
    rw [hc] at this
    exact this
  have l1 : ¬ (500 : Int) < (n : Int) := by omega
  have l2 : ¬ (n : Int) = 0 := by omega
  have l3 : ((n : Int) == 0) = false := beq_eq_false_iff_ne.2 l2
  obtain ⟨r, hr, hrE⟩ : ∃ r : Nat, r < 256 ∧ bits .and .u32 (v : Int) 255 = (r : Int) := ⟨v % 256, Nat.mod_lt _ (by omega), and_low v 8 hv (by decide)⟩
  have q1 : (2147483648 - (r : Int)) % 4294967296 = 2147483648 - (r : Int) := by omega
  have hck : checkE 65536 [⟨2147483648 - r, d, Z, 7⟩] = 10 := check_bad (bad_fit (by
    unfold fitsB
    simp only
    rw [decide_eq_false (show ¬ 2147483648 - r + Z ≤ 2147483648 by omega), Bool.and_false]))
  have H13 : Hid (∀ w1 g, Segs w1 (some ⟨g, 0, none⟩) [⟨2147483648 - r, d, Z, 7⟩] → Calls Try.prog 13 #[.agg #[.int .u32 65536, .slice (some ⟨g, 0, none⟩) 1 1]] w1 fun e w' => ∃ va vc, e = .returned (.tuple #[.slice va 0 vc, .int .i64 10]) ∧ Below w1.heap.size w1 w') := by
    intro w1 g hs
    have := make_any w1 _ 1 (65536) [⟨2147483648 - r, d, Z, 7⟩] hs (by simp) (by omega) (by omega)
    rw [make_of hck (by omega)] at this
    refine this.mono ?_
    rintro e w' ⟨v', h1, h2, h3⟩
    obtain ⟨va, vc, rfl, _⟩ := h2.row
    exact ⟨va, vc, h1, h3⟩
  have H16 : Hid (∀ w1 g, Segs w1 (some ⟨g, 0, none⟩) [⟨2147483648 - r, d, Z, 7⟩] → Calls Try.prog 16 #[.agg #[.int .u32 65536, .slice (some ⟨g, 0, none⟩) 1 1]] w1 fun e w' => e = .returned (.int .i64 10) ∧ Below w1.heap.size w1 w') := by
    intro w1 g hs
    have := check_any w1 _ 1 (65536) [⟨2147483648 - r, d, Z, 7⟩] hs (by simp) (by omega) (by omega)
    rw [hck] at this
    exact this
  have HU : Hid (∀ wb g, Blk wb g #[.int .u32 65536, .string ⟨d.toArray⟩, .int .u32 (Z : Int), .int .i64 7] 43 → Below w.heap.size w wb → w.heap.size ≤ g → Segs ((wb.setCell ⟨g, 0, none⟩ (.int .u32 (2147483648 - (r : Int)))).alloc (.cells #[.int .u32 65536, .slice (some ⟨g, 0, none⟩) 1 1] 26)) (some ⟨g, 0, none⟩) [⟨2147483648 - r, d, Z, 7⟩] ∧ Blk ((wb.setCell ⟨g, 0, none⟩ (.int .u32 (2147483648 - (r : Int)))).alloc (.cells #[.int .u32 65536, .slice (some ⟨g, 0, none⟩) 1 1] 26)) wb.heap.size #[.int .u32 65536, .slice (some ⟨g, 0, none⟩) 1 1] 26 ∧ Below w.heap.size w ((wb.setCell ⟨g, 0, none⟩ (.int .u32 (2147483648 - (r : Int)))).alloc (.cells #[.int .u32 65536, .slice (some ⟨g, 0, none⟩) 1 1] 26))) := by
    intro wb g h1 h2 h3
    have hset : Blk (wb.setCell ⟨g, 0, none⟩ (.int .u32 (2147483648 - (r : Int)))) g #[.int .u32 (2147483648 - (r : Int)), .string ⟨d.toArray⟩, .int .u32 (Z : Int), .int .i64 7] 43 := heap_setCell_same _ g 0 _ _ _ h1
    have hnew := Blk.new (wb.setCell ⟨g, 0, none⟩ (.int .u32 (2147483648 - (r : Int)))) #[.int .u32 65536, .slice (some ⟨g, 0, none⟩) 1 1] 26
    rw [show (wb.setCell ⟨g, 0, none⟩ (.int .u32 (2147483648 - (r : Int)))).heap.size = wb.heap.size by simp [World.setCell]] at hnew
    refine ⟨segs_one (s := ⟨2147483648 - r, d, Z, 7⟩) ?_ ⟨by show 2147483648 - r < _; omega, by show Z < _; omega, by show d.length ≤ _; omega⟩, hnew, bthen (h2.setCell (p := ⟨g, 0, none⟩) h3 _) (below_new _ _)⟩
    have := hset.later (below_new _ (.cells #[.int .u32 65536, .slice (some ⟨g, 0, none⟩) 1 1] 26))
    rw [show (2147483648 : Int) - (r : Int) = ((2147483648 - r : Nat) : Int) by omega] at this ⊢; exact this
  have HDL := hidden hdl
  have HZ := hidden hZ
  clear h hd hdl hc hn hvs
  clear hZ
  go_enter Try.func6, Try.ntmps6
  go_wp2_with (first | (go_at_call 19; with_reducible refine (Hid.out H19).mono ?_; rintro e wb ⟨g, rfl, hgw, hg, hb⟩; have HG := hidden hg; have HB := hidden hb; have HGW := hidden hgw; obtain ⟨y0, y1, y2, y3, hyl, hyf⟩ := cell_facts hg; clear hb hg hgw) | (go_at_call 18; with_reducible refine (Hid.out H18 _).mono ?_; rintro e w18 ⟨rfl, hww⟩; rw [hww]; clear hww w18) | (go_at_call 13; obtain ⟨hs, hf, hbu⟩ := Hid.out HU wb g (Hid.out HG) (Hid.out HB) (Hid.out HGW); with_reducible refine (Hid.out H13 _ _ hs).mono ?_; rintro e wc ⟨va, vc, rfl, hb⟩; have HC := hidden (bthen hbu hb); have HSC := hidden (Segs.later hs hb); have hfc := Blk.later hf hb; have z0 : wc.cell? ⟨wb.heap.size, 0, none⟩ = some (.int .u32 65536) := Blk.cell hfc rfl; have z1 : wc.cell? ⟨wb.heap.size, 1, none⟩ = some (.slice (some ⟨g, 0, none⟩) 1 1) := Blk.cell hfc rfl; have hzl := Blk.lt hfc; clear hb hs hf hbu hfc) | (go_at_call 16; with_reducible refine (Hid.out H16 _ _ (Hid.out HSC)).mono ?_; rintro e wd ⟨rfl, hb⟩; have HD := hidden (bthen (Hid.out HC) hb); clear hb) | (go_at_call 9; with_reducible refine (awake_any _).mono ?_; rintro e we ⟨rfl, hb⟩; have HE := hidden (bthen (Hid.out HD) hb); clear hb))
  go_ret
  exact ⟨rfl, Hid.out HE⟩
set_option maxRecDepth 20000 in
set_option maxHeartbeats 2000000 in
theorem spoilt6 (w : World) (ao : Option Addr) (n cap v : Nat) (how : Int) (vs : List Nat) (h : Wds w ao vs) (hvs : ∀ x ∈ vs, x < 4294967296) (hn : vs.length = n) (hn0 : 0 < n) (hn5 : n ≤ 500) (hcap : n ≤ cap) (hmax : cap ≤ 9223372036854775807) (hv : v < 4294967296) (hc : how % 7 = 6) : Calls Try.prog 6 #[.slice ao n cap, .int .i64 how, .int .u32 (v : Int)] w fun e w' => e = .returned (.bool true) ∧ Below w.heap.size w w' := by
  obtain ⟨d, hd⟩ : ∃ d, d = vs.flatMap put32 := ⟨_, rfl⟩
  obtain ⟨Z, hZ⟩ : ∃ Z, Z = 4 * n + 256 := ⟨_, rfl⟩
  have hdl : d.length = 4 * n := by rw [hd, flat32_len, hn]
  have H19 : Hid (Calls Try.prog 19 #[.slice ao n cap] w fun e w' => ∃ g, e = .returned (.agg #[.int .u32 65536, .slice (some ⟨g, 0, none⟩) 1 1]) ∧ w.heap.size ≤ g ∧ Blk w' g #[.int .u32 65536, .string ⟨d.toArray⟩, .int .u32 (Z : Int), .int .i64 7] 43 ∧ Below w.heap.size w w') := by
    have := file_any w ao n cap vs h hvs hn hn5 hcap hmax
    rw [← hd, hn, ← hZ] at this
    exact this
  have H18 : Hid (∀ w, Calls Try.prog 18 #[.int .i64 how, .int .i64 7] w fun e w' => e = .returned (.int .i64 6) ∧ w' = w) := by
    intro w
    have := place_any how 7 (by omega) (by omega) w
    rw [hc] at this
    exact this
  have l1 : ¬ (500 : Int) < (n : Int) := by omega
  have l2 : ¬ (n : Int) = 0 := by omega
  have l3 : ((n : Int) == 0) = false := beq_eq_false_iff_ne.2 l2
  have hck : checkE 65536 [⟨65536, d, Z, 6⟩] = 12 := check_entry (okS (by omega) (by omega) (by omega) (by omega) (by omega)) (by
    unfold enterB
    rw [Bool.and_eq_false_iff]
    right
    simp [runsB])
  have H13 : Hid (∀ w1 g, Segs w1 (some ⟨g, 0, none⟩) [⟨65536, d, Z, 6⟩] → Calls Try.prog 13 #[.agg #[.int .u32 65536, .slice (some ⟨g, 0, none⟩) 1 1]] w1 fun e w' => ∃ va vc, e = .returned (.tuple #[.slice va 0 vc, .int .i64 12]) ∧ Below w1.heap.size w1 w') := by
    intro w1 g hs
    have := make_any w1 _ 1 (65536) [⟨65536, d, Z, 6⟩] hs (by simp) (by omega) (by omega)
    rw [make_of hck (by omega)] at this
    refine this.mono ?_
    rintro e w' ⟨v', h1, h2, h3⟩
    obtain ⟨va, vc, rfl, _⟩ := h2.row
    exact ⟨va, vc, h1, h3⟩
  have H16 : Hid (∀ w1 g, Segs w1 (some ⟨g, 0, none⟩) [⟨65536, d, Z, 6⟩] → Calls Try.prog 16 #[.agg #[.int .u32 65536, .slice (some ⟨g, 0, none⟩) 1 1]] w1 fun e w' => e = .returned (.int .i64 12) ∧ Below w1.heap.size w1 w') := by
    intro w1 g hs
    have := check_any w1 _ 1 (65536) [⟨65536, d, Z, 6⟩] hs (by simp) (by omega) (by omega)
    rw [hck] at this
    exact this
  have HU : Hid (∀ wb g, Blk wb g #[.int .u32 65536, .string ⟨d.toArray⟩, .int .u32 (Z : Int), .int .i64 7] 43 → Below w.heap.size w wb → w.heap.size ≤ g → Segs ((wb.setCell ⟨g, 3, none⟩ (.int .i64 6)).alloc (.cells #[.int .u32 65536, .slice (some ⟨g, 0, none⟩) 1 1] 26)) (some ⟨g, 0, none⟩) [⟨65536, d, Z, 6⟩] ∧ Blk ((wb.setCell ⟨g, 3, none⟩ (.int .i64 6)).alloc (.cells #[.int .u32 65536, .slice (some ⟨g, 0, none⟩) 1 1] 26)) wb.heap.size #[.int .u32 65536, .slice (some ⟨g, 0, none⟩) 1 1] 26 ∧ Below w.heap.size w ((wb.setCell ⟨g, 3, none⟩ (.int .i64 6)).alloc (.cells #[.int .u32 65536, .slice (some ⟨g, 0, none⟩) 1 1] 26))) := by
    intro wb g h1 h2 h3
    have hset : Blk (wb.setCell ⟨g, 3, none⟩ (.int .i64 6)) g #[.int .u32 65536, .string ⟨d.toArray⟩, .int .u32 (Z : Int), .int .i64 6] 43 := heap_setCell_same _ g 3 _ _ _ h1
    have hnew := Blk.new (wb.setCell ⟨g, 3, none⟩ (.int .i64 6)) #[.int .u32 65536, .slice (some ⟨g, 0, none⟩) 1 1] 26
    rw [show (wb.setCell ⟨g, 3, none⟩ (.int .i64 6)).heap.size = wb.heap.size by simp [World.setCell]] at hnew
    refine ⟨segs_one (s := ⟨65536, d, Z, 6⟩) ?_ ⟨by show 65536 < _; omega, by show Z < _; omega, by show d.length ≤ _; omega⟩, hnew, bthen (h2.setCell (p := ⟨g, 3, none⟩) h3 _) (below_new _ _)⟩
    have := hset.later (below_new _ (.cells #[.int .u32 65536, .slice (some ⟨g, 0, none⟩) 1 1] 26))
    exact this
  have HDL := hidden hdl
  have HZ := hidden hZ
  clear h hd hdl hc hn hvs
  clear hZ
  go_enter Try.func6, Try.ntmps6
  go_wp2_with (first | (go_at_call 19; with_reducible refine (Hid.out H19).mono ?_; rintro e wb ⟨g, rfl, hgw, hg, hb⟩; have HG := hidden hg; have HB := hidden hb; have HGW := hidden hgw; obtain ⟨y0, y1, y2, y3, hyl, hyf⟩ := cell_facts hg; clear hb hg hgw) | (go_at_call 18; with_reducible refine (Hid.out H18 _).mono ?_; rintro e w18 ⟨rfl, hww⟩; rw [hww]; clear hww w18) | (go_at_call 13; obtain ⟨hs, hf, hbu⟩ := Hid.out HU wb g (Hid.out HG) (Hid.out HB) (Hid.out HGW); with_reducible refine (Hid.out H13 _ _ hs).mono ?_; rintro e wc ⟨va, vc, rfl, hb⟩; have HC := hidden (bthen hbu hb); have HSC := hidden (Segs.later hs hb); have hfc := Blk.later hf hb; have z0 : wc.cell? ⟨wb.heap.size, 0, none⟩ = some (.int .u32 65536) := Blk.cell hfc rfl; have z1 : wc.cell? ⟨wb.heap.size, 1, none⟩ = some (.slice (some ⟨g, 0, none⟩) 1 1) := Blk.cell hfc rfl; have hzl := Blk.lt hfc; clear hb hs hf hbu hfc) | (go_at_call 16; with_reducible refine (Hid.out H16 _ _ (Hid.out HSC)).mono ?_; rintro e wd ⟨rfl, hb⟩; have HD := hidden (bthen (Hid.out HC) hb); clear hb) | (go_at_call 9; with_reducible refine (awake_any _).mono ?_; rintro e we ⟨rfl, hb⟩; have HE := hidden (bthen (Hid.out HD) hb); clear hb))
  go_ret
  exact ⟨rfl, Hid.out HE⟩
set_option maxRecDepth 20000 in
set_option maxHeartbeats 2000000 in
theorem spoilt4 (w : World) (ao : Option Addr) (n cap v : Nat) (how : Int) (vs : List Nat) (h : Wds w ao vs) (hvs : ∀ x ∈ vs, x < 4294967296) (hn : vs.length = n) (hn0 : 0 < n) (hn5 : n ≤ 500) (hcap : n ≤ cap) (hmax : cap ≤ 9223372036854775807) (hv : v < 4294967296) (hc : how % 7 = 4) : Calls Try.prog 6 #[.slice ao n cap, .int .i64 how, .int .u32 (v : Int)] w fun e w' => e = .returned (.bool true) ∧ Below w.heap.size w w' := by
  obtain ⟨d, hd⟩ : ∃ d, d = vs.flatMap put32 := ⟨_, rfl⟩
  obtain ⟨Z, hZ⟩ : ∃ Z, Z = 4 * n + 256 := ⟨_, rfl⟩
  have hdl : d.length = 4 * n := by rw [hd, flat32_len, hn]
  have H19 : Hid (Calls Try.prog 19 #[.slice ao n cap] w fun e w' => ∃ g, e = .returned (.agg #[.int .u32 65536, .slice (some ⟨g, 0, none⟩) 1 1]) ∧ w.heap.size ≤ g ∧ Blk w' g #[.int .u32 65536, .string ⟨d.toArray⟩, .int .u32 (Z : Int), .int .i64 7] 43 ∧ Below w.heap.size w w') := by
    have := file_any w ao n cap vs h hvs hn hn5 hcap hmax
    rw [← hd, hn, ← hZ] at this
    exact this
  have H18 : Hid (∀ w, Calls Try.prog 18 #[.int .i64 how, .int .i64 7] w fun e w' => e = .returned (.int .i64 4) ∧ w' = w) := by
    intro w
    have := place_any how 7 (by omega) (by omega) w
    rw [hc] at this
    exact this
  have l1 : ¬ (500 : Int) < (n : Int) := by omega
  have l2 : ¬ (n : Int) = 0 := by omega
  have l3 : ((n : Int) == 0) = false := beq_eq_false_iff_ne.2 l2
  obtain ⟨r, hr, hrE⟩ : ∃ r : Nat, r < 1000 ∧ (v : Int) % 1000 = (r : Int) := ⟨v % 1000, Nat.mod_lt _ (by omega), by omega⟩
  obtain ⟨q, hq, hqE⟩ : ∃ q : Nat, q < 3 ∧ (v : Int) % 3 = (q : Int) := ⟨v % 3, Nat.mod_lt _ (by omega), by omega⟩
  have hck : checkE (65536 + 4 * r + 1 + q) [⟨65536, d, Z, 7⟩] = 12 := check_entry (okS (by omega) (by omega) (by omega) (by omega) (by omega)) (by
    unfold enterB
    rw [decide_eq_false (show ¬ (65536 + 4 * r + 1 + q) % 4 = 0 by omega), Bool.false_and])
  have H13 : Hid (∀ w1 g, Segs w1 (some ⟨g, 0, none⟩) [⟨65536, d, Z, 7⟩] → Calls Try.prog 13 #[.agg #[.int .u32 (65536 + 4 * (r : Int) + 1 + (q : Int)), .slice (some ⟨g, 0, none⟩) 1 1]] w1 fun e w' => ∃ va vc, e = .returned (.tuple #[.slice va 0 vc, .int .i64 12]) ∧ Below w1.heap.size w1 w') := by
    intro w1 g hs
    have := make_any w1 _ 1 (65536 + 4 * r + 1 + q) [⟨65536, d, Z, 7⟩] hs (by simp) (by omega) (by omega)
    rw [make_of hck (by omega), show ((65536 + 4 * r + 1 + q : Nat) : Int) = 65536 + 4 * (r : Int) + 1 + (q : Int) by omega] at this
    refine this.mono ?_
    rintro e w' ⟨v', h1, h2, h3⟩
    obtain ⟨va, vc, rfl, _⟩ := h2.row
    exact ⟨va, vc, h1, h3⟩
  have H16 : Hid (∀ w1 g, Segs w1 (some ⟨g, 0, none⟩) [⟨65536, d, Z, 7⟩] → Calls Try.prog 16 #[.agg #[.int .u32 (65536 + 4 * (r : Int) + 1 + (q : Int)), .slice (some ⟨g, 0, none⟩) 1 1]] w1 fun e w' => e = .returned (.int .i64 12) ∧ Below w1.heap.size w1 w') := by
    intro w1 g hs
    have := check_any w1 _ 1 (65536 + 4 * r + 1 + q) [⟨65536, d, Z, 7⟩] hs (by simp) (by omega) (by omega)
    rw [hck, show ((65536 + 4 * r + 1 + q : Nat) : Int) = 65536 + 4 * (r : Int) + 1 + (q : Int) by omega] at this
    exact this
  have HU : Hid (∀ wb g, Blk wb g #[.int .u32 65536, .string ⟨d.toArray⟩, .int .u32 (Z : Int), .int .i64 7] 43 → Below w.heap.size w wb → w.heap.size ≤ g → Segs (wb.alloc (.cells #[.int .u32 (65536 + 4 * (r : Int) + 1 + (q : Int)), .slice (some ⟨g, 0, none⟩) 1 1] 26)) (some ⟨g, 0, none⟩) [⟨65536, d, Z, 7⟩] ∧ Blk (wb.alloc (.cells #[.int .u32 (65536 + 4 * (r : Int) + 1 + (q : Int)), .slice (some ⟨g, 0, none⟩) 1 1] 26)) wb.heap.size #[.int .u32 (65536 + 4 * (r : Int) + 1 + (q : Int)), .slice (some ⟨g, 0, none⟩) 1 1] 26 ∧ Below w.heap.size w (wb.alloc (.cells #[.int .u32 (65536 + 4 * (r : Int) + 1 + (q : Int)), .slice (some ⟨g, 0, none⟩) 1 1] 26))) := by
    intro wb g h1 h2 h3
    exact ⟨segs_one (s := ⟨65536, d, Z, 7⟩) (h1.later (below_new _ _)) ⟨by show 65536 < _; omega, by show Z < _; omega, by show d.length ≤ _; omega⟩, Blk.new wb _ 26, bthen h2 (below_new _ _)⟩
  have HDL := hidden hdl
  have HZ := hidden hZ
  clear h hd hdl hc hn hvs
  clear hZ
  go_enter Try.func6, Try.ntmps6
  go_wp2_with (first | (go_at_call 19; with_reducible refine (Hid.out H19).mono ?_; rintro e wb ⟨g, rfl, hgw, hg, hb⟩; have HG := hidden hg; have HB := hidden hb; have HGW := hidden hgw; obtain ⟨y0, y1, y2, y3, hyl, hyf⟩ := cell_facts hg; clear hb hg hgw) | (go_at_call 18; with_reducible refine (Hid.out H18 _).mono ?_; rintro e w18 ⟨rfl, hww⟩; rw [hww]; clear hww w18) | (go_at_call 13; obtain ⟨hs, hf, hbu⟩ := Hid.out HU wb g (Hid.out HG) (Hid.out HB) (Hid.out HGW); with_reducible refine (Hid.out H13 _ _ hs).mono ?_; rintro e wc ⟨va, vc, rfl, hb⟩; have HC := hidden (bthen hbu hb); have HSC := hidden (Segs.later hs hb); have hfc := Blk.later hf hb; have z0 : wc.cell? ⟨wb.heap.size, 0, none⟩ = some (.int .u32 (65536 + 4 * (r : Int) + 1 + (q : Int))) := Blk.cell hfc rfl; have z1 : wc.cell? ⟨wb.heap.size, 1, none⟩ = some (.slice (some ⟨g, 0, none⟩) 1 1) := Blk.cell hfc rfl; have hzl := Blk.lt hfc; clear hb hs hf hbu hfc) | (go_at_call 16; with_reducible refine (Hid.out H16 _ _ (Hid.out HSC)).mono ?_; rintro e wd ⟨rfl, hb⟩; have HD := hidden (bthen (Hid.out HC) hb); clear hb) | (go_at_call 9; with_reducible refine (awake_any _).mono ?_; rintro e we ⟨rfl, hb⟩; have HE := hidden (bthen (Hid.out HD) hb); clear hb))
  go_ret
  exact ⟨rfl, Hid.out HE⟩
set_option maxRecDepth 20000 in
set_option maxHeartbeats 2000000 in
theorem spoilt5 (w : World) (ao : Option Addr) (n cap v : Nat) (how : Int) (vs : List Nat) (h : Wds w ao vs) (hvs : ∀ x ∈ vs, x < 4294967296) (hn : vs.length = n) (hn0 : 0 < n) (hn5 : n ≤ 500) (hcap : n ≤ cap) (hmax : cap ≤ 9223372036854775807) (hv : v < 4294967296) (hc : how % 7 = 5) : Calls Try.prog 6 #[.slice ao n cap, .int .i64 how, .int .u32 (v : Int)] w fun e w' => e = .returned (.bool true) ∧ Below w.heap.size w w' := by
  obtain ⟨d, hd⟩ : ∃ d, d = vs.flatMap put32 := ⟨_, rfl⟩
  obtain ⟨Z, hZ⟩ : ∃ Z, Z = 4 * n + 256 := ⟨_, rfl⟩
  have hdl : d.length = 4 * n := by rw [hd, flat32_len, hn]
  have H19 : Hid (Calls Try.prog 19 #[.slice ao n cap] w fun e w' => ∃ g, e = .returned (.agg #[.int .u32 65536, .slice (some ⟨g, 0, none⟩) 1 1]) ∧ w.heap.size ≤ g ∧ Blk w' g #[.int .u32 65536, .string ⟨d.toArray⟩, .int .u32 (Z : Int), .int .i64 7] 43 ∧ Below w.heap.size w w') := by
    have := file_any w ao n cap vs h hvs hn hn5 hcap hmax
    rw [← hd, hn, ← hZ] at this
    exact this
  have H18 : Hid (∀ w, Calls Try.prog 18 #[.int .i64 how, .int .i64 7] w fun e w' => e = .returned (.int .i64 5) ∧ w' = w) := by
    intro w
    have := place_any how 7 (by omega) (by omega) w
    rw [hc] at this
    exact this
  have l1 : ¬ (500 : Int) < (n : Int) := by omega
  have l2 : ¬ (n : Int) = 0 := by omega
  have l3 : ((n : Int) == 0) = false := beq_eq_false_iff_ne.2 l2
  obtain ⟨r, hr, hrE⟩ : ∃ r : Nat, r < 1000 ∧ (v : Int) % 1000 = (r : Int) := ⟨v % 1000, Nat.mod_lt _ (by omega), by omega⟩
  have hck : checkE (65532 - 4 * r) [⟨65536, d, Z, 7⟩] = 12 := check_entry (okS (by omega) (by omega) (by omega) (by omega) (by omega)) (by
    unfold enterB
    rw [Bool.and_eq_false_iff]
    right
    simp [runsB]
    omega)
  have H13 : Hid (∀ w1 g, Segs w1 (some ⟨g, 0, none⟩) [⟨65536, d, Z, 7⟩] → Calls Try.prog 13 #[.agg #[.int .u32 (65532 - 4 * (r : Int)), .slice (some ⟨g, 0, none⟩) 1 1]] w1 fun e w' => ∃ va vc, e = .returned (.tuple #[.slice va 0 vc, .int .i64 12]) ∧ Below w1.heap.size w1 w') := by
    intro w1 g hs
    have := make_any w1 _ 1 (65532 - 4 * r) [⟨65536, d, Z, 7⟩] hs (by simp) (by omega) (by omega)
    rw [make_of hck (by omega), show ((65532 - 4 * r : Nat) : Int) = 65532 - 4 * (r : Int) by omega] at this
    refine this.mono ?_
    rintro e w' ⟨v', h1, h2, h3⟩
    obtain ⟨va, vc, rfl, _⟩ := h2.row
    exact ⟨va, vc, h1, h3⟩
  have H16 : Hid (∀ w1 g, Segs w1 (some ⟨g, 0, none⟩) [⟨65536, d, Z, 7⟩] → Calls Try.prog 16 #[.agg #[.int .u32 (65532 - 4 * (r : Int)), .slice (some ⟨g, 0, none⟩) 1 1]] w1 fun e w' => e = .returned (.int .i64 12) ∧ Below w1.heap.size w1 w') := by
    intro w1 g hs
    have := check_any w1 _ 1 (65532 - 4 * r) [⟨65536, d, Z, 7⟩] hs (by simp) (by omega) (by omega)
    rw [hck, show ((65532 - 4 * r : Nat) : Int) = 65532 - 4 * (r : Int) by omega] at this
    exact this
  have HU : Hid (∀ wb g, Blk wb g #[.int .u32 65536, .string ⟨d.toArray⟩, .int .u32 (Z : Int), .int .i64 7] 43 → Below w.heap.size w wb → w.heap.size ≤ g → Segs (wb.alloc (.cells #[.int .u32 (65532 - 4 * (r : Int)), .slice (some ⟨g, 0, none⟩) 1 1] 26)) (some ⟨g, 0, none⟩) [⟨65536, d, Z, 7⟩] ∧ Blk (wb.alloc (.cells #[.int .u32 (65532 - 4 * (r : Int)), .slice (some ⟨g, 0, none⟩) 1 1] 26)) wb.heap.size #[.int .u32 (65532 - 4 * (r : Int)), .slice (some ⟨g, 0, none⟩) 1 1] 26 ∧ Below w.heap.size w (wb.alloc (.cells #[.int .u32 (65532 - 4 * (r : Int)), .slice (some ⟨g, 0, none⟩) 1 1] 26))) := by
    intro wb g h1 h2 h3
    exact ⟨segs_one (s := ⟨65536, d, Z, 7⟩) (h1.later (below_new _ _)) ⟨by show 65536 < _; omega, by show Z < _; omega, by show d.length ≤ _; omega⟩, Blk.new wb _ 26, bthen h2 (below_new _ _)⟩
  have HDL := hidden hdl
  have HZ := hidden hZ
  clear h hd hdl hc hn hvs
  clear hZ
  go_enter Try.func6, Try.ntmps6
  go_wp2_with (first | (go_at_call 19; with_reducible refine (Hid.out H19).mono ?_; rintro e wb ⟨g, rfl, hgw, hg, hb⟩; have HG := hidden hg; have HB := hidden hb; have HGW := hidden hgw; obtain ⟨y0, y1, y2, y3, hyl, hyf⟩ := cell_facts hg; clear hb hg hgw) | (go_at_call 18; with_reducible refine (Hid.out H18 _).mono ?_; rintro e w18 ⟨rfl, hww⟩; rw [hww]; clear hww w18) | (go_at_call 13; obtain ⟨hs, hf, hbu⟩ := Hid.out HU wb g (Hid.out HG) (Hid.out HB) (Hid.out HGW); with_reducible refine (Hid.out H13 _ _ hs).mono ?_; rintro e wc ⟨va, vc, rfl, hb⟩; have HC := hidden (bthen hbu hb); have HSC := hidden (Segs.later hs hb); have hfc := Blk.later hf hb; have z0 : wc.cell? ⟨wb.heap.size, 0, none⟩ = some (.int .u32 (65532 - 4 * (r : Int))) := Blk.cell hfc rfl; have z1 : wc.cell? ⟨wb.heap.size, 1, none⟩ = some (.slice (some ⟨g, 0, none⟩) 1 1) := Blk.cell hfc rfl; have hzl := Blk.lt hfc; clear hb hs hf hbu hfc) | (go_at_call 16; with_reducible refine (Hid.out H16 _ _ (Hid.out HSC)).mono ?_; rintro e wd ⟨rfl, hb⟩; have HD := hidden (bthen (Hid.out HC) hb); clear hb) | (go_at_call 9; with_reducible refine (awake_any _).mono ?_; rintro e we ⟨rfl, hb⟩; have HE := hidden (bthen (Hid.out HD) hb); clear hb))
  go_ret
  exact ⟨rfl, Hid.out HE⟩
end Go.Proofs.Ytjpmagekianpdaa

/- Files of wordsA, and what the laws share. -/
import Derived.Test.YtpknppicamefgaaQMBE
import Derived.Maps.AppendAt
import Derived.WalkMore
import Derived.Test.YtpknppicamefgaaQMAD
import Derived.Test.YtpknppicamefgaaQMAX
import Derived.Laws.CopyOwn
namespace Go.Proofs.Ytpknppicamefgaa
open Go.ChangeShapes Go.WideShapes Go.ChangeAt Go.RowKit
set_option linter.unusedVariables false
theorem zero26 {w : World} {g : Nat} (h : Blk w g #[.int .u32 0, .slice none 0 0] 25) : w.cell? ⟨g, 0, none⟩ = some (.int .u32 0) ∧ w.cell? ⟨g, 1, none⟩ = some (.slice none 0 0) ∧ g < w.heap.size ∧ ∀ j, w.frozen? ⟨g, j, none⟩ = false :=
  ⟨h.cell rfl, h.cell rfl, h.lt, fun j => frozen_of_row _ _ _ _ _ h⟩
theorem Blk.set2 {w : World} {g : Nat} {a b a' b' : Value} {T : TypeId} (h : Blk w g #[a, b] T) : Blk ((w.setCell ⟨g, 0, none⟩ a').setCell ⟨g, 1, none⟩ b') g #[a', b'] T := by
  have h1 := heap_setCell_same w g 0 _ _ a' h
  exact heap_setCell_same _ g 1 _ _ b' h1
theorem below_set2 {w u : World} {g : Nat} {a' b' : Value} {B : Nat} (h : Below B u w) (hg : B ≤ g) : Below B u ((w.setCell ⟨g, 0, none⟩ a').setCell ⟨g, 1, none⟩ b') :=
  (h.setCell (p := ⟨g, 0, none⟩) hg _).setCell (p := ⟨g, 1, none⟩) hg _
theorem SegAt.set {w : World} {b o g j : Nat} {v : Value} {s : Sg} (h : SegAt w b o s) (hne : b ≠ g) : SegAt (w.setCell ⟨g, j, none⟩ v) b o s := by
  have e : (w.setCell ⟨g, j, none⟩ v).heap[b]? = w.heap[b]? := Below.heap_setCell _ _ _ _ hne
  exact ⟨(World.cell?_of_block (a := ⟨b, o, none⟩) e).trans h.c0, (World.cell?_of_block (a := ⟨b, o + 1, none⟩) e).trans h.c1, (World.cell?_of_block (a := ⟨b, o + 2, none⟩) e).trans h.c2, (World.cell?_of_block (a := ⟨b, o + 3, none⟩) e).trans h.c3, h.fit⟩
/-- Segments are not in the block of a file's two cells. -/
theorem Segs.set {w : World} {ao : Option Addr} {l : List Sg} {g j : Nat} {v : Value} (h : Segs w ao l) (hg : ∀ b off, ao = some ⟨b, off, none⟩ → l ≠ [] → b ≠ g) : Segs (w.setCell ⟨g, j, none⟩ v) ao l := by
  by_cases h0 : l = []
  · exact .inl h0
  rcases h with h | ⟨b, off, e, hlt, h⟩
  · exact .inl h
  · exact .inr ⟨b, off, e, by simpa [World.setCell] using hlt, fun j hj => (h j hj).set (hg b off e h0)⟩
def WdsA (w : World) (ao : Option Addr) (vs : List Nat) : Prop := vs = [] ∨ ∃ b off, ao = some ⟨b, off, none⟩ ∧ b < w.heap.size ∧ ∀ j, j < vs.length → w.cell? ⟨b, off + j, none⟩ = some (.int .u32 ((vs.getD j 0 : Nat) : Int))
theorem WdsA.later {w w' : World} {ao : Option Addr} {vs : List Nat} (h : WdsA w ao vs) (hb : Below w.heap.size w w') : WdsA w' ao vs := by
  rcases h with h | ⟨b, off, e, hlt, hc⟩
  · exact .inl h
  · exact .inr ⟨b, off, e, Nat.lt_of_lt_of_le hlt hb.size, fun j hj => (hb.cell (p := ⟨b, off + j, none⟩) hlt).trans (hc j hj)⟩
theorem WdsA.at {w : World} {ao : Option Addr} {vs : List Nat} (h : WdsA w ao vs) {k : Nat} (hk : k < vs.length) : ∃ b off, ao = some ⟨b, off, none⟩ ∧ b < w.heap.size ∧ ∀ j, j < vs.length → w.cell? ⟨b, off + j, none⟩ = some (.int .u32 ((vs.getD j 0 : Nat) : Int)) := by
  rcases h with h | h
  · rw [h] at hk; simp at hk
  · exact h
theorem rput_any (a : Int) (h1 : 0 ≤ a) (h2 : a < 4294967296) (w : World) :
    Calls Try.prog 70 #[.int .u32 a] w fun e w' => e = .returned (.slice (some ⟨w.heap.size, 0, none⟩) 4 4) ∧ w' = w.alloc (.cells #[.int .u8 (a / 16777216), .int .u8 (a / 65536 % 256), .int .u8 (a / 256 % 256), .int .u8 (a % 256)] 5) := by
  go_enter Try.func70, Try.ntmps70
  go_wp2
  go_ret
  exact ⟨rfl, rfl⟩
set_option maxRecDepth 20000 in
set_option maxHeartbeats 1000000 in
theorem code_any (w : World) (ao : Option Addr) (n cap : Nat) (vs : List Nat) (h : WdsA w ao vs) (hv : ∀ x ∈ vs, x < 4294967296) (hn : vs.length = n) (hn5 : n ≤ 500) (hcap : n ≤ cap) (hmax : cap ≤ 9223372036854775807) : Calls Try.prog 49 #[.slice ao n cap] w fun e w' => ∃ v, e = .returned v ∧ Out w' w.heap.size v (vs.flatMap put32) ∧ Below w.heap.size w w' := by
  have H := hidden h
  have HV := hidden hv
  have HN := hidden hn
  clear h hv hn
  go_enter Try.func49, Try.ntmps49
  go_wp2
  go_loopw [3, 4] (fun x3 x4 wr => ∃ k : Nat, k ≤ n ∧ x4 = .int .i64 (k : Int) ∧ Out wr w.heap.size x3 ((vs.take k).flatMap put32) ∧ Below w.heap.size w wr) (fun x3 x4 _ => n - (intOf x4).toNat)
  case atStart => exact ⟨0, by omega, rfl, out_nil _ _, Below.refl _ _⟩
  case round =>
    obtain ⟨k, hk, rfl, ho, hb⟩ := hrel
    have HB := hidden hb
    by_cases hkn : k < n
    · have hkn2 : (k : Int) < (n : Int) := by omega
      have hkv : k < vs.length := by rw [Hid.out HN]; exact hkn
      obtain ⟨b, off, rfl, hlt, hc⟩ := ((Hid.out H).later hb).at hkv
      obtain ⟨x, hx⟩ : ∃ x, x = vs.getD k 0 := ⟨_, rfl⟩
      have hxm : x < 4294967296 := by
        rw [hx, List.getD_eq_getElem?_getD, List.getElem?_eq_getElem hkv, Option.getD_some]
        exact Hid.out HV _ (List.getElem_mem hkv)
      have hck := hc k hkv
      rw [← hx] at hck
      have hb2 := below_new wr (.cells #[.int .u8 ((x : Int) / 16777216), .int .u8 ((x : Int) / 65536 % 256), .int .u8 ((x : Int) / 256 % 256), .int .u8 ((x : Int) % 256)] 5)
      have hnew := Blk.new wr #[.int .u8 ((x : Int) / 16777216), .int .u8 ((x : Int) / 65536 % 256), .int .u8 ((x : Int) / 256 % 256), .int .u8 ((x : Int) % 256)] 5
      obtain ⟨v', w', hr, ho', hg'⟩ := run_more (ho.later hb2) (Nat.le_trans hb.size hb2.size) ⟨wr.heap.size, 0, none⟩ 4 (put32 x) (by
        intro j u hu
        rw [cells_put32 x hxm] at hu
        rw [Addr.add_lit, Nat.zero_add]
        exact hnew.cell (by simpa using hu)) (by rw [flat32_len, List.length_take, put32_len]; omega)
      have HR := hidden hr
      have HO : Hid (Out w' w.heap.size v' ((vs.take (k + 1)).flatMap put32)) := by
        show Out _ _ _ _
        rw [take_flat _ _ _ hkv, ← hx]
        exact ho'
      have HB2 := hidden (hb.trans ((hb2.mono hb.size).trans hg'.below))
      have H46 := hidden (rput_any (x : Int) (by omega) (by omega) wr)
      clear hr ho' hg' ho hb hc hx hnew hb2
      go_wp2_with (first | (go_at_call 70; with_reducible refine (Hid.out H46).mono ?_; rintro e w1 ⟨rfl, hww⟩; rw [hww]; clear hww w1) | (at_builtin; refine wpList_append_run rfl _ _ 51 51 rfl rfl rfl (Hid.out HR) ?_))
      go_roundw
      case rel => first | exact ⟨k + 1, by omega, by simp, Hid.out HO, Hid.out HB2⟩ | ((repeat apply Exists.intro); first | exact ⟨⟨k + 1, by omega, by simp, Hid.out HO, Hid.out HB2⟩, rfl⟩ | exact ⟨⟨k + 1, by omega, by simp, Hid.out HO, Hid.out HB2⟩, rfl, rfl⟩)
      case measure => simp [intOf]; omega
    · have hkn2 : ¬ (k : Int) < (n : Int) := by omega
      have HO : Hid (Out wr w.heap.size u3 (vs.flatMap put32)) := by
        have h2 := Hid.out HN
        rw [List.take_of_length_le (by omega)] at ho
        exact ho
      clear ho hb
      go_wp2
      go_ret
      exact ⟨_, rfl, Hid.out HO, Hid.out HB⟩
/-- The one segment of a file of wordsA. -/
def fileSg (vs : List Nat) : Sg := ⟨65536, vs.flatMap put32, 4 * vs.length + 256, 7⟩
theorem fileSg_fit {vs : List Nat} (h : vs.length ≤ 500) : Fit (fileSg vs) := ⟨by show 65536 < _; omega, by show 4 * vs.length + 256 < _; omega, by show (vs.flatMap put32).length ≤ _; rw [flat32_len]; omega⟩
theorem segs_one {w : World} {g : Nat} {s : Sg} (h : Blk w g #[.int .u32 (s.at_ : Int), .string ⟨s.data.toArray⟩, .int .u32 (s.size : Int), .int .i64 s.perm] 44) (hf : Fit s) : Segs w (some ⟨g, 0, none⟩) [s] := by
  refine .inr ⟨g, 0, rfl, h.lt, fun j hj => ?_⟩
  obtain rfl : j = 0 := by simpa using hj
  exact ⟨h.cell rfl, h.cell rfl, h.cell rfl, h.cell rfl, hf⟩
set_option maxRecDepth 20000 in
set_option maxHeartbeats 1000000 in
theorem file_any (w : World) (ao : Option Addr) (n cap : Nat) (vs : List Nat) (h : WdsA w ao vs) (hv : ∀ x ∈ vs, x < 4294967296) (hn : vs.length = n) (hn5 : n ≤ 500) (hcap : n ≤ cap) (hmax : cap ≤ 9223372036854775807) : Calls Try.prog 20 #[.slice ao n cap] w fun e w' => ∃ g, e = .returned (.agg #[.int .u32 65536, .slice (some ⟨g, 0, none⟩) 1 1]) ∧ w.heap.size ≤ g ∧ Blk w' g #[.int .u32 65536, .string ⟨(vs.flatMap put32).toArray⟩, .int .u32 ((4 * vs.length + 256 : Nat) : Int), .int .i64 7] 44 ∧ Below w.heap.size w w' := by
  have hb0 := below_new w (.cells #[.int .u32 0, .slice none 0 0] 25)
  have HB0 := hidden hb0
  have HZ := hidden (Blk.new w #[.int .u32 0, .slice none 0 0] 25)
  have H37 : Hid (Calls Try.prog 49 #[.slice ao n cap] (w.alloc (.cells #[.int .u32 0, .slice none 0 0] 25)) fun e w' => ∃ va vc, e = .returned (.slice va (4 * n) vc) ∧ (convert 51 9 (.slice va (4 * n) vc)).run Try.prog w' = .ok (.string ⟨(vs.flatMap put32).toArray⟩) w' ∧ Below w.heap.size w w' ∧ Blk w' w.heap.size #[.int .u32 0, .slice none 0 0] 25) := by
    refine (code_any _ ao n cap vs (h.later hb0) hv hn hn5 hcap hmax).mono ?_
    rintro e w' ⟨v, he, ho, hb⟩
    obtain ⟨va, vc, hv2, hr⟩ := ho.row
    have hs := run_str w' va _ vc hr.lies
    rw [hv2] at he
    rw [flat32_len, hn] at he hs
    exact ⟨va, vc, he, hs, bthen hb0 hb, (Blk.new w _ 25).later hb⟩
  have q1 : (4 : Int) * (n : Int) + 256 ≤ 4000 := by omega
  have HN := hidden hn
  clear h hb0 hn
  go_enter Try.func20, Try.ntmps20
  go_wp2_with (go_at_call 49; with_reducible refine (Hid.out H37).mono ?_; rintro e w1 ⟨va, vc, rfl, hcv, hb, hz⟩; have HB := hidden hb; have HZ1 := hidden hz; obtain ⟨z0, z1, hzl, hzf⟩ := zero26 hz; clear hb hz)
  have hf : Blk _ w.heap.size _ 25 := (Hid.out HZ1).set2 (a' := .int .u32 65536) (b' := .slice (some ⟨w1.heap.size, 0, none⟩) 1 1)
  have hbf := below_set2 (a' := .int .u32 65536) (b' := .slice (some ⟨w1.heap.size, 0, none⟩) 1 1) (g := w.heap.size) (Hid.out HB) (Nat.le_refl _)
  have hsz : ((w1.setCell ⟨w.heap.size, 0, none⟩ (.int .u32 65536)).setCell ⟨w.heap.size, 1, none⟩ (.slice (some ⟨w1.heap.size, 0, none⟩) 1 1)).heap.size = w1.heap.size := by simp [World.setCell]
  generalize World.setCell _ _ _ = wf at hf hbf hsz ⊢
  have hnb := Blk.new wf #[.int .u32 65536, .string ⟨(vs.flatMap put32).toArray⟩, .int .u32 (4 * (n : Int) + 256), .int .i64 7] 44
  rw [hsz] at hnb
  have hf2 := hf.later (below_new wf (.cells #[.int .u32 65536, .string ⟨(vs.flatMap put32).toArray⟩, .int .u32 (4 * (n : Int) + 256), .int .i64 7] 44))
  have hbf2 := bthen hbf (below_new wf (.cells #[.int .u32 65536, .string ⟨(vs.flatMap put32).toArray⟩, .int .u32 (4 * (n : Int) + 256), .int .i64 7] 44))
  generalize World.alloc _ _ = wg at hf2 hbf2 hnb ⊢
  have f0 : wg.cell? ⟨w.heap.size, 0, none⟩ = some (.int .u32 65536) := hf2.cell rfl
  have f1 : wg.cell? ⟨w.heap.size, 1, none⟩ = some (.slice (some ⟨w1.heap.size, 0, none⟩) 1 1) := hf2.cell rfl
  have e4 : (4 : Int) * (n : Int) + 256 = ((4 * vs.length + 256 : Nat) : Int) := by rw [Hid.out HN]; omega
  rw [e4] at hnb
  exact bodyPost_ret (v := .agg #[.int .u32 65536, .slice (some ⟨w1.heap.size, 0, none⟩) 1 1]) (by simp [results, Try.results20, go_sem, f0, f1]) rfl ⟨w1.heap.size, rfl, (Hid.out HB).size, hnb, hbf2⟩
theorem file_ok {vs : List Nat} (h : vs.length ≤ 500) : checkE 65536 [fileSg vs] = 0 := by
  have hl := flat32_len vs
  have ho : okB (fileSg vs) = true := by
    unfold okB fitsB
    rw [decide_eq_true (show (fileSg vs).size ≠ 0 by show 4 * vs.length + 256 ≠ 0; omega), decide_eq_true (show (fileSg vs).size ≤ 16384 by show 4 * vs.length + 256 ≤ 16384; omega), decide_eq_true (show (fileSg vs).data.length ≤ (fileSg vs).size by show (vs.flatMap put32).length ≤ 4 * vs.length + 256; omega), decide_eq_true (show (fileSg vs).at_ + (fileSg vs).size ≤ 2147483648 by show 65536 + (4 * vs.length + 256) ≤ 2147483648; omega)]
    rfl
  have hv : overB [fileSg vs] = false := over_no (by
    intro a b h1 h2
    simp at h2
    omega)
  have he : enterB 65536 [fileSg vs] = true := by
    simp [enterB, runsB, fileSg]
  unfold checkE
  rw [if_neg (by simp), if_neg (by simp [ho]), if_neg (by rw [hv]; simp), if_neg (by rw [he]; simp)]
theorem file_make {vs : List Nat} (h : vs.length ≤ 500) : makeE 65536 [fileSg vs] = (fileB 65536 [fileSg vs], 0) := by
  have hl := fileB_len 65536 [fileSg vs]
  have hd : (datasB [fileSg vs]).length = 4 * vs.length := by
    show ((vs.flatMap put32) ++ []).length = _
    rw [List.append_nil, flat32_len]
  unfold makeE
  rw [if_neg (by rw [file_ok h]; simp), if_neg (by rw [hl, hd]; simp; omega)]
end Go.Proofs.Ytpknppicamefgaa
namespace Go.Proofs.Ytpknppicamefgaa
open Go.ChangeShapes Go.WideShapes Go.ChangeAt Go.RowKit
set_option linter.unusedVariables false
def segCells (l : List Sg) : List Value := l.flatMap fun s => [.int .u32 (s.at_ : Int), .string ⟨s.data.toArray⟩, .int .u32 (s.size : Int), .int .i64 s.perm]
theorem segCells_len : ∀ l : List Sg, (segCells l).length = l.length * 4
  | [] => rfl
  | s :: t => by
    have := segCells_len t
    unfold segCells at this ⊢
    rw [List.flatMap_cons, List.length_append, this, List.length_cons]
    simp
    omega
theorem segCells_append (l m : List Sg) : segCells (l ++ m) = segCells l ++ segCells m := by unfold segCells; rw [List.flatMap_append]
theorem segCells_get : ∀ (l : List Sg) (j i : Nat), j < l.length → i < 4 → (segCells l)[j * 4 + i]? = (#[Value.int .u32 ((l.getD j nosg).at_ : Int), .string ⟨(l.getD j nosg).data.toArray⟩, .int .u32 ((l.getD j nosg).size : Int), .int .i64 (l.getD j nosg).perm] : Array Value)[i]?
  | [], j, i, h, _ => by simp at h
  | s :: t, 0, i, _, hi => by
    have : segCells (s :: t) = [.int .u32 (s.at_ : Int), .string ⟨s.data.toArray⟩, .int .u32 (s.size : Int), .int .i64 s.perm] ++ segCells t := rfl
    rw [this, List.getElem?_append_left (by simp; omega)]
    simp
  | s :: t, j + 1, i, h, hi => by
    have ih := segCells_get t j i (by simpa using h) hi
    have : segCells (s :: t) = [.int .u32 (s.at_ : Int), .string ⟨s.data.toArray⟩, .int .u32 (s.size : Int), .int .i64 s.perm] ++ segCells t := rfl
    rw [this, List.getElem?_append_right (by simp; omega)]
    simp only [List.length_cons, List.length_nil]
    rw [show (j + 1) * 4 + i - (0 + 1 + 1 + 1 + 1) = j * 4 + i by omega, ih]
    simp
theorem segCells_one (l : List Sg) : ∀ u ∈ segCells l, u.oneCell' = true := by
  intro u hu
  simp only [segCells, List.mem_flatMap] at hu
  obtain ⟨s, _, hs⟩ := hu
  simp only [List.mem_cons, List.not_mem_nil, or_false] at hs
  rcases hs with rfl | rfl | rfl | rfl <;> rfl
def OutS (w : World) (base : Nat) (v : Value) (l : List Sg) : Prop := w.ownsRow base 44 4 v l.length (segCells l)
theorem info43 : (Try.prog.info? 44).map (fun i => (i.zero, i.size, i.bytes)) = some (some (.agg #[.int .u32 0, .string ⟨#[]⟩, .int .u32 0, .int .i64 0]), 4, 40) := by kernel_rfl
theorem OutS.later {w w' : World} {base : Nat} {v : Value} {l : List Sg} (h : OutS w base v l) (hb : Below w.heap.size w w') : OutS w' base v l := by
  refine ⟨h.1, ?_⟩
  rcases h.2 with h | ⟨g, cap, cur, h1, h2, h3, h4⟩
  · exact .inl h
  · exact .inr ⟨g, cap, cur, h1, h2, (hb.block g (Array.getElem?_eq_some_iff.1 h3).1).trans h3, h4⟩
theorem OutS.segs {w : World} {base : Nat} {v : Value} {l : List Sg} (h : OutS w base v l) (hf : ∀ j, j < l.length → Fit (l.getD j nosg)) : ∃ ao cap, v = .slice ao l.length cap ∧ Segs w ao l ∧ l.length ≤ cap ∧ cap ≤ 9223372036854775807 := by
  have h0 := h
  rcases h.2 with ⟨rfl, hz⟩ | ⟨g, cap, cur, rfl, _, hg, hnc, hcm, _, _⟩
  · rw [hz]
    exact ⟨none, 0, rfl, .inl (List.eq_nil_of_length_eq_zero hz), Nat.le_refl _, by omega⟩
  · refine ⟨_, cap, rfl, ?_, hnc, hcm⟩
    by_cases hl : l = []
    · exact .inl hl
    · refine .inr ⟨g, 0, rfl, (Array.getElem?_eq_some_iff.1 hg).1, fun j hj => ?_⟩
      have hc : ∀ i v, i < 4 → (#[Value.int .u32 ((l.getD j nosg).at_ : Int), .string ⟨(l.getD j nosg).data.toArray⟩, .int .u32 ((l.getD j nosg).size : Int), .int .i64 (l.getD j nosg).perm] : Array Value)[i]? = some v → w.cell? ⟨g, 0 + j * 4 + i, none⟩ = some v := by
        intro i v hi hv
        have := h0.cells (g := g) rfl (j * 4 + i) v (by rw [segCells_get l j i hj hi]; exact hv)
        rw [Addr.add_lit] at this
        rw [Nat.add_assoc]
        exact this
      exact ⟨hc 0 _ (by omega) rfl, hc 1 _ (by omega) rfl, hc 2 _ (by omega) rfl, hc 3 _ (by omega) rfl, hf j hj⟩
theorem run_moreS {w : World} {base : Nat} {v : Value} {l : List Sg} (h : OutS w base v l) (hb : base ≤ w.heap.size) (g : Nat) (s : Sg) (hs : Blk w g #[.int .u32 (s.at_ : Int), .string ⟨s.data.toArray⟩, .int .u32 (s.size : Int), .int .i64 s.perm] 44) (hlen : l.length ≤ 1000) :
    ∃ v' w', (Builtin.append_ #[23, 23] 23 #[v, .slice (some ⟨g, 0, none⟩) 1 1]).run Try.prog w = .ok v' w' ∧ OutS w' base v' (l ++ [s]) ∧ Below base w w' := by
  obtain ⟨i0, hi, hz0, hz1, hz2⟩ := info_parts info43
  obtain ⟨v', w', hr, h1, h2, _, _⟩ := run_append_own_at (P := Try.prog) w base 23 23 44 i0 _ 4 40 Try.underlying23 hi hz0 hz1 hz2 rfl (by decide) v l.length (segCells l) h ⟨g, 0, none⟩ 1 1 (segCells [s]) (by rw [segCells_len]; rfl) (by
    intro j u hu
    rw [Addr.add_lit, Nat.zero_add]
    exact hs.cell (by simpa [segCells] using hu)) (segCells_one _) (by unfold maxLen; omega) (by omega) hb
  refine ⟨v', w', hr, ?_, (Below.refl base w).grown h2 hb fun k hk => (h.lt k hk).1⟩
  rw [← segCells_append] at h1
  unfold OutS
  rw [List.length_append]
  exact h1
end Go.Proofs.Ytpknppicamefgaa
namespace Go.Proofs.Ytpknppicamefgaa
open Go.ChangeShapes Go.WideShapes Go.ChangeAt Go.RowKit
set_option linter.unusedVariables false
/-- A row of bytes of its own. -/
def Brow (w : World) (g : Nat) (l : List UInt8) (tl : List Value) : Prop := w.heap[g]? = some (.cells (cellsU l ++ tl).toArray 5 (0, 0))
def ovr (l : List UInt8) (k : Nat) (p : List UInt8) : List UInt8 := l.take k ++ p ++ l.drop (k + p.length)
theorem ovr_len (l : List UInt8) (k : Nat) (p : List UInt8) (h : k + p.length ≤ l.length) : (ovr l k p).length = l.length := by
  simp [ovr]; omega
theorem cells_ovr (l : List UInt8) (tl : List Value) (k : Nat) (p : List UInt8) (h : k + p.length ≤ l.length) : splice (cellsU l ++ tl) k (cellsU p) = cellsU (ovr l k p) ++ tl := by
  have hk : k ≤ (cellsU l).length := by rw [cellsU_len]; omega
  have hk2 : k + (cellsU p).length ≤ (cellsU l).length := by rw [cellsU_len, cellsU_len]; omega
  unfold splice ovr
  rw [List.take_append_of_le_length hk, List.drop_append_of_le_length hk2, cellsU_append, cellsU_append]
  simp only [List.append_assoc]
  congr 1
  · simp [cellsU]
  · congr 2
    simp [cellsU]
theorem Keep.thruK {g : Nat} {u v w : World} (h : Keep (· = g) u v) (k : Keep (· = g) v w) : Keep (· = g) u w := h.trans k fun _ _ e => e
theorem put_cells (v : Nat) (h : v < 4294967296) : cellsU (put32 v) = [.int .u8 ((v : Int) / 16777216), .int .u8 ((v : Int) / 65536 % 256), .int .u8 ((v : Int) / 256 % 256), .int .u8 ((v : Int) % 256)] := by
  have e1 : (((v / 16777216 % 256) % 2 ^ 8 : Nat) : Int) = (v : Int) / 16777216 := by omega
  have e2 : (((v / 65536 % 256) % 2 ^ 8 : Nat) : Int) = (v : Int) / 65536 % 256 := by omega
  have e3 : (((v / 256 % 256) % 2 ^ 8 : Nat) : Int) = (v : Int) / 256 % 256 := by omega
  have e4 : (((v % 256) % 2 ^ 8 : Nat) : Int) = (v : Int) % 256 := by omega
  simp only [cellsU, put32, List.map_cons, List.map_nil, UInt8.toNat_ofNat']
  rw [e1, e2, e3, e4]
set_option maxRecDepth 20000 in
set_option maxHeartbeats 1000000 in
theorem put_any (w : World) (g cap k v : Nat) (l : List UInt8) (tl : List Value) (h : Brow w g l tl) (hk : k + 4 ≤ l.length) (hv : v < 4294967296) (hlen : l.length ≤ cap) (hcap : cap ≤ 9223372036854775807) : Calls Try.prog 63 #[.slice (some ⟨g, 0, none⟩) l.length cap, .int .i64 (k : Int), .int .i64 (v : Int)] w fun e w' => e = .returned (.tuple #[]) ∧ Brow w' g (ovr l k (put32 v)) tl ∧ Keep (· = g) w w' := by
  have hgl : g < w.heap.size := (Array.getElem?_eq_some_iff.1 h).1
  have H72 := hidden (bput_any (v : Int) (by omega) (by omega) w)
  have H := hidden h
  have hkz : (k : Int) ≤ (l.length : Int) := by omega
  clear h
  go_enter Try.func63, Try.ntmps63
  go_wp2_with (go_at_call 72; with_reducible refine (Hid.out H72).mono ?_; rintro e w1 ⟨rfl, hb1⟩; have HB1 := hidden hb1; clear hb1)
  refine wp_region_tail 4 (by kernel_rfl) (by kernel_rfl) ?_
  simp only [List.take_succ_cons, List.take_zero, List.drop_succ_cons, List.drop_zero]
  repeat (go_big_quiet_step (fail))
  refine wpQuiet_nil ?_
  rintro _ ⟨nq, rfl⟩
  have hB : Brow ((w1.alloc (.cells #[.int .u8 ((v : Int) / 16777216), .int .u8 ((v : Int) / 65536 % 256), .int .u8 ((v : Int) / 256 % 256), .int .u8 ((v : Int) % 256)] 112)).drewN nq) g l tl := by
    show (w1.alloc _).heap[g]? = _
    exact (heap_alloc_old _ _ (Nat.lt_of_lt_of_le hgl (Hid.out HB1).size)).trans (((Hid.out HB1).block g hgl).trans (Hid.out H))
  have hN : Blk ((w1.alloc (.cells #[.int .u8 ((v : Int) / 16777216), .int .u8 ((v : Int) / 65536 % 256), .int .u8 ((v : Int) / 256 % 256), .int .u8 ((v : Int) % 256)] 112)).drewN nq) w1.heap.size #[.int .u8 ((v : Int) / 16777216), .int .u8 ((v : Int) / 65536 % 256), .int .u8 ((v : Int) / 256 % 256), .int .u8 ((v : Int) % 256)] 112 := Blk.new w1 _ _
  have hK : Keep (· = g) w ((w1.alloc (.cells #[.int .u8 ((v : Int) / 16777216), .int .u8 ((v : Int) / 65536 % 256), .int .u8 ((v : Int) / 256 % 256), .int .u8 ((v : Int) % 256)] 112)).drewN nq) := ((Keep.of_below (Hid.out HB1)).trans (keep_alloc (· = g) w1 _) fun _ _ e => e).drewN nq
  have hpl : (put32 v).length = 4 := rfl
  have hcs := cells_ovr l tl k (put32 v) (by rw [hpl]; exact hk)
  refine wpList_copy_own rfl _ _ 51 51 rfl 5 Try.underlying51 size5 g k (l.length - k) (cap - k) ⟨w1.heap.size, 0, none⟩ 4 4 rfl rfl _ 5 hB (cellsU (put32 v)) ?_ ?_ ?_ (cellsU_one _) ?_
  · rw [cellsU_len, hpl]
    show 4 = min 4 (l.length - k)
    omega
  · intro j u hu
    rw [put_cells v hv] at hu
    rw [Addr.add_lit]
    refine hN.cell ?_
    rw [Nat.zero_add]
    simpa using hu
  · rw [cellsU_len, hpl, List.size_toArray, List.length_append, cellsU_len]
    omega
  · have hfin : Brow (((w1.alloc (.cells #[.int .u8 ((v : Int) / 16777216), .int .u8 ((v : Int) / 65536 % 256), .int .u8 ((v : Int) / 256 % 256), .int .u8 ((v : Int) % 256)] 112)).drewN nq).setRow g ((cellsU l ++ tl).toArray.toList.take k ++ (cellsU (put32 v) ++ (cellsU l ++ tl).toArray.toList.drop (k + (cellsU (put32 v)).length))).toArray) g (ovr l k (put32 v)) tl := by
      unfold Brow
      rw [setRow_heap _ g _ _ 5 (0, 0) hB, ← hcs]
      simp only [splice]
    have hkp := hK.thruK (Keep.of_only (only_setRow ((w1.alloc (.cells #[.int .u8 ((v : Int) / 16777216), .int .u8 ((v : Int) / 65536 % 256), .int .u8 ((v : Int) / 256 % 256), .int .u8 ((v : Int) % 256)] 112)).drewN nq) g ((cellsU l ++ tl).toArray.toList.take k ++ (cellsU (put32 v) ++ (cellsU l ++ tl).toArray.toList.drop (k + (cellsU (put32 v)).length))).toArray))
    generalize World.setRow _ _ _ = wz at hfin hkp ⊢
    have HF := hidden hfin
    have HKP := hidden hkp
    clear hfin hkp hcs hB hN hK
    go_wp2
    go_end0
    exact ⟨rfl, Hid.out HF, Hid.out HKP⟩
end Go.Proofs.Ytpknppicamefgaa

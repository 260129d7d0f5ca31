/- Files of wordsA, and what the laws share. -/
import Derived.Test.YtpknppicamefgaaPEMakes
namespace Go.Proofs.Ytpknppicamefgaa
open Go.ChangeShapes Go.WideShapes Go.ChangeAt Go.RowKit
set_option linter.unusedVariables false
theorem zero26 {w : World} {g : Nat} (h : Blk w g #[.int .u32 0, .slice none 0 0] 25) : w.cell? ⟨g, 0, none⟩ = some (.int .u32 0) ∧ w.cell? ⟨g, 1, none⟩ = some (.slice none 0 0) ∧ g < w.heap.size ∧ ∀ j, w.frozen? ⟨g, j, none⟩ = false :=
  ⟨h.cell rfl, h.cell rfl, h.lt, fun j => frozen_of_row _ _ _ _ _ h⟩
theorem Blk.set2 {w : World} {g : Nat} {a b a' b' : Value} {T : TypeId} (h : Blk w g #[a, b] T) : Blk ((w.setCell ⟨g, 0, none⟩ a').setCell ⟨g, 1, none⟩ b') g #[a', b'] T := by
  have h1 := heap_setCell_same w g 0 _ _ a' h
  exact heap_setCell_same _ g 1 _ _ b' h1
theorem below_set2 {w u : World} {g : Nat} {a' b' : Value} {B : Nat} (h : Below B u w) (hg : B ≤ g) : Below B u ((w.setCell ⟨g, 0, none⟩ a').setCell ⟨g, 1, none⟩ b') :=
  (h.setCell (p := ⟨g, 0, none⟩) hg _).setCell (p := ⟨g, 1, none⟩) hg _
theorem SegAt.set {w : World} {b o g j : Nat} {v : Value} {s : Sg} (h : SegAt w b o s) (hne : b ≠ g) : SegAt (w.setCell ⟨g, j, none⟩ v) b o s := by
  have e : (w.setCell ⟨g, j, none⟩ v).heap[b]? = w.heap[b]? := Below.heap_setCell _ _ _ _ hne
  exact ⟨(World.cell?_of_block (a := ⟨b, o, none⟩) e).trans h.c0, (World.cell?_of_block (a := ⟨b, o + 1, none⟩) e).trans h.c1, (World.cell?_of_block (a := ⟨b, o + 2, none⟩) e).trans h.c2, (World.cell?_of_block (a := ⟨b, o + 3, none⟩) e).trans h.c3, h.fit⟩
/-- Segments are not in the block of a file's two cells. -/
theorem Segs.set {w : World} {ao : Option Addr} {l : List Sg} {g j : Nat} {v : Value} (h : Segs w ao l) (hg : ∀ b off, ao = some ⟨b, off, none⟩ → l ≠ [] → b ≠ g) : Segs (w.setCell ⟨g, j, none⟩ v) ao l := by
  by_cases h0 : l = []
  · exact .inl h0
  rcases h with h | ⟨b, off, e, hlt, h⟩
  · exact .inl h
  · exact .inr ⟨b, off, e, by simpa [World.setCell] using hlt, fun j hj => (h j hj).set (hg b off e h0)⟩
def WdsA (w : World) (ao : Option Addr) (vs : List Nat) : Prop := vs = [] ∨ ∃ b off, ao = some ⟨b, off, none⟩ ∧ b < w.heap.size ∧ ∀ j, j < vs.length → w.cell? ⟨b, off + j, none⟩ = some (.int .u32 ((vs.getD j 0 : Nat) : Int))
theorem WdsA.later {w w' : World} {ao : Option Addr} {vs : List Nat} (h : WdsA w ao vs) (hb : Below w.heap.size w w') : WdsA w' ao vs := by
  rcases h with h | ⟨b, off, e, hlt, hc⟩
  · exact .inl h
  · exact .inr ⟨b, off, e, Nat.lt_of_lt_of_le hlt hb.size, fun j hj => (hb.cell (p := ⟨b, off + j, none⟩) hlt).trans (hc j hj)⟩
theorem WdsA.at {w : World} {ao : Option Addr} {vs : List Nat} (h : WdsA w ao vs) {k : Nat} (hk : k < vs.length) : ∃ b off, ao = some ⟨b, off, none⟩ ∧ b < w.heap.size ∧ ∀ j, j < vs.length → w.cell? ⟨b, off + j, none⟩ = some (.int .u32 ((vs.getD j 0 : Nat) : Int)) := by
  rcases h with h | h
  · rw [h] at hk; simp at hk
  · exact h
theorem rput_any (a : Int) (h1 : 0 ≤ a) (h2 : a < 4294967296) (w : World) :
    Calls Try.prog 70 #[.int .u32 a] w fun e w' => e = .returned (.slice (some ⟨w.heap.size, 0, none⟩) 4 4) ∧ w' = w.alloc (.cells #[.int .u8 (a / 16777216), .int .u8 (a / 65536 % 256), .int .u8 (a / 256 % 256), .int .u8 (a % 256)] 5) := by
  go_enter Try.func70, Try.ntmps70
  go_wp2
  go_ret
  exact ⟨rfl, rfl⟩
set_option maxRecDepth 20000 in
set_option maxHeartbeats 1000000 in
theorem code_any (w : World) (ao : Option Addr) (n cap : Nat) (vs : List Nat) (h : WdsA w ao vs) (hv : ∀ x ∈ vs, x < 4294967296) (hn : vs.length = n) (hn5 : n ≤ 500) (hcap : n ≤ cap) (hmax : cap ≤ 9223372036854775807) : Calls Try.prog 49 #[.slice ao n cap] w fun e w' => ∃ v, e = .returned v ∧ Out w' w.heap.size v (vs.flatMap put32) ∧ Below w.heap.size w w' := by
  have H := hidden h
  have HV := hidden hv
  have HN := hidden hn
  clear h hv hn
  go_enter Try.func49, Try.ntmps49
  go_wp2
  go_loopw [3, 4] (fun x3 x4 wr => ∃ k : Nat, k ≤ n ∧ x4 = .int .i64 (k : Int) ∧ Out wr w.heap.size x3 ((vs.take k).flatMap put32) ∧ Below w.heap.size w wr) (fun x3 x4 _ => n - (intOf x4).toNat)
  case atStart => exact ⟨0, by omega, rfl, out_nil _ _, Below.refl _ _⟩
  case round =>
    obtain ⟨k, hk, rfl, ho, hb⟩ := hrel
    have HB := hidden hb
    by_cases hkn : k < n
    · have hkn2 : (k : Int) < (n : Int) := by omega
      have hkv : k < vs.length := by rw [Hid.out HN]; exact hkn
      obtain ⟨b, off, rfl, hlt, hc⟩ := ((Hid.out H).later hb).at hkv
      obtain ⟨x, hx⟩ : ∃ x, x = vs.getD k 0 := ⟨_, rfl⟩
      have hxm : x < 4294967296 := by
        rw [hx, List.getD_eq_getElem?_getD, List.getElem?_eq_getElem hkv, Option.getD_some]
        exact Hid.out HV _ (List.getElem_mem hkv)
      have hck := hc k hkv
      rw [← hx] at hck
      have hb2 := below_new wr (.cells #[.int .u8 ((x : Int) / 16777216), .int .u8 ((x : Int) / 65536 % 256), .int .u8 ((x : Int) / 256 % 256), .int .u8 ((x : Int) % 256)] 5)
      have hnew := Blk.new wr #[.int .u8 ((x : Int) / 16777216), .int .u8 ((x : Int) / 65536 % 256), .int .u8 ((x : Int) / 256 % 256), .int .u8 ((x : Int) % 256)] 5
      obtain ⟨v', w', hr, ho', hg'⟩ := run_more (ho.later hb2) (Nat.le_trans hb.size hb2.size) ⟨wr.heap.size, 0, none⟩ 4 (put32 x) (by
        intro j u hu
        rw [cells_put32 x hxm] at hu
        rw [Addr.add_lit, Nat.zero_add]
        exact hnew.cell (by simpa using hu)) (by rw [flat32_len, List.length_take, put32_len]; omega)
      have HR := hidden hr
      have HO : Hid (Out w' w.heap.size v' ((vs.take (k + 1)).flatMap put32)) := by
        show Out _ _ _ _
        rw [take_flat _ _ _ hkv, ← hx]
        exact ho'
      have HB2 := hidden (hb.trans ((hb2.mono hb.size).trans hg'.below))
      have H46 := hidden (rput_any (x : Int) (by omega) (by omega) wr)
      clear hr ho' hg' ho hb hc hx hnew hb2
      go_wp2_with (first | (go_at_call 70; with_reducible refine (Hid.out H46).mono ?_; rintro e w1 ⟨rfl, hww⟩; rw [hww]; clear hww w1) | (at_builtin; refine wpList_append_run rfl _ _ 51 51 rfl rfl rfl (Hid.out HR) ?_))
      go_roundw
      case rel => first | exact ⟨k + 1, by omega, by simp, Hid.out HO, Hid.out HB2⟩ | ((repeat apply Exists.intro); first | exact ⟨⟨k + 1, by omega, by simp, Hid.out HO, Hid.out HB2⟩, rfl⟩ | exact ⟨⟨k + 1, by omega, by simp, Hid.out HO, Hid.out HB2⟩, rfl, rfl⟩)
      case measure => simp [intOf]; omega
    · have hkn2 : ¬ (k : Int) < (n : Int) := by omega
      have HO : Hid (Out wr w.heap.size u3 (vs.flatMap put32)) := by
        have h2 := Hid.out HN
        rw [List.take_of_length_le (by omega)] at ho
        exact ho
      clear ho hb
      go_wp2
      go_ret
      exact ⟨_, rfl, Hid.out HO, Hid.out HB⟩
/-- The one segment of a file of wordsA. -/
def fileSg (vs : List Nat) : Sg := ⟨65536, vs.flatMap put32, 4 * vs.length + 256, 7⟩
theorem fileSg_fit {vs : List Nat} (h : vs.length ≤ 500) : Fit (fileSg vs) := ⟨by show 65536 < _; omega, by show 4 * vs.length + 256 < _; omega, by show (vs.flatMap put32).length ≤ _; rw [flat32_len]; omega⟩
theorem segs_one {w : World} {g : Nat} {s : Sg} (h : Blk w g #[.int .u32 (s.at_ : Int), .string ⟨s.data.toArray⟩, .int .u32 (s.size : Int), .int .i64 s.perm] 44) (hf : Fit s) : Segs w (some ⟨g, 0, none⟩) [s] := by
  refine .inr ⟨g, 0, rfl, h.lt, fun j hj => ?_⟩
  obtain rfl : j = 0 := by simpa using hj
  exact ⟨h.cell rfl, h.cell rfl, h.cell rfl, h.cell rfl, hf⟩
set_option maxRecDepth 20000 in
set_option maxHeartbeats 1000000 in
theorem file_any (w : World) (ao : Option Addr) (n cap : Nat) (vs : List Nat) (h : WdsA w ao vs) (hv : ∀ x ∈ vs, x < 4294967296) (hn : vs.length = n) (hn5 : n ≤ 500) (hcap : n ≤ cap) (hmax : cap ≤ 9223372036854775807) : Calls Try.prog 20 #[.slice ao n cap] w fun e w' => ∃ g, e = .returned (.agg #[.int .u32 65536, .slice (some ⟨g, 0, none⟩) 1 1]) ∧ w.heap.size ≤ g ∧ Blk w' g #[.int .u32 65536, .string ⟨(vs.flatMap put32).toArray⟩, .int .u32 ((4 * vs.length + 256 : Nat) : Int), .int .i64 7] 44 ∧ Below w.heap.size w w' := by
  have hb0 := below_new w (.cells #[.int .u32 0, .slice none 0 0] 25)
  have HB0 := hidden hb0
  have HZ := hidden (Blk.new w #[.int .u32 0, .slice none 0 0] 25)
  have H37 : Hid (Calls Try.prog 49 #[.slice ao n cap] (w.alloc (.cells #[.int .u32 0, .slice none 0 0] 25)) fun e w' => ∃ va vc, e = .returned (.slice va (4 * n) vc) ∧ (convert 51 9 (.slice va (4 * n) vc)).run Try.prog w' = .ok (.string ⟨(vs.flatMap put32).toArray⟩) w' ∧ Below w.heap.size w w' ∧ Blk w' w.heap.size #[.int .u32 0, .slice none 0 0] 25) := by
    refine (code_any _ ao n cap vs (h.later hb0) hv hn hn5 hcap hmax).mono ?_
    rintro e w' ⟨v, he, ho, hb⟩
    obtain ⟨va, vc, hv2, hr⟩ := ho.row
    have hs := run_str w' va _ vc hr.lies
    rw [hv2] at he
    rw [flat32_len, hn] at he hs
    exact ⟨va, vc, he, hs, bthen hb0 hb, (Blk.new w _ 25).later hb⟩
  have q1 : (4 : Int) * (n : Int) + 256 ≤ 4000 := by omega
  have HN := hidden hn
  clear h hb0 hn
  go_enter Try.func20, Try.ntmps20
  go_wp2_with (go_at_call 49; with_reducible refine (Hid.out H37).mono ?_; rintro e w1 ⟨va, vc, rfl, hcv, hb, hz⟩; have HB := hidden hb; have HZ1 := hidden hz; obtain ⟨z0, z1, hzl, hzf⟩ := zero26 hz; clear hb hz)
  have hf : Blk _ w.heap.size _ 25 := (Hid.out HZ1).set2 (a' := .int .u32 65536) (b' := .slice (some ⟨w1.heap.size, 0, none⟩) 1 1)
  have hbf := below_set2 (a' := .int .u32 65536) (b' := .slice (some ⟨w1.heap.size, 0, none⟩) 1 1) (g := w.heap.size) (Hid.out HB) (Nat.le_refl _)
  have hsz : ((w1.setCell ⟨w.heap.size, 0, none⟩ (.int .u32 65536)).setCell ⟨w.heap.size, 1, none⟩ (.slice (some ⟨w1.heap.size, 0, none⟩) 1 1)).heap.size = w1.heap.size := by simp [World.setCell]
  generalize World.setCell _ _ _ = wf at hf hbf hsz ⊢
  have hnb := Blk.new wf #[.int .u32 65536, .string ⟨(vs.flatMap put32).toArray⟩, .int .u32 (4 * (n : Int) + 256), .int .i64 7] 44
  rw [hsz] at hnb
  have hf2 := hf.later (below_new wf (.cells #[.int .u32 65536, .string ⟨(vs.flatMap put32).toArray⟩, .int .u32 (4 * (n : Int) + 256), .int .i64 7] 44))
  have hbf2 := bthen hbf (below_new wf (.cells #[.int .u32 65536, .string ⟨(vs.flatMap put32).toArray⟩, .int .u32 (4 * (n : Int) + 256), .int .i64 7] 44))
  generalize World.alloc _ _ = wg at hf2 hbf2 hnb ⊢
  have f0 : wg.cell? ⟨w.heap.size, 0, none⟩ = some (.int .u32 65536) := hf2.cell rfl
  have f1 : wg.cell? ⟨w.heap.size, 1, none⟩ = some (.slice (some ⟨w1.heap.size, 0, none⟩) 1 1) := hf2.cell rfl
  have e4 : (4 : Int) * (n : Int) + 256 = ((4 * vs.length + 256 : Nat) : Int) := by rw [Hid.out HN]; omega
  rw [e4] at hnb
  exact bodyPost_ret (v := .agg #[.int .u32 65536, .slice (some ⟨w1.heap.size, 0, none⟩) 1 1]) (by simp [results, Try.results20, go_sem, f0, f1]) rfl ⟨w1.heap.size, rfl, (Hid.out HB).size, hnb, hbf2⟩
theorem file_ok {vs : List Nat} (h : vs.length ≤ 500) : checkE 65536 [fileSg vs] = 0 := by
  have hl := flat32_len vs
  have ho : okB (fileSg vs) = true := by
    unfold okB fitsB
    rw [decide_eq_true (show (fileSg vs).size ≠ 0 by show 4 * vs.length + 256 ≠ 0; omega), decide_eq_true (show (fileSg vs).size ≤ 16384 by show 4 * vs.length + 256 ≤ 16384; omega), decide_eq_true (show (fileSg vs).data.length ≤ (fileSg vs).size by show (vs.flatMap put32).length ≤ 4 * vs.length + 256; omega), decide_eq_true (show (fileSg vs).at_ + (fileSg vs).size ≤ 2147483648 by show 65536 + (4 * vs.length + 256) ≤ 2147483648; omega)]
    rfl
  have hv : overB [fileSg vs] = false := over_no (by
    intro a b h1 h2
    simp at h2
    omega)
  have he : enterB 65536 [fileSg vs] = true := by
    simp [enterB, runsB, fileSg]
  unfold checkE
  rw [if_neg (by simp), if_neg (by simp [ho]), if_neg (by rw [hv]; simp), if_neg (by rw [he]; simp)]
theorem file_make {vs : List Nat} (h : vs.length ≤ 500) : makeE 65536 [fileSg vs] = (fileB 65536 [fileSg vs], 0) := by
  have hl := fileB_len 65536 [fileSg vs]
  have hd : (datasB [fileSg vs]).length = 4 * vs.length := by
    show ((vs.flatMap put32) ++ []).length = _
    rw [List.append_nil, flat32_len]
  unfold makeE
  rw [if_neg (by rw [file_ok h]; simp), if_neg (by rw [hl, hd]; simp; omega)]
end Go.Proofs.Ytpknppicamefgaa

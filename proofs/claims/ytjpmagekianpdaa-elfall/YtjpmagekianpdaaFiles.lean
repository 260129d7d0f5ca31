/- Files of words, and what the laws share. -/
import Derived.Test.YtjpmagekianpdaaParse
import Derived.Test.YtjpmagekianpdaaMakes
namespace Go.Proofs.Ytjpmagekianpdaa
open Go.ChangeShapes Go.WideShapes Go.ChangeAt Go.RowKit
set_option linter.unusedVariables false
def Wds (w : World) (ao : Option Addr) (vs : List Nat) : Prop := vs = [] ∨ ∃ b off, ao = some ⟨b, off, none⟩ ∧ b < w.heap.size ∧ ∀ j, j < vs.length → w.cell? ⟨b, off + j, none⟩ = some (.int .u32 ((vs.getD j 0 : Nat) : Int))
theorem Wds.later {w w' : World} {ao : Option Addr} {vs : List Nat} (h : Wds w ao vs) (hb : Below w.heap.size w w') : Wds w' ao vs := by
  rcases h with h | ⟨b, off, e, hlt, hc⟩
  · exact .inl h
  · exact .inr ⟨b, off, e, Nat.lt_of_lt_of_le hlt hb.size, fun j hj => (hb.cell (p := ⟨b, off + j, none⟩) hlt).trans (hc j hj)⟩
theorem Wds.at {w : World} {ao : Option Addr} {vs : List Nat} (h : Wds w ao vs) {k : Nat} (hk : k < vs.length) : ∃ b off, ao = some ⟨b, off, none⟩ ∧ b < w.heap.size ∧ ∀ j, j < vs.length → w.cell? ⟨b, off + j, none⟩ = some (.int .u32 ((vs.getD j 0 : Nat) : Int)) := by
  rcases h with h | h
  · rw [h] at hk; simp at hk
  · exact h
theorem rput_any (a : Int) (h1 : 0 ≤ a) (h2 : a < 4294967296) (w : World) :
    Calls Try.prog 46 #[.int .u32 a] w fun e w' => e = .returned (.slice (some ⟨w.heap.size, 0, none⟩) 4 4) ∧ w' = w.alloc (.cells #[.int .u8 (a / 16777216), .int .u8 (a / 65536 % 256), .int .u8 (a / 256 % 256), .int .u8 (a % 256)] 5) := by
  go_enter Try.func46, Try.ntmps46
  go_wp2
  go_ret
  exact ⟨rfl, rfl⟩
set_option maxRecDepth 20000 in
set_option maxHeartbeats 1000000 in
theorem code_any (w : World) (ao : Option Addr) (n cap : Nat) (vs : List Nat) (h : Wds w ao vs) (hv : ∀ x ∈ vs, x < 4294967296) (hn : vs.length = n) (hn5 : n ≤ 500) (hcap : n ≤ cap) (hmax : cap ≤ 9223372036854775807) : Calls Try.prog 37 #[.slice ao n cap] w fun e w' => ∃ v, e = .returned v ∧ Out w' w.heap.size v (vs.flatMap put32) ∧ Below w.heap.size w w' := by
  have H := hidden h
  have HV := hidden hv
  have HN := hidden hn
  clear h hv hn
  go_enter Try.func37, Try.ntmps37
  go_wp2
  go_loopw [3, 4] (fun x3 x4 wr => ∃ k : Nat, k ≤ n ∧ x4 = .int .i64 (k : Int) ∧ Out wr w.heap.size x3 ((vs.take k).flatMap put32) ∧ Below w.heap.size w wr) (fun x3 x4 _ => n - (intOf x4).toNat)
  case atStart => exact ⟨0, by omega, rfl, out_nil _ _, Below.refl _ _⟩
  case round =>
    obtain ⟨k, hk, rfl, ho, hb⟩ := hrel
    have HB := hidden hb
    by_cases hkn : k < n
    · have hkn2 : (k : Int) < (n : Int) := by omega
      have hkv : k < vs.length := by rw [Hid.out HN]; exact hkn
      obtain ⟨b, off, rfl, hlt, hc⟩ := ((Hid.out H).later hb).at hkv
      obtain ⟨x, hx⟩ : ∃ x, x = vs.getD k 0 := ⟨_, rfl⟩
      have hxm : x < 4294967296 := by
        rw [hx, List.getD_eq_getElem?_getD, List.getElem?_eq_getElem hkv, Option.getD_some]
        exact Hid.out HV _ (List.getElem_mem hkv)
      have hck := hc k hkv
      rw [← hx] at hck
      have hb2 := below_new wr (.cells #[.int .u8 ((x : Int) / 16777216), .int .u8 ((x : Int) / 65536 % 256), .int .u8 ((x : Int) / 256 % 256), .int .u8 ((x : Int) % 256)] 5)
      have hnew := Blk.new wr #[.int .u8 ((x : Int) / 16777216), .int .u8 ((x : Int) / 65536 % 256), .int .u8 ((x : Int) / 256 % 256), .int .u8 ((x : Int) % 256)] 5
      obtain ⟨v', w', hr, ho', hg'⟩ := run_more (ho.later hb2) (Nat.le_trans hb.size hb2.size) ⟨wr.heap.size, 0, none⟩ 4 (put32 x) (by
        intro j u hu
        rw [cells_put32 x hxm] at hu
        rw [Addr.add_lit, Nat.zero_add]
        exact hnew.cell (by simpa using hu)) (by rw [flat32_len, List.length_take, put32_len]; omega)
      have HR := hidden hr
      have HO : Hid (Out w' w.heap.size v' ((vs.take (k + 1)).flatMap put32)) := by
        show Out _ _ _ _
        rw [take_flat _ _ _ hkv, ← hx]
        exact ho'
      have HB2 := hidden (hb.trans ((hb2.mono hb.size).trans hg'.below))
      have H46 := hidden (rput_any (x : Int) (by omega) (by omega) wr)
      clear hr ho' hg' ho hb hc hx hnew hb2
      go_wp2_with (first | (go_at_call 46; with_reducible refine (Hid.out H46).mono ?_; rintro e w1 ⟨rfl, hww⟩; rw [hww]; clear hww w1) | (at_builtin; refine wpList_append_run rfl _ _ 22 22 rfl rfl rfl (Hid.out HR) ?_))
      go_roundw
      case rel => first | exact ⟨k + 1, by omega, by simp, Hid.out HO, Hid.out HB2⟩ | ((repeat apply Exists.intro); first | exact ⟨⟨k + 1, by omega, by simp, Hid.out HO, Hid.out HB2⟩, rfl⟩ | exact ⟨⟨k + 1, by omega, by simp, Hid.out HO, Hid.out HB2⟩, rfl, rfl⟩)
      case measure => simp [intOf]; omega
    · have hkn2 : ¬ (k : Int) < (n : Int) := by omega
      have HO : Hid (Out wr w.heap.size u3 (vs.flatMap put32)) := by
        have h2 := Hid.out HN
        rw [List.take_of_length_le (by omega)] at ho
        exact ho
      clear ho hb
      go_wp2
      go_ret
      exact ⟨_, rfl, Hid.out HO, Hid.out HB⟩
/-- The one segment of a file of words. -/
def fileSg (vs : List Nat) : Sg := ⟨65536, vs.flatMap put32, 4 * vs.length + 256, 7⟩
theorem fileSg_fit {vs : List Nat} (h : vs.length ≤ 500) : Fit (fileSg vs) := ⟨by show 65536 < _; omega, by show 4 * vs.length + 256 < _; omega, by show (vs.flatMap put32).length ≤ _; rw [flat32_len]; omega⟩
theorem segs_one {w : World} {g : Nat} {s : Sg} (h : Blk w g #[.int .u32 (s.at_ : Int), .string ⟨s.data.toArray⟩, .int .u32 (s.size : Int), .int .i64 s.perm] 43) (hf : Fit s) : Segs w (some ⟨g, 0, none⟩) [s] := by
  refine .inr ⟨g, 0, rfl, h.lt, fun j hj => ?_⟩
  obtain rfl : j = 0 := by simpa using hj
  exact ⟨h.cell rfl, h.cell rfl, h.cell rfl, h.cell rfl, hf⟩
set_option maxRecDepth 20000 in
set_option maxHeartbeats 1000000 in
theorem file_any (w : World) (ao : Option Addr) (n cap : Nat) (vs : List Nat) (h : Wds w ao vs) (hv : ∀ x ∈ vs, x < 4294967296) (hn : vs.length = n) (hn5 : n ≤ 500) (hcap : n ≤ cap) (hmax : cap ≤ 9223372036854775807) : Calls Try.prog 19 #[.slice ao n cap] w fun e w' => ∃ g, e = .returned (.agg #[.int .u32 65536, .slice (some ⟨g, 0, none⟩) 1 1]) ∧ w.heap.size ≤ g ∧ Blk w' g #[.int .u32 65536, .string ⟨(vs.flatMap put32).toArray⟩, .int .u32 ((4 * vs.length + 256 : Nat) : Int), .int .i64 7] 43 ∧ Below w.heap.size w w' := by
  have hb0 := below_new w (.cells #[.int .u32 0, .slice none 0 0] 26)
  have HB0 := hidden hb0
  have HZ := hidden (Blk.new w #[.int .u32 0, .slice none 0 0] 26)
  have H37 : Hid (Calls Try.prog 37 #[.slice ao n cap] (w.alloc (.cells #[.int .u32 0, .slice none 0 0] 26)) fun e w' => ∃ va vc, e = .returned (.slice va (4 * n) vc) ∧ (convert 22 9 (.slice va (4 * n) vc)).run Try.prog w' = .ok (.string ⟨(vs.flatMap put32).toArray⟩) w' ∧ Below w.heap.size w w' ∧ Blk w' w.heap.size #[.int .u32 0, .slice none 0 0] 26) := by
    refine (code_any _ ao n cap vs (h.later hb0) hv hn hn5 hcap hmax).mono ?_
    rintro e w' ⟨v, he, ho, hb⟩
    obtain ⟨va, vc, hv2, hr⟩ := ho.row
    have hs := run_str w' va _ vc hr.lies
    rw [hv2] at he
    rw [flat32_len, hn] at he hs
    exact ⟨va, vc, he, hs, bthen hb0 hb, (Blk.new w _ 26).later hb⟩
  have q1 : (4 : Int) * (n : Int) + 256 ≤ 4000 := by omega
  have HN := hidden hn
  clear h hb0 hn
  go_enter Try.func19, Try.ntmps19
  go_wp2_with (go_at_call 37; with_reducible refine (Hid.out H37).mono ?_; rintro e w1 ⟨va, vc, rfl, hcv, hb, hz⟩; have HB := hidden hb; have HZ1 := hidden hz; obtain ⟨z0, z1, hzl, hzf⟩ := zero26 hz; clear hb hz)
  have hf : Blk _ w.heap.size _ 26 := (Hid.out HZ1).set2 (a' := .int .u32 65536) (b' := .slice (some ⟨w1.heap.size, 0, none⟩) 1 1)
  have hbf := below_set2 (a' := .int .u32 65536) (b' := .slice (some ⟨w1.heap.size, 0, none⟩) 1 1) (g := w.heap.size) (Hid.out HB) (Nat.le_refl _)
  have hsz : ((w1.setCell ⟨w.heap.size, 0, none⟩ (.int .u32 65536)).setCell ⟨w.heap.size, 1, none⟩ (.slice (some ⟨w1.heap.size, 0, none⟩) 1 1)).heap.size = w1.heap.size := by simp [World.setCell]
  generalize World.setCell _ _ _ = wf at hf hbf hsz ⊢
  have hnb := Blk.new wf #[.int .u32 65536, .string ⟨(vs.flatMap put32).toArray⟩, .int .u32 (4 * (n : Int) + 256), .int .i64 7] 43
  rw [hsz] at hnb
  have hf2 := hf.later (below_new wf (.cells #[.int .u32 65536, .string ⟨(vs.flatMap put32).toArray⟩, .int .u32 (4 * (n : Int) + 256), .int .i64 7] 43))
  have hbf2 := bthen hbf (below_new wf (.cells #[.int .u32 65536, .string ⟨(vs.flatMap put32).toArray⟩, .int .u32 (4 * (n : Int) + 256), .int .i64 7] 43))
  generalize World.alloc _ _ = wg at hf2 hbf2 hnb ⊢
  have f0 : wg.cell? ⟨w.heap.size, 0, none⟩ = some (.int .u32 65536) := hf2.cell rfl
  have f1 : wg.cell? ⟨w.heap.size, 1, none⟩ = some (.slice (some ⟨w1.heap.size, 0, none⟩) 1 1) := hf2.cell rfl
  have e4 : (4 : Int) * (n : Int) + 256 = ((4 * vs.length + 256 : Nat) : Int) := by rw [Hid.out HN]; omega
  rw [e4] at hnb
  exact bodyPost_ret (v := .agg #[.int .u32 65536, .slice (some ⟨w1.heap.size, 0, none⟩) 1 1]) (by simp [results, Try.results19, go_sem, f0, f1]) rfl ⟨w1.heap.size, rfl, (Hid.out HB).size, hnb, hbf2⟩
theorem file_ok {vs : List Nat} (h : vs.length ≤ 500) : checkE 65536 [fileSg vs] = 0 := by
  have hl := flat32_len vs
  have ho : okB (fileSg vs) = true := by
    unfold okB fitsB
    rw [decide_eq_true (show (fileSg vs).size ≠ 0 by show 4 * vs.length + 256 ≠ 0; omega), decide_eq_true (show (fileSg vs).size ≤ 16384 by show 4 * vs.length + 256 ≤ 16384; omega), decide_eq_true (show (fileSg vs).data.length ≤ (fileSg vs).size by show (vs.flatMap put32).length ≤ 4 * vs.length + 256; omega), decide_eq_true (show (fileSg vs).at_ + (fileSg vs).size ≤ 2147483648 by show 65536 + (4 * vs.length + 256) ≤ 2147483648; omega)]
    rfl
  have hv : overB [fileSg vs] = false := over_no (by
    intro a b h1 h2
    simp at h2
    omega)
  have he : enterB 65536 [fileSg vs] = true := by
    simp [enterB, runsB, fileSg]
  unfold checkE
  rw [if_neg (by simp), if_neg (by simp [ho]), if_neg (by rw [hv]; simp), if_neg (by rw [he]; simp)]
theorem file_make {vs : List Nat} (h : vs.length ≤ 500) : makeE 65536 [fileSg vs] = (fileB 65536 [fileSg vs], 0) := by
  have hl := fileB_len 65536 [fileSg vs]
  have hd : (datasB [fileSg vs]).length = 4 * vs.length := by
    show ((vs.flatMap put32) ++ []).length = _
    rw [List.append_nil, flat32_len]
  unfold makeE
  rw [if_neg (by rw [file_ok h]; simp), if_neg (by rw [hl, hd]; simp; omega)]
theorem parse4 : parseE [127, 69, 76, 70] = (0, [], 3) := by
  have : headE [127, 69, 76, 70] = 3 := by decide
  unfold parseE
  rw [if_pos (by rw [this]; simp), this]
theorem row4 (w : World) : Row (w.alloc (.cells #[.int .u8 127, .int .u8 69, .int .u8 76, .int .u8 70] 5)) (some ⟨w.heap.size, 0, none⟩) [127, 69, 76, 70] 4 := by
  refine ⟨by simp, by simp [maxLen], by simp, .inr ⟨w.heap.size, 0, rfl, fun j hj => ?_⟩⟩
  have hn := Blk.new w #[.int .u8 127, .int .u8 69, .int .u8 76, .int .u8 70] 5
  rw [Nat.zero_add]
  refine hn.cell ?_
  match j, hj with
  | 0, _ => rfl
  | 1, _ => rfl
  | 2, _ => rfl
  | 3, _ => rfl
set_option maxRecDepth 20000 in
set_option maxHeartbeats 1000000 in
theorem awake_any (w : World) : Calls Try.prog 9 #[] w fun e w' => e = .returned (.bool true) ∧ Below w.heap.size w w' := by
  have H10 : Hid (Calls Try.prog 10 #[.slice (some ⟨w.heap.size, 0, none⟩) 4 4] (w.alloc (.cells #[.int .u8 127, .int .u8 69, .int .u8 76, .int .u8 70] 5)) fun e w' => ∃ pa pc, e = .returned (.tuple #[.agg #[.int .u32 0, .slice pa 0 pc], .int .i64 3]) ∧ Below w.heap.size w w') := by
    have := parse_any _ _ _ 4 (row4 w) (by simp)
    rw [parse4] at this
    refine this.mono ?_
    rintro e w' ⟨pa, pc, he, _, _, _, hb⟩
    exact ⟨pa, pc, he, bthen (below_new w _) hb⟩
  have H19 : Hid (∀ w1 g0, g0 = w1.heap.size → Below w.heap.size w w1 → Calls Try.prog 19 #[.slice (some ⟨g0, 0, none⟩) 1 1] (w1.alloc (.cells #[.int .u32 0] 23)) fun e w' => ∃ g, e = .returned (.agg #[.int .u32 65536, .slice (some ⟨g, 0, none⟩) 1 1]) ∧ Segs w' (some ⟨g, 0, none⟩) [fileSg [0]] ∧ Below w.heap.size w w') := by
    intro w1 g0 hg0 hb1
    subst hg0
    have hn := Blk.new w1 #[.int .u32 0] 23
    refine (file_any _ (some ⟨w1.heap.size, 0, none⟩) 1 1 [0] (.inr ⟨w1.heap.size, 0, rfl, hn.lt, fun j hj => ?_⟩) (by simp) rfl (by omega) (by omega) (by omega)).mono ?_
    · obtain rfl : j = 0 := by simpa using hj
      exact hn.cell rfl
    · rintro e w' ⟨g, he, _, hg, hb⟩
      exact ⟨g, he, segs_one (s := fileSg [0]) hg (fileSg_fit (by simp)), bthen (bthen hb1 (below_new w1 _)) hb⟩
  have H13 : Hid (∀ w1 g, Below w.heap.size w w1 → Segs w1 (some ⟨g, 0, none⟩) [fileSg [0]] → Calls Try.prog 13 #[.agg #[.int .u32 65536, .slice (some ⟨g, 0, none⟩) 1 1]] w1 fun e w' => ∃ va vc, e = .returned (.tuple #[.slice va 88 vc, .int .i64 0]) ∧ Below w1.heap.size w1 w') := by
    intro w1 g hb hs
    have := make_any w1 _ 1 65536 [fileSg [0]] hs (by simp) (by omega) (by omega)
    rw [file_make (vs := [0]) (by simp)] at this
    refine this.mono ?_
    rintro e w' ⟨v, he, ho, hb'⟩
    obtain ⟨va, vc, hv, _⟩ := ho.row
    rw [hv] at he
    exact ⟨va, vc, he, hb'⟩
  have H16 : Hid (∀ w1 g, Segs w1 (some ⟨g, 0, none⟩) [fileSg [0]] → Calls Try.prog 16 #[.agg #[.int .u32 65536, .slice (some ⟨g, 0, none⟩) 1 1]] w1 fun e w' => e = .returned (.int .i64 0) ∧ Below w1.heap.size w1 w') := by
    intro w1 g hs
    have := check_any w1 _ 1 65536 [fileSg [0]] hs (by simp) (by omega) (by omega)
    rw [file_ok (vs := [0]) (by simp)] at this
    exact this
  go_enter Try.func9, Try.ntmps9
  go_wp2_with (first | (go_at_call 10; with_reducible refine (Hid.out H10).mono ?_; rintro e wa ⟨pa, pc, rfl, hb⟩; have HA := hidden (bthen hb (below_new wa (.cells #[.int .u32 0, .slice pa 0 pc] 26))); clear hb) | (go_at_call 19; with_reducible refine (Hid.out H19 _ (wa.heap.size + 1) (World.size_alloc _ _).symm (Hid.out HA)).mono ?_; rintro e wb ⟨g, rfl, hs, hb⟩; have hb2 := below_new wb (.cells #[.int .u32 65536, .slice (some ⟨g, 0, none⟩) 1 1] 26); have HB := hidden (bthen hb hb2); have HS := hidden (Segs.later hs hb2); have HF := hidden (Blk.new wb #[.int .u32 65536, .slice (some ⟨g, 0, none⟩) 1 1] 26); clear hs hb hb2) | (go_at_call 13; with_reducible refine (Hid.out H13 _ g (Hid.out HB) (Hid.out HS)).mono ?_; rintro e wc ⟨va, vc, rfl, hb⟩; have HC := hidden (bthen (Hid.out HB) hb); have HSC := hidden (Segs.later (Hid.out HS) hb); have hfc := Blk.later (Hid.out HF) hb; have c0 : wc.cell? ⟨wb.heap.size, 0, none⟩ = some (.int .u32 65536) := Blk.cell hfc rfl; have c1 : wc.cell? ⟨wb.heap.size, 1, none⟩ = some (.slice (some ⟨g, 0, none⟩) 1 1) := Blk.cell hfc rfl; have hfl := Blk.lt hfc; clear hb hfc) | (go_at_call 16; with_reducible refine (Hid.out H16 _ g (Hid.out HSC)).mono ?_; rintro e wd ⟨rfl, hb⟩; have HD := hidden (bthen (Hid.out HC) hb); clear hb))

  go_ret
  exact ⟨rfl, Hid.out HD⟩
def fewB (l : List Sg) : Bool := (l.take 12).all (fun s => decide (s.data.length ≤ 4000)) && decide (l.length ≤ 12)
set_option maxRecDepth 20000 in
set_option maxHeartbeats 1000000 in
theorem few_any (w : World) (ao : Option Addr) (cap ent : Nat) (l : List Sg) (h : Segs w ao l) (hcap : l.length ≤ cap) (hmax : cap ≤ 9223372036854775807) : Calls Try.prog 8 #[.agg #[.int .u32 (ent : Int), .slice ao l.length cap]] w fun e w' => e = .returned (.bool (fewB l)) ∧ Below w.heap.size w w' := by
  have hb0 := below_new w (.cells #[.int .u32 (ent : Int), .slice ao l.length cap] 26)
  have H := hidden (h.later hb0)
  have HB0 := hidden hb0
  have HF := hidden (Blk.new w #[.int .u32 (ent : Int), .slice ao l.length cap] 26)
  clear h hb0
  go_enter Try.func8, Try.ntmps8
  go_wp2
  go_loopw [3] (fun x3 wr => ∃ k : Nat, k ≤ l.length ∧ k ≤ 12 ∧ x3 = .int .i64 (k : Int) ∧ wr = w.alloc (.cells #[.int .u32 (ent : Int), .slice ao l.length cap] 26) ∧ ∀ j, j < k → (l.getD j nosg).data.length ≤ 4000) (fun x3 _ => 12 - (intOf x3).toNat)
  case atStart => exact ⟨0, by omega, by omega, rfl, rfl, by omega⟩
  case round =>
    obtain ⟨k, hk1, hk2, rfl, hwr, hall⟩ := hrel
    have HA := hidden hall
    have HF2 : Hid (Blk wr w.heap.size #[.int .u32 (ent : Int), .slice ao l.length cap] 26) := by rw [hwr]; exact Hid.out HF
    have HS2 : Hid (Segs wr ao l) := by rw [hwr]; exact Hid.out H
    have HB2 : Hid (Below w.heap.size w wr) := by rw [hwr]; exact Hid.out HB0
    have HWR := hidden hwr
    have g1 : wr.cell? ⟨w.heap.size, 1, none⟩ = some (.slice ao l.length cap) := (Hid.out HF2).cell rfl
    have hgl := (Hid.out HF2).lt
    clear hall hwr
    by_cases hkl : k < l.length
    · have hkl2 : (k : Int) < (l.length : Int) := by omega
      by_cases hk12 : k < 12
      · have hk122 : (k : Int) < 12 := by omega
        obtain ⟨b, off, rfl, hlt, hc⟩ := (Hid.out HS2).at hkl
        obtain ⟨c0, c1, c2, c3, fit⟩ := hc k hkl
        have hld := fit.ld
        obtain ⟨d, hd⟩ : ∃ d, d = (l.getD k nosg).data := ⟨_, rfl⟩
        rw [← hd] at c1 hld
        have HD := hidden hd
        have hds : (ByteArray.mk d.toArray).size = d.length := by simp [ByteArray.size]
        clear hc c0 c2 c3 fit hd
        by_cases h4 : d.length ≤ 4000
        · have h42 : ¬ (4000 : Int) < (d.length : Int) := by omega
          go_wp2
          go_roundw
          case rel => first | exact ⟨k + 1, by omega, by omega, by simp, Hid.out HWR, upto (P := fun j => (l.getD j nosg).data.length ≤ 4000) (Hid.out HA) (by rw [← Hid.out HD]; exact h4)⟩ | ((repeat apply Exists.intro); exact ⟨⟨k + 1, by omega, by omega, by simp, Hid.out HWR, upto (P := fun j => (l.getD j nosg).data.length ≤ 4000) (Hid.out HA) (by rw [← Hid.out HD]; exact h4)⟩, rfl⟩)
          case measure => simp [intOf]; omega
        · have h42 : (4000 : Int) < (d.length : Int) := by omega
          have HR : Hid (fewB l = false) := by
            show fewB l = false
            unfold fewB
            rw [Bool.and_eq_false_iff]
            left
            refine all_no (j := k) (by rw [List.length_take]; omega) ?_
            rw [List.getD_eq_getElem?_getD, List.getElem?_take_of_lt hk12, ← List.getD_eq_getElem?_getD, ← Hid.out HD]
            exact decide_eq_false h4
          go_wp2
          go_ret
          exact ⟨ret_bool (Hid.out HR).symm, Hid.out HB2⟩
      · have hk122 : ¬ (k : Int) < 12 := by omega
        have hl12 : ¬ (l.length : Int) ≤ 12 := by omega
        have HR : Hid (fewB l = false) := by
          show fewB l = false
          unfold fewB
          rw [decide_eq_false (show ¬ l.length ≤ 12 by omega), Bool.and_false]
        go_wp2
        go_ret
        exact ⟨ret_bool (Hid.out HR).symm, Hid.out HB2⟩
    · have hkl2 : decide ((k : Int) < (l.length : Int)) = false := by simp; omega
      have hl12 : (l.length : Int) ≤ 12 := by omega
      have HR : Hid (fewB l = true) := by
        show fewB l = true
        unfold fewB
        rw [decide_eq_true (show l.length ≤ 12 by omega), Bool.and_true]
        refine all_yes fun j hj => ?_
        rw [List.length_take] at hj
        rw [List.getD_eq_getElem?_getD, List.getElem?_take_of_lt (by omega), ← List.getD_eq_getElem?_getD]
        exact decide_eq_true (Hid.out HA j (by omega))
      go_wp2
      go_ret
      exact ⟨ret_bool (Hid.out HR).symm, Hid.out HB2⟩
end Go.Proofs.Ytjpmagekianpdaa

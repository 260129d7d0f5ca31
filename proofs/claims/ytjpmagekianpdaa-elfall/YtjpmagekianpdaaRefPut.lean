/- Chapter 6's own put32 and put16: bytes that are put behind others. -/
import Derived.Test.YtjpmagekianpdaaFiles
namespace Go.Proofs.Ytjpmagekianpdaa
open Go.ChangeShapes Go.WideShapes Go.ChangeAt Go.RowKit
set_option linter.unusedVariables false
set_option maxRecDepth 20000 in
theorem rput32_any (w : World) (base : Nat) (v : Value) (l : List UInt8) (x : Nat) (h : Out w base v l) (hb : base ≤ w.heap.size) (hl : l.length ≤ 900000) (hx : x < 4294967296) : Calls Try.prog 43 #[v, .int .i64 (x : Int)] w fun e w' => ∃ v', e = .returned v' ∧ Out w' base v' (l ++ put32 x) ∧ Grew base w w' := by
  have hb2 := below_new w (.cells #[.int .u8 ((x : Int) / 16777216), .int .u8 ((x : Int) / 65536 % 256), .int .u8 ((x : Int) / 256 % 256), .int .u8 ((x : Int) % 256)] 5)
  have hnew := Blk.new w #[.int .u8 ((x : Int) / 16777216), .int .u8 ((x : Int) / 65536 % 256), .int .u8 ((x : Int) / 256 % 256), .int .u8 ((x : Int) % 256)] 5
  obtain ⟨v', w', hr, ho', hg'⟩ := run_more (h.later hb2) (Nat.le_trans hb hb2.size) ⟨w.heap.size, 0, none⟩ 4 (put32 x) (by
    intro j u hu
    rw [cells_put32 x hx] at hu
    rw [Addr.add_lit, Nat.zero_add]
    exact hnew.cell (by simpa using hu)) (by rw [put32_len]; omega)
  have HR := hidden hr
  have HO := hidden ho'
  have HG := hidden ((Grew.of hb2 hb).trans hg')
  have H46 := hidden (rput_any (x : Int) (by omega) (by omega) w)
  clear hr ho' hg' hnew hb2 h
  go_enter Try.func43, Try.ntmps43
  go_wp2_with (first | (go_at_call 46; with_reducible refine (Hid.out H46).mono ?_; rintro e w1 ⟨rfl, hww⟩; rw [hww]; clear hww w1) | (at_builtin; refine wpList_append_run rfl _ _ 22 22 rfl rfl rfl (Hid.out HR) ?_))
  go_ret
  exact ⟨_, rfl, Hid.out HO, Hid.out HG⟩
set_option maxRecDepth 20000 in
theorem rput16_any (w : World) (base : Nat) (v : Value) (l : List UInt8) (x : Nat) (h : Out w base v l) (hb : base ≤ w.heap.size) (hl : l.length ≤ 900000) (hx : x < 65536) : Calls Try.prog 44 #[v, .int .i64 (x : Int)] w fun e w' => ∃ v', e = .returned v' ∧ Out w' base v' (l ++ put16 x) ∧ Grew base w w' := by
  have hb2 := below_new w (.cells #[.int .u8 ((x : Int) / 256 % 256), .int .u8 ((x : Int) % 256)] 5)
  have hnew := Blk.new w #[.int .u8 ((x : Int) / 256 % 256), .int .u8 ((x : Int) % 256)] 5
  obtain ⟨v', w', hr, ho', hg'⟩ := run_more (h.later hb2) (Nat.le_trans hb hb2.size) ⟨w.heap.size, 0, none⟩ 2 (put16 x) (by
    intro j u hu
    rw [cells_put16 x] at hu
    rw [Addr.add_lit, Nat.zero_add]
    exact hnew.cell (by simpa using hu)) (by rw [put16_len]; omega)
  have e1 : (x : Int) / 256 % 256 = (x : Int) / 256 := by omega
  rw [e1] at hr
  have HR := hidden hr
  have HO := hidden ho'
  have HG := hidden ((Grew.of hb2 hb).trans hg')
  clear hr ho' hg' hnew hb2 h
  go_enter Try.func44, Try.ntmps44
  go_wp2_with (at_builtin; refine wpList_append_run rfl _ _ 22 22 rfl rfl rfl (Hid.out HR) ?_)
  go_ret
  exact ⟨_, rfl, Hid.out HO, Hid.out HG⟩
end Go.Proofs.Ytjpmagekianpdaa

/- Bytes as texts and texts as bytes; what PutText answers. -/
import Derived.Test.YtokicdmbibbkpaaPuts
namespace Go.Proofs.Ytokicdmbibbkpaa
open Go.ChangeShapes Go.WideShapes Go.ChangeAt Go.RowKit
set_option linter.unusedVariables false
theorem run_str (w : World) (ao : Option Addr) (l : List UInt8) (cap : Nat) (h : Lies w ao l) : (convert 22 9 (.slice ao l.length cap)).run Try.prog w = .ok (.string ⟨l.toArray⟩) w := by
  by_cases h0 : l = []
  · subst h0
    rw [run_convert_bytes_string w 22 9 5 ao _ cap Try.underlying22 Try.underlying5 Try.underlying9]
    cases ao with
    | none => simp [Conv.bytesToString]; rfl
    | some a => simp [Conv.bytesToString, loadCells, loadCellsFrom]; rfl
  · rcases h with h | ⟨b, off, rfl, hc⟩
    · exact absurd h h0
    · refine run_convert_bytes_back w 22 9 5 ⟨b, off, none⟩ cap l Try.underlying22 Try.underlying5 Try.underlying9 ?_
      intro j hj
      rw [Addr.add_lit, hc j hj, List.getD_eq_getElem?_getD, List.getElem?_eq_getElem hj, Option.getD_some]
theorem run_bytes (w : World) (t : List UInt8) : ∃ g c w2, (convert 9 22 (.string ⟨t.toArray⟩)).run Try.prog w = .ok (.slice (some ⟨g, 0, none⟩) t.length c) w2 ∧ Lies w2 (some ⟨g, 0, none⟩) t ∧ Below w.heap.size w w2 := by
  have h := run_bytes_of_string (P := Try.prog) w 9 22 5 ⟨t.toArray⟩ Try.underlying9 Try.underlying22 Try.underlying5
  refine ⟨_, _, _, h, .inr ⟨w.heap.size, 0, rfl, fun j hj => ?_⟩, (Below.refl _ _).drew.alloc (by simp) _⟩
  refine (World.cell?_alloc_mark w.drew _ 5 _ (0 + j)).trans ?_
  rw [Nat.zero_add]
  unfold bytesRow
  rw [Array.getElem?_append_left (by simpa using hj)]
  simp [List.getD_eq_getElem?_getD, List.getElem?_eq_getElem hj]
set_option maxRecDepth 20000 in
set_option maxHeartbeats 2000000 in
theorem putText_any (ao : Option Addr) (cap : Nat) (l t : List UInt8) (w : World) (hl : Row w ao l cap) (hlen : l.length + 10 + t.length ≤ 140737488355328) :
    Calls Try.prog 10 #[.slice ao l.length cap, .string ⟨t.toArray⟩] w fun e w' => ∃ ao' cap', e = .returned (.slice ao' (l.length + (enc t.length).length + t.length) cap') ∧ Row w' ao' (l ++ enc t.length ++ t) cap' ∧ Below w.heap.size w w' := by
  have HL := hidden hl
  have he := enc_len t.length
  clear hl
  go_enter Try.func10, Try.ntmps10
  go_wp2_with (first | (go_at_call 8; refine (put_any ao cap l t.length ?_ _ (Hid.out HL) ?_).mono ?_; omega; omega; rintro e w' ⟨ap, cp, rfl, hr', hb'⟩; have HR := hidden hr'; have HB := hidden hb'; clear hr' hb'; obtain ⟨g, cg, w2, hcv, hli, hb2⟩ := run_bytes w' t; have HI := hidden hli; have HB2 := hidden (Below.trans (Hid.out HB) (Below.mono hb2 (Hid.out HB).size)); have HR2 := hidden (Row.later (Hid.out HR) hb2); clear hli hb2) | (go_at_call 16; have H16 := behind_any ap (some ⟨g, 0, none⟩) cp cg (l ++ enc t.length) t w2 (Hid.out HR2) (Hid.out HI) (by simp; omega); rw [List.length_append] at H16; refine H16.mono ?_; rintro e w3 ⟨ao', cap', rfl, hr', hb'⟩; have HR3 := hidden hr'; have HB3 := hidden (Below.trans (Hid.out HB2) (Below.mono hb' (Hid.out HB2).size)); clear hr' hb' H16))
  go_ret
  exact ⟨ao', cap', rfl, HR3, HB3⟩
end Go.Proofs.Ytokicdmbibbkpaa

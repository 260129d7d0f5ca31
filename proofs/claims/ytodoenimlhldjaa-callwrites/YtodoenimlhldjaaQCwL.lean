/- Rounds of writes: place, the memory, the call. -/
import Derived.Test.YtodoenimlhldjaaQMWG
import Derived.Test.YtodoenimlhldjaaQMWF
namespace Go.Proofs.Ytodoenimlhldjaa
open Go.ChangeShapes Go.WideShapes Go.ChangeAt Go.RowKit
set_option linter.unusedVariables false
/-- The memory of CallWrites. -/
def wrP (da : List UInt8) (bo : Option Addr) (cap : Nat) : Part4 := ⟨1024, da, 4, false, bo, cap⟩
def wrS (fd a k : Int) : SV := { stPN 4 8 with R := ((((List.replicate 32 (0 : Int)).set 2 4004).set 4 fd).set 5 a).set 6 k }
theorem wrS_ok (fd a k : Int) (h1 : 0 ≤ fd) (h2 : fd < 4294967296) (h3 : 0 ≤ a) (h4 : a < 4294967296) (h5 : 0 ≤ k) (h6 : k < 4294967296) : (wrS fd a k).ok := SV.ok_set (v := { stPN 4 8 with R := (((List.replicate 32 (0 : Int)).set 2 4004).set 4 fd).set 5 a }) (SV.ok_set (v := { stPN 4 8 with R := ((List.replicate 32 (0 : Int)).set 2 4004).set 4 fd }) (SV.ok_set (v := { stPN 4 8 with R := (List.replicate 32 (0 : Int)).set 2 4004 }) (SV.ok_set (v := stPN 4 8) (pn_ok 4 8 (by decide) (by decide) (by decide) (by decide)) 2 4004 (by decide) (by decide)) 4 fd h1 h2) 5 a h3 h4) 6 k h5 h6
theorem wr_span {s : MS} {da : List UInt8} {bo : Option Addr} {cap fr k : Nat} (h : s.abs = memOf [wrP da bo cap]) (hl : da.length ≤ 200) (hk : fr + k ≤ da.length) (h0 : da ≠ []) : s.span (1024 + fr) k = (da.drop fr).take k := by
  have h1 : 1 ≤ da.length := by cases da <;> simp_all
  apply List.ext_getElem (by rw [span_len]; simp; omega)
  intro i hi1 hi2
  rw [span_len] at hi1
  have hg : s.get (wrapAt (1024 + fr) i) = da.getD (fr + i) 0 := by
    rw [get_getA, h, show wrapAt (1024 + fr) i = wrapAt 1024 (fr + i) by unfold wrapAt; omega]
    exact one_get (wrP da bo cap) h1 (by show 1024 + da.length ≤ 4294967296; omega) (fr + i) (by show fr + i < da.length; omega)
  simp only [MS.span, List.getElem_map, List.getElem_range, List.getElem_take, List.getElem_drop]
  rw [hg, List.getD_eq_getElem?_getD, List.getElem?_eq_getElem (by omega), Option.getD_some]
theorem wr_may {s : MS} {da : List UInt8} {bo : Option Addr} {cap fr k : Nat} {fd : Int} (h : s.abs = memOf [wrP da bo cap]) (hl : da.length ≤ 200) (hk : fr + k ≤ da.length) (h0 : da ≠ []) : refV s (wrS fd ((1024 + fr : Nat) : Int) (k : Int)) true 4 = 0 := by
  have h1 : 1 ≤ da.length := by cases da <;> simp_all
  have hm : mayB s (1024 + fr) k 4 = true := mayB_yes fun j hj => by
    rw [perm_all (z := 4) (by rw [h]; exact one_allP (wrP da bo cap)) _ (by rw [h]; exact (one_some (wrP da bo cap) h1 _).2 ⟨fr + j, by show fr + j < da.length; omega, by show _ = pageOf (wrapAt 1024 (fr + j)); unfold wrapAt; rw [Nat.add_assoc]⟩)]
    decide
  have e6 : (wrS fd ((1024 + fr : Nat) : Int) (k : Int)).R.getD 6 0 = (k : Int) := rfl
  have e5 : (wrS fd ((1024 + fr : Nat) : Int) (k : Int)).R.getD 5 0 = ((1024 + fr : Nat) : Int) := rfl
  unfold refV
  rw [if_neg (by decide), e6, e5, if_neg (by omega), Int.toNat_natCast, Int.toNat_natCast]
  exact if_pos hm
/-- The world of CallWrites' rounds. -/
structure WI (u wr : World) (gq k : Nat) (rd ev : Value) (L : List (Int × ByteArray)) : Prop where
  c : Blk wr gq (cwC ⟨#[]⟩ 0 rd 0 ev) 38
  rd : Rw wr 1 rd 0 []
  ev : wr.ownsRow 0 66 2 ev k (cE L)
  len : L.length = k
  bel : Below u.heap.size u wr
/-- What the state behind the call says. -/
structure WV (V : SV) (k : Int) : Prop where
  len : V.R.length = 32
  r2 : V.R.getD 2 0 = k
  r7 : V.R.getD 7 0 = 0
theorem wr_call {s : MS} {u wr : World} {gq n fr k cap : Nat} {bo : Option Addr} {da : List UInt8} {rd ev : Value} {L : List (Int × ByteArray)} (hm : MemW u s) (hI : WI u wr gq n rd ev L) (h : s.abs = memOf [wrP da bo cap]) (hl : da.length ≤ 200) (hk : fr + k ≤ da.length) (h0 : da ≠ []) (hn : n ≤ 20) (fd : Int) (hfd : fd = 1 ∨ fd = 2) (w2 : World) (hb : Below wr.heap.size wr w2) : Calls Try.prog 13 #[.pointer (some ⟨s.mb, 0, none⟩), .agg (wrS fd ((1024 + fr : Nat) : Int) (k : Int)).c, .agg (cwC ⟨#[]⟩ 0 rd 0 ev)] w2 fun x w' => ∃ V rd' ev', x = .returned (.tuple #[.agg (SV.c V), .agg (cwC ⟨#[]⟩ 0 rd' 0 ev'), .int .i64 0, .int .u32 0]) ∧ WV V (k : Int) ∧ Fr w' 0 3 rd' 0 [] ∧ w'.ownsRow 0 66 2 ev' (n + 1) (cE (L ++ [(fd, ⟨((da.drop fr).take k).toArray⟩)])) ∧ Below w2.heap.size w2 w' := by
  have hu := hI.bel.trans (hb.mono hI.bel.size)
  have h2 := call_wr w2 s (hm.later hu) (wrS fd ((1024 + fr : Nat) : Int) (k : Int)) (wrS_ok _ _ _ (by omega) (by omega) (by omega) (by omega) (by omega) (by omega)) ⟨#[]⟩ 0 0 rd ev [] L (hI.rd.later hb) (by rw [hI.len]; exact (rw_of_own hI.ev).later hb) (by decide) (by rw [hI.len]; omega) rfl hfd (wr_may h hl hk h0)
  rw [show ((wrS fd ((1024 + fr : Nat) : Int) (k : Int)).R.getD 5 0).toNat = 1024 + fr from rfl, show ((wrS fd ((1024 + fr : Nat) : Int) (k : Int)).R.getD 6 0).toNat = k from rfl, show (wrS fd ((1024 + fr : Nat) : Int) (k : Int)).R.getD 6 0 = (k : Int) from rfl, show (wrS fd ((1024 + fr : Nat) : Int) (k : Int)).R.getD 4 0 = fd from rfl, wr_span h hl hk h0, hI.len] at h2
  refine h2.mono fun x w' hx => ?_
  obtain ⟨rd', ev', e, h3, h4, h5⟩ := hx
  exact ⟨ansV (wrS fd ((1024 + fr : Nat) : Int) (k : Int)) (k : Int) 0, rd', ev', e, ⟨rfl, rfl, rfl⟩, h3, h4, h5⟩
end Go.Proofs.Ytodoenimlhldjaa

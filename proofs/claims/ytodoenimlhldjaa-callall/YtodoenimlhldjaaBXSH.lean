/- What a call does, by the code and by the document: refused, exit, none, more. -/
import Derived.Test.YtodoenimlhldjaaBXSB
import Derived.Test.YtodoenimlhldjaaBMAO
import Derived.Test.YtodoenimlhldjaaBXRA
import Derived.Test.YtodoenimlhldjaaBXSA
import Derived.Test.YtodoenimlhldjaaBXSG
import Derived.Test.YtodoenimlhldjaaBXRB
import Derived.Test.YtodoenimlhldjaaBXSD
import Derived.Test.YtodoenimlhldjaaBXSE
import Derived.Test.YtodoenimlhldjaaBXSC
import Derived.Test.YtodoenimlhldjaaBXSF
import Derived.Test.YtodoenimlhldjaaBMAS
import Derived.Test.YtodoenimlhldjaaBMAU
import Derived.Test.YtodoenimlhldjaaBMAH
namespace Go.Proofs.Ytodoenimlhldjaa
open Go.ChangeShapes Go.WideShapes Go.ChangeAt Go.RowKit
set_option linter.unusedVariables false
/-- What the code's call leaves. -/
structure CodeOut (w : World) (s : MS) (V : SV) (inp : ByteArray) (a2 us2 : Int) (l : List Int) (e2 : List (Int × ByteArray)) (gg cc : Int) (Q : MS → Prop) (x : Ending) (w' : World) : Prop where
  out : ∃ rd' ev', x = .returned (.tuple #[.agg V.c, .agg (cwC inp a2 rd' us2 ev'), .int .i64 gg, .int .u32 cc]) ∧ w'.ownsRow 0 3 1 rd' l.length (cI l) ∧ w'.ownsRow 0 66 2 ev' e2.length (cE e2) ∧ ∃ s', Step w s w' s' ∧ Q s'
/-- What the document's call leaves. -/
structure RefOut (w : World) (t : S5) (V : SV) (inp : ByteArray) (a2 us2 : Int) (l : List Int) (e2 : List (Int × ByteArray)) (gg cc : Int) (Q : MS → Prop) (x : Ending) (w' : World) : Prop where
  out : ∃ rd' ev', x = .returned (.tuple #[.agg V.c, .agg (cwC inp a2 rd' us2 ev'), .int .i64 gg, .int .u32 cc]) ∧ Rw w' 1 rd' l.length (cI l) ∧ Rw w' 2 ev' e2.length (cE e2) ∧ ∃ t', Step5 w t w' t' ∧ t'.m = t.m ∧ ∃ sh, Sim sh t'.l ∧ sh.ts = t'.ts ∧ Q sh
/-- What a call does, by the code and by the document. -/
structure Both (s : MS) (v : SV) (inp : ByteArray) (a us : Int) (l : List Int) (e : List (Int × ByteArray)) (V : SV) (a2 us2 : Int) (e2 : List (Int × ByteArray)) (gg cc : Int) (Q : MS → Prop) : Prop where
  len : V.R.length = 32
  el : e2.length ≤ 21
  code : ∀ (w : World) (rd ev : Value), MemW w s → Rw w 1 rd l.length (cI l) → Rw w 2 ev e.length (cE e) → Calls Try.prog 13 #[.pointer (some ⟨s.mb, 0, none⟩), .agg v.c, .agg (cwC inp a rd us ev)] w fun x w' => CodeOut w s V inp a2 us2 l e2 gg cc Q x w'
  ref : ∀ (W w : World) (t : S5) (rd ev : Value), Below W.heap.size W w → (∀ b, foot5 t b → W.heap.size ≤ b) → M5 w t → Sim s t.l → s.ts = t.ts → s.most = t.most → Rw W 1 rd l.length (cI l) → Rw W 2 ev e.length (cE e) → Calls Try.prog 14 #[.pointer (some ⟨t.m, 0, none⟩), .agg v.c, .agg (cwC inp a rd us ev)] w fun x w' => RefOut w t V inp a2 us2 l e2 gg cc Q x w'
  uni : ∀ s1 s2, Q s1 → Q s2 → s1.abs = s2.abs ∧ s1.ts = s2.ts
  few : ∀ s1, Q s1 → s1.ts.length ≤ 16384
  mb : ∀ s1, Q s1 → s1.mb = s.mb
theorem own_keep5 {w w' : World} {t t' : S5} {N z m : Nat} {T : TypeId} {v : Value} {cs : List Value} (h : w.ownsRow N T z v m cs) (hM : M5 w t) (st : Step5 w t w' t') (h1 : T ≠ 96) (h2 : T ≠ 116) (h3 : T ≠ 23) : w'.ownsRow N T z v m cs := ownsRow_same h fun g hg => by
  obtain ⟨cur, hb⟩ : ∃ cur, Blk w g cur T := by
    rcases h.2 with ⟨e, _⟩ | ⟨g2, cap, cur, e, _, hb, _⟩
    · rw [e] at hg; cases hg
    · rw [e] at hg
      have : g2 = g := by injection hg
      rw [this] at hb
      exact ⟨cur, hb⟩
  exact st.keep.block g hb.lt (hM.not_u hb h1 h2 h3)
theorem own_above {w w' : World} {N z m : Nat} {T : TypeId} {v : Value} {cs : List Value} (h : w.ownsRow N T z v m cs) (hk : ∀ b, N ≤ b → b < w.heap.size → w'.heap[b]? = w.heap[b]?) : w'.ownsRow N T z v m cs := ownsRow_same h fun g hg => by
  rcases h.2 with ⟨e, _⟩ | ⟨g2, cap, cur, e, hN, hb, _⟩
  · rw [e] at hg; cases hg
  · rw [e] at hg
    have h1 : g2 = g := by injection hg
    rw [h1] at hb hN
    exact hk g hN (Array.getElem?_eq_some_iff.1 hb).1
theorem own_low {w : World} {M N z m : Nat} {T : TypeId} {v : Value} {cs : List Value} (h : w.ownsRow N T z v m cs) (hM : M ≤ N) : w.ownsRow M T z v m cs := by
  obtain ⟨hl, h⟩ := h
  refine ⟨hl, ?_⟩
  rcases h with h | ⟨g, cap, cur, e, hN, h⟩
  · exact .inl h
  · exact .inr ⟨g, cap, cur, e, Nat.le_trans hM hN, h⟩
theorem Fr.own0 {w : World} {N z m : Nat} {T : TypeId} {v : Value} {cs : List Value} (h : Fr w N T v m cs) (hl : cs.length = m * z) (hm : m ≤ 16384) : w.ownsRow 0 T z v m cs := own_low (h.own hl hm) (Nat.zero_le _)
/-- A call that turns neither the world nor the memory. -/
theorem both_plain {s : MS} {v : SV} {inp : ByteArray} {a us : Int} {l : List Int} {e : List (Int × ByteArray)} {V : SV} {gg cc : Int} (hV : V.R.length = 32) (hts : s.ts = []) (hl : l.length ≤ 300) (hel : e.length ≤ 20)
    (hc : ∀ (w : World) (rd ev : Value), MemW w s → Rw w 1 rd l.length (cI l) → Rw w 2 ev e.length (cE e) → Calls Try.prog 13 #[.pointer (some ⟨s.mb, 0, none⟩), .agg v.c, .agg (cwC inp a rd us ev)] w fun x w' => ∃ rd' ev', x = .returned (.tuple #[.agg V.c, .agg (cwC inp a rd' us ev'), .int .i64 gg, .int .u32 cc]) ∧ Fr w' w.heap.size 3 rd' l.length (cI l) ∧ Fr w' w.heap.size 66 ev' e.length (cE e) ∧ Step w s w' s)
    (hr : ∀ (w : World) (t : S5) (rd ev : Value), M5 w t → Sim s t.l → rd.oneCell' = true → ev.oneCell' = true → Calls Try.prog 14 #[.pointer (some ⟨t.m, 0, none⟩), .agg v.c, .agg (cwC inp a rd us ev)] w fun x w' => x = .returned (.tuple #[.agg V.c, .agg (cwC inp a rd us ev), .int .i64 gg, .int .u32 cc]) ∧ Step5 w t w' t) : Both s v inp a us l e V a us e gg cc (fun s' => s' = s) :=
  ⟨hV, by omega, fun w rd ev h1 h2 h3 => (hc w rd ev h1 h2 h3).mono fun x w' ⟨rd', ev', hx, f1, f2, hst⟩ => ⟨rd', ev', hx, f1.own0 (cI_len l) (by omega), f2.own0 (cE_len e) (by omega), s, hst, rfl⟩,
   fun W w t rd ev hb hf hM hs htt hmo h1 h2 => (hr w t rd ev hM hs (h1.one) (h2.one)).mono fun x w' ⟨hx, hst⟩ => ⟨rd, ev, hx, h1.later (hb.trans (hst.keep.below hb.size hf)), h2.later (hb.trans (hst.keep.below hb.size hf)), t, hst, rfl, s, hs, htt, rfl⟩,
   fun s1 s2 h1 h2 => by subst h1 h2; exact ⟨rfl, rfl⟩, fun s1 h1 => by subst h1; rw [hts]; simp, fun s1 h1 => by subst h1; rfl⟩
def refused (f g : Nat) (s : MS) (v : SV) (why wb : Int) : Prop := (∀ (u : World) (CW : Array Value), MemW u s → CW.all (·.oneCell') = true → CW.size = 5 → Calls Try.prog f #[.pointer (some ⟨s.mb, 0, none⟩), .agg v.c, .agg CW] u fun x w' => x = .returned (.tuple #[.agg (ansV v why wb).c, .agg CW]) ∧ Below u.heap.size u w') ∧ (∀ (u : World) (t : S5) (CW : Array Value), M5 u t → Sim s t.l → CW.all (·.oneCell') = true → CW.size = 5 → Calls Try.prog g #[.pointer (some ⟨t.m, 0, none⟩), .agg v.c, .agg CW] u fun x w' => x = .returned (.tuple #[.agg (ansV v why wb).c, .agg CW]) ∧ Below u.heap.size u w')
theorem both_rd0 {s : MS} {v : SV} (hv : v.ok) (inp : ByteArray) (a us : Int) {l : List Int} {e : List (Int × ByteArray)} (hts : s.ts = []) (hl : l.length ≤ 300) (hel : e.length ≤ 20) (h2 : v.R.getD 2 0 = 4003) {why wb : Int} (hx : refused 36 41 s v why wb) : Both s v inp a us l e (ansV v why wb) a us e 0 0 (fun s' => s' = s) := by
  refine both_plain (ansV_len hv.1 _ _) hts hl hel ?_ ?_
  · intro w rd ev hm hrd hev
    refine (call_rd w s hm v hv inp a us rd ev l e hrd hev (by omega) (by omega) h2 (ansV v why wb) (ansV_len hv.1 _ _) (fun s' => s' = s) (foot s) (fun _ h => h) a us (fun u rd1 ev1 hb hs f1 f2 => (hx.1 u _ (hm.later hb) (cw_one f1.one f2.one) rfl).mono fun x w' ⟨he, hb2⟩ => ⟨he, s, Step.later (hm.later hb) hb2, Keep.of_below hb2, rfl⟩)).mono ?_
    rintro x w' ⟨rd', ev', he, f1, f2, s', hst, _, rfl⟩
    exact ⟨rd', ev', he, f1, f2, hst⟩
  · intro w t rd ev hM hs o1 o2
    refine (rcall_rd w t hM v hv (cwC inp a rd us ev) (cw_one o1 o2) rfl h2 (ansV v why wb) (ansV_len hv.1 _ _) (fun _ CX t' => CX = cwC inp a rd us ev ∧ t' = t) (fun _ _ _ _ h _ => h) (fun u hb hsz => (hx.2 u t _ (hM.later hb) hs (cw_one o1 o2) rfl).mono fun x w' ⟨he, hb2⟩ => ⟨_, he, rfl, cw_one o1 o2, t, Step5.later (Step5.refl (hM.later hb)) hb2, rfl, rfl⟩)).mono ?_
    rintro x w' ⟨CX, he, _, _, t', hst, rfl, rfl⟩
    exact ⟨he, hst⟩
theorem both_wr0 {s : MS} {v : SV} (hv : v.ok) (inp : ByteArray) (a us : Int) {l : List Int} {e : List (Int × ByteArray)} (hts : s.ts = []) (hl : l.length ≤ 300) (hel : e.length ≤ 20) (h2 : v.R.getD 2 0 = 4004) {why wb : Int} (hx : refused 37 42 s v why wb) : Both s v inp a us l e (ansV v why wb) a us e 0 0 (fun s' => s' = s) := by
  refine both_plain (ansV_len hv.1 _ _) hts hl hel ?_ ?_
  · intro w rd ev hm hrd hev
    refine (call_wn w s hm v hv inp a us rd ev l e hrd hev (by omega) (by omega) h2 (ansV v why wb) (ansV_len hv.1 _ _) (fun s' => s' = s) (foot s) (fun _ h => h) (fun u rd1 ev1 hb hs f1 f2 => (hx.1 u _ (hm.later hb) (cw_one f1.one f2.one) rfl).mono fun x w' ⟨he, hb2⟩ => ⟨he, s, Step.later (hm.later hb) hb2, Keep.of_below hb2, rfl⟩)).mono ?_
    rintro x w' ⟨rd', ev', he, f1, f2, s', hst, _, rfl⟩
    exact ⟨rd', ev', he, f1, f2, hst⟩
  · intro w t rd ev hM hs o1 o2
    refine (rcall_wr w t hM v hv (cwC inp a rd us ev) (cw_one o1 o2) rfl h2 (ansV v why wb) (ansV_len hv.1 _ _) (fun _ CX t' => CX = cwC inp a rd us ev ∧ t' = t) (fun _ _ _ _ h _ => h) (fun u hb hsz => (hx.2 u t _ (hM.later hb) hs (cw_one o1 o2) rfl).mono fun x w' ⟨he, hb2⟩ => ⟨_, he, rfl, cw_one o1 o2, t, Step5.later (Step5.refl (hM.later hb)) hb2, rfl, rfl⟩)).mono ?_
    rintro x w' ⟨CX, he, _, _, t', hst, rfl, rfl⟩
    exact ⟨he, hst⟩
theorem both_ex {s : MS} {v : SV} (hv : v.ok) (inp : ByteArray) (a us : Int) {l : List Int} {e : List (Int × ByteArray)} (hts : s.ts = []) (hl : l.length ≤ 300) (hel : e.length ≤ 20) (h2 : v.R.getD 2 0 = 4001) : Both s v inp a us l e v.on a us e 1 (v.R.getD 4 0) (fun s' => s' = s) := by
  refine both_plain (SV.on_len hv.1) hts hl hel ?_ ?_
  · intro w rd ev hm hrd hev
    refine (call_ex w s hm v hv inp a us rd ev l e hrd hev (by omega) (by omega) h2).mono ?_
    rintro x w' ⟨rd', ev', he, f1, f2, hb⟩
    exact ⟨rd', ev', he, f1, f2, Step.later hm hb⟩
  · intro w t rd ev hM hs o1 o2
    refine (rcall_ex w t hM v hv (cwC inp a rd us ev) (cw_one o1 o2) rfl h2).mono ?_
    rintro x w' ⟨he, hb⟩
    exact ⟨he, Step5.later (Step5.refl hM) hb⟩
theorem both_df {s : MS} {v : SV} (hv : v.ok) (inp : ByteArray) (a us : Int) {l : List Int} {e : List (Int × ByteArray)} (hts : s.ts = []) (hl : l.length ≤ 300) (hel : e.length ≤ 20) (h2 : v.R.getD 2 0 ≠ 4001 ∧ v.R.getD 2 0 ≠ 4003 ∧ v.R.getD 2 0 ≠ 4004 ∧ v.R.getD 2 0 ≠ 4090) : Both s v inp a us l e (ansV v 89 1) a us e 0 0 (fun s' => s' = s) := by
  refine both_plain (ansV_len hv.1 _ _) hts hl hel ?_ ?_
  · intro w rd ev hm hrd hev
    refine (call_df w s hm v hv inp a us rd ev l e hrd hev (by omega) (by omega) h2).mono ?_
    rintro x w' ⟨rd', ev', he, f1, f2, hb⟩
    exact ⟨rd', ev', he, f1, f2, Step.later hm hb⟩
  · intro w t rd ev hM hs o1 o2
    refine (rcall_df w t hM v hv (cwC inp a rd us ev) (cw_one o1 o2) rfl h2).mono ?_
    rintro x w' ⟨he, hb⟩
    exact ⟨he, Step5.later (Step5.refl hM) hb⟩
theorem both_big {s : MS} {v : SV} (hv : v.ok) (inp : ByteArray) (a us : Int) {l : List Int} {e : List (Int × ByteArray)} (hts : s.ts = []) (hl : l.length ≤ 300) (hel : e.length ≤ 20) (h2 : v.R.getD 2 0 = 4090) (hbig : 64 < v.R.getD 5 0) : Both s v inp a us l e (ansV v 22 1) a us e 0 0 (fun s' => s' = s) := by
  refine both_plain (ansV_len hv.1 _ _) hts hl hel ?_ ?_
  · intro w rd ev hm hrd hev
    refine (call_mr w s hm v hv inp a us rd ev l e hrd hev (by omega) (by omega) h2 (ansV v 22 1) (ansV_len hv.1 _ _) (fun s' => s' = s) (foot s) (fun _ h => h) 0 (fun u rd1 ev1 hb hs f1 f2 => (more_big u s (hm.later hb) v hv hbig).mono fun x w' ⟨he, hst⟩ => ⟨he, s, hst, hst.keep, rfl⟩)).mono ?_
    rintro x w' ⟨rd', ev', he, f1, f2, s', hst, _, rfl⟩
    exact ⟨rd', ev', he, f1, f2, hst⟩
  · intro w t rd ev hM hs o1 o2
    refine (rcall_big w t hM v hv (cwC inp a rd us ev) (cw_one o1 o2) rfl h2 hbig).mono ?_
    rintro x w' ⟨he, hb⟩
    exact ⟨he, Step5.later (Step5.refl hM) hb⟩
theorem both_more {s : MS} {v : SV} (hv : v.ok) (inp : ByteArray) (a us : Int) {l : List Int} {e : List (Int × ByteArray)} (hts : s.ts = []) (hl : l.length ≤ 300) (hel : e.length ≤ 20) (hpm : ∀ k ∈ s.ks, 0 ≤ s.pm k ∧ s.pm k < 8) (hkl : s.ks.length ≤ 500) (h2 : v.R.getD 2 0 = 4090) {b m : Nat} (h4 : v.R.getD 4 0 = (b : Int)) (h5 : v.R.getD 5 0 = (m : Int)) (hm64 : m ≤ 64) {ks : List Nat} (hk0 : moreKs s.ks s.most b m = some ks) : Both s v inp a us l e (ansV v 0 0) a us e 0 0 (fun s' => MoreK s b m s') := by
  refine ⟨(ansV_len hv.1 _ _), by omega, ?_, ?_, ?_, ?_, ?_⟩
  · intro w rd ev hm hrd hev
    refine (call_mr w s hm v hv inp a us rd ev l e hrd hev (by omega) (by omega) h2 (ansV v 0 0) (ansV_len hv.1 _ _) (fun s' => MoreK s b m s') (foot s) (fun _ h => h) 0 (fun u rd1 ev1 hb hs f1 f2 => (more_any u s (hm.later hb) v hv b m h4 h5 hm64).mono ?_)).mono ?_
    · rintro x w' ⟨t, k, hk, hst, ⟨rfl, he⟩ | ⟨hlt, hfull, he⟩⟩
      · exact ⟨he, t, hst, hst.keep, hk⟩
      · exact absurd (hk0.symm.trans (moreKs_none (hk.full hfull) m (by omega))) (by simp)
    · rintro x w' ⟨rd', ev', he, f1, f2, s', hst, _, hp⟩
      exact ⟨rd', ev', he, f1.own0 (cI_len l) (by omega), f2.own0 (cE_len e) (by omega), s', hst, hp⟩
  · intro W w t rd ev hb hf hM hs htt hmo h1 h3
    refine (rcall_more w t hM v hv (cwC inp a rd us ev) (cw_one h1.one h3.one) rfl s hs htt hmo hpm hkl h2 b m h4 h5 hm64).mono ?_
    rintro x w' ⟨t', sh, k, hst, em, _, hsim, hts2, hk, ⟨rfl, he⟩ | ⟨hlt, hfull, he⟩⟩
    · exact ⟨rd, ev, he, h1.later (hb.trans (hst.keep.below hb.size hf)), h3.later (hb.trans (hst.keep.below hb.size hf)), t', hst, em, sh, hsim, hts2, hk⟩
    · exact absurd (hk0.symm.trans (moreKs_none (hk.full hfull) m (by omega))) (by simp)
  · exact fun s1 s2 h1 h2 => ⟨h1.abs.trans h2.abs.symm, h1.ts.trans h2.ts.symm⟩
  · exact fun s1 h1 => by rw [h1.ts, hts]; simp
  · exact fun s1 h1 => h1.mb
theorem both_room {s : MS} {v : SV} (hv : v.ok) (inp : ByteArray) (a us : Int) {l : List Int} {e : List (Int × ByteArray)} (hts : s.ts = []) (hl : l.length ≤ 300) (hel : e.length ≤ 20) (hpm : ∀ k ∈ s.ks, 0 ≤ s.pm k ∧ s.pm k < 8) (hkl : s.ks.length ≤ 500) (h2 : v.R.getD 2 0 = 4090) {b m : Nat} (h4 : v.R.getD 4 0 = (b : Int)) (h5 : v.R.getD 5 0 = (m : Int)) (hm64 : m ≤ 64) (hk0 : moreKs s.ks s.most b m = none) : Both s v inp a us l e v a us e 2 0 (fun s' => ∃ k, k < m ∧ MoreK s b k s' ∧ s'.mapErr (wrapAt b (256 * k)) = 2) := by
  refine ⟨hv.1, by omega, ?_, ?_, ?_, ?_, ?_⟩
  · intro w rd ev hm hrd hev
    refine (call_mr w s hm v hv inp a us rd ev l e hrd hev (by omega) (by omega) h2 v hv.1 (fun s' => ∃ k, k < m ∧ MoreK s b k s' ∧ s'.mapErr (wrapAt b (256 * k)) = 2) (foot s) (fun _ h => h) 2 (fun u rd1 ev1 hb hs f1 f2 => (more_any u s (hm.later hb) v hv b m h4 h5 hm64).mono ?_)).mono ?_
    · rintro x w' ⟨t, k, hk, hst, ⟨rfl, he⟩ | ⟨hlt, hfull, he⟩⟩
      · exact absurd (hk0.symm.trans hk.ks) (by simp)
      · exact ⟨he, t, hst, hst.keep, k, hlt, hk, hfull⟩
    · rintro x w' ⟨rd', ev', he, f1, f2, s', hst, _, hp⟩
      exact ⟨rd', ev', he, f1.own0 (cI_len l) (by omega), f2.own0 (cE_len e) (by omega), s', hst, hp⟩
  · intro W w t rd ev hb hf hM hs htt hmo h1 h3
    refine (rcall_more w t hM v hv (cwC inp a rd us ev) (cw_one h1.one h3.one) rfl s hs htt hmo hpm hkl h2 b m h4 h5 hm64).mono ?_
    rintro x w' ⟨t', sh, k, hst, em, _, hsim, hts2, hk, ⟨rfl, he⟩ | ⟨hlt, hfull, he⟩⟩
    · exact absurd (hk0.symm.trans hk.ks) (by simp)
    · exact ⟨rd, ev, he, h1.later (hb.trans (hst.keep.below hb.size hf)), h3.later (hb.trans (hst.keep.below hb.size hf)), t', hst, em, sh, hsim, hts2, k, hlt, hk, hfull⟩
  · rintro s1 s2 ⟨k, _, hk, hf⟩ ⟨j, _, hj, hg⟩
    obtain rfl : k = j := by
      rcases Nat.lt_trichotomy k j with h | h | h
      · exact absurd ((moreKs_none (hk.full hf) j (by omega)).symm.trans hj.ks) (by simp)
      · exact h
      · exact absurd ((moreKs_none (hj.full hg) k (by omega)).symm.trans hk.ks) (by simp)
    exact ⟨hk.abs.trans hj.abs.symm, hk.ts.trans hj.ts.symm⟩
  · rintro s1 ⟨k, _, hk, _⟩
    rw [hk.ts, hts]
    simp
  · exact fun s1 ⟨k, _, hk, _⟩ => hk.mb
end Go.Proofs.Ytodoenimlhldjaa
namespace Go.Proofs.Ytodoenimlhldjaa
open Go.ChangeShapes Go.WideShapes Go.ChangeAt Go.RowKit
set_option linter.unusedVariables false
theorem refV_nof (s : MS) (v : SV) (p : Int) : refV s v false p = 9 := rfl
theorem refV_big {s : MS} {v : SV} {p : Int} (h : 16384 < v.R.getD 6 0) : refV s v true p = 22 := by
  unfold refV
  rw [if_neg (by decide), if_pos h]
theorem refV_no {s : MS} {v : SV} {p : Int} (h : ¬ 16384 < v.R.getD 6 0) (hm : mayB s (v.R.getD 5 0).toNat (v.R.getD 6 0).toNat p = false) : refV s v true p = 14 := by
  unfold refV
  rw [if_neg (by decide), if_neg h, if_neg (by rw [hm]; decide)]
theorem refV_yes {s : MS} {v : SV} {p : Int} (h : ¬ 16384 < v.R.getD 6 0) (hm : mayB s (v.R.getD 5 0).toNat (v.R.getD 6 0).toNat p = true) : refV s v true p = 0 := by
  unfold refV
  rw [if_neg (by decide), if_neg h, if_pos hm]
/-- A call that reads. -/
theorem both_ry {s : MS} {v : SV} (hv : v.ok) (inp : ByteArray) (a us : Nat) {l : List Int} {e : List (Int × ByteArray)} (hts : s.ts = []) (hl : l.length ≤ 300) (hel : e.length ≤ 20) (hsz : inp.size ≤ 5000) (hat : a ≤ inp.size) (hus : us ≤ l.length) (hcc : s.c ≤ 4800) (h2 : v.R.getD 2 0 = 4003) (hfd : v.R.getD 4 0 = 0) (hbig : ¬ 16384 < v.R.getD 6 0) (hmay : mayB s (v.R.getD 5 0).toNat (v.R.getD 6 0).toNat 2 = true) (h60 : v.R.getD 6 0 ≠ 0) :
    Both s v inp (a : Int) (us : Int) l e (ansV v (takeN (v.R.getD 6 0) inp a us l) 0) ((a : Int) + takeN (v.R.getD 6 0) inp a us l) (takeU us l) e 0 0 (PK s (v.R.getD 5 0).toNat (inp.extract a (a + (takeN (v.R.getD 6 0) inp a us l).toNat)).data.toList (takeN (v.R.getD 6 0) inp a us l).toNat) := by
  have h60' : 0 ≤ v.R.getD 6 0 := (hv.2.1 6 (by decide)).1
  have hN := takeN_range h60' inp a us l
  have e1 : ((a : Int) + takeN (v.R.getD 6 0) inp a us l).toNat = a + (takeN (v.R.getD 6 0) inp a us l).toNat := by omega
  refine ⟨ansV_len hv.1 _ _, by omega, ?_, ?_, fun s1 s2 k1 k2 => ⟨k1.abs.trans k2.abs.symm, k1.ts.trans k2.ts.symm⟩, fun s1 k1 => ?_, fun s1 k1 => k1.mb⟩
  · intro w rd ev hm hrd hev
    refine (call_rd w s hm v hv inp a us rd ev l e hrd hev (by omega) (by omega) h2 (ansV v (takeN (v.R.getD 6 0) inp a us l) 0) (ansV_len hv.1 _ _) (PK s (v.R.getD 5 0).toNat (inp.extract a (a + (takeN (v.R.getD 6 0) inp a us l).toNat)).data.toList (takeN (v.R.getD 6 0) inp a us l).toNat) (foot s) (fun _ h => h) ((a : Int) + takeN (v.R.getD 6 0) inp a us l) (takeU us l) ?_).mono ?_
    · intro u rd1 ev1 hb hs f1 f2
      have hr1 := f1.rw (z := 1) (cI_len l)
      have o2 := f2.one
      obtain ⟨g, _, rfl, _⟩ := f1
      refine (read_yes u s (hm.later hb) (by omega) v hv inp a us _ _ ev1 l hr1 o2 (by omega) (by omega) hfd (refV_yes hbig hmay) h60).mono ?_
      rintro x w' ⟨he, t, hst, hp⟩
      rw [e1, Int.toNat_natCast] at hp
      exact ⟨he, t, hst, hst.keep, hp⟩
    · rintro x w' ⟨rd', ev', he, f1, f2, s', hst, _, hp⟩
      exact ⟨rd', ev', he, f1.own0 (cI_len l) (by omega), f2.own0 (cE_len e) (by omega), s', hst, hp⟩
  · intro W w t rd ev hb hf hM hs htt hmo h1 h3
    have o1 := h1.one
    have o3 := h3.one
    refine (rcall_rd w t hM v hv (cwC inp a rd us ev) (cw_one o1 o3) rfl h2 (ansV v (takeN (v.R.getD 6 0) inp a us l) 0) (ansV_len hv.1 _ _) (fun _ CX t' => CX = cwC inp ((a : Int) + takeN (v.R.getD 6 0) inp a us l) rd (takeU us l) ev ∧ t'.m = t.m ∧ ∃ sh, Sim sh t'.l ∧ sh.ts = t'.ts ∧ PK s (v.R.getD 5 0).toNat (inp.extract a (a + (takeN (v.R.getD 6 0) inp a us l).toNat)).data.toList (takeN (v.R.getD 6 0) inp a us l).toNat sh) (fun _ _ _ _ h _ => h) ?_).mono ?_
    · intro u hb2 hsz2
      have hr2 := (h1.later hb).later hb2
      obtain ⟨ao, cap, hrd⟩ : ∃ ao cap, rd = .slice ao l.length cap := by
        obtain ⟨_, ao, cap, h, _⟩ := h1
        exact ⟨ao, cap, h⟩
      subst hrd
      have htl : t.ts.length < 900000 := by rw [← htt, hts]; decide
      by_cases hh : us < l.length
      · refine (rread_yes_h u s t (hM.later hb2) hs htt htl v hv inp a us ao cap ev l hr2 o3 (by omega) (by omega) hat hh hfd hbig hmay h60).mono ?_
        rintro x w' ⟨he, t', hst, em, _, sh, hsim, hts2, hp⟩
        exact ⟨_, he, rfl, cw_one o1 o3, t', hst, rfl, em, sh, hsim, hts2, hp⟩
      · refine (rread_yes_n u s t (hM.later hb2) hs htt htl v hv inp a us ao cap ev l hr2 o3 (by omega) (by omega) hat (by omega) hfd hbig hmay h60).mono ?_
        rintro x w' ⟨he, t', hst, em, _, sh, hsim, hts2, hp⟩
        exact ⟨_, he, rfl, cw_one o1 o3, t', hst, rfl, em, sh, hsim, hts2, hp⟩
    · rintro x w' ⟨CX, he, _, _, t', hst, rfl, em, sh, hsim, hts2, hp⟩
      exact ⟨rd, ev, he, h1.later (hb.trans (hst.keep.below hb.size hf)), h3.later (hb.trans (hst.keep.below hb.size hf)), t', hst, em, sh, hsim, hts2, hp⟩
  · have h := k1.ts
    rw [h, hts]
    refine Nat.le_trans (List.length_filter_le _ _) ?_
    rw [List.length_map, List.length_range]
    omega
/-- A call that writes. -/
theorem both_wy {s : MS} {v : SV} (hv : v.ok) (inp : ByteArray) (a us : Int) {l : List Int} {e : List (Int × ByteArray)} (hts : s.ts = []) (hl : l.length ≤ 300) (hel : e.length ≤ 20) (h2 : v.R.getD 2 0 = 4004) (hfd : v.R.getD 4 0 = 1 ∨ v.R.getD 4 0 = 2) (hbig : ¬ 16384 < v.R.getD 6 0) (hmay : mayB s (v.R.getD 5 0).toNat (v.R.getD 6 0).toNat 4 = true) :
    Both s v inp a us l e (ansV v (v.R.getD 6 0) 0) a us (e ++ [(v.R.getD 4 0, ⟨(s.span (v.R.getD 5 0).toNat (v.R.getD 6 0).toNat).toArray⟩)]) 0 0 (fun s' => s' = s) := by
  have hlen : (e ++ [(v.R.getD 4 0, (⟨(s.span (v.R.getD 5 0).toNat (v.R.getD 6 0).toNat).toArray⟩ : ByteArray))]).length = e.length + 1 := by simp
  refine ⟨ansV_len hv.1 _ _, by omega, ?_, ?_, fun s1 s2 h1 h2 => by subst h1 h2; exact ⟨rfl, rfl⟩, fun s1 h1 => by subst h1; rw [hts]; simp, fun s1 h1 => by subst h1; rfl⟩
  · intro w rd ev hm hrd hev
    refine (call_wr w s hm v hv inp a us rd ev l e hrd hev (by omega) (by omega) h2 hfd (refV_yes hbig hmay)).mono ?_
    rintro x w' ⟨rd', ev', he, f1, f2, hb⟩
    refine ⟨rd', ev', he, f1.own0 (cI_len l) (by omega), ?_, s, Step.later hm hb, rfl⟩
    rw [hlen]
    exact f2
  · intro W w t rd ev hb hf hM hs htt hmo h1 h3
    have o1 := h1.one
    have o3 := h3.one
    have hwy : ∀ u, Below w.heap.size w u → Calls Try.prog 42 #[.pointer (some ⟨t.m, 0, none⟩), .agg v.c, .agg (cwC inp a rd us ev)] u fun x w' => ∃ ev', x = .returned (.tuple #[.agg (ansV v (v.R.getD 6 0) 0).c, .agg (cwC inp a rd us ev')]) ∧ w'.ownsRow u.heap.size 66 2 ev' (e.length + 1) (cE (e ++ [(v.R.getD 4 0, ⟨(s.span (v.R.getD 5 0).toNat (v.R.getD 6 0).toNat).toArray⟩)])) ∧ Below u.heap.size u w' := fun u hb2 => by
      rcases hfd with hf1 | hf2
      · have h := rwrite_yes1 u s t (hM.later hb2) hs v hv inp a us rd ev e o1 ((h3.later hb).later hb2) (by omega) hf1 hbig hmay
        exact h
      · have h := rwrite_yes2 u s t (hM.later hb2) hs v hv inp a us rd ev e o1 ((h3.later hb).later hb2) (by omega) hf2 hbig hmay
        exact h
    refine (rcall_wr w t hM v hv (cwC inp a rd us ev) (cw_one o1 o3) rfl h2 (ansV v (v.R.getD 6 0) 0) (ansV_len hv.1 _ _) (fun wx CX t' => t' = t ∧ ∃ ev', CX = cwC inp a rd us ev' ∧ wx.ownsRow (w.heap.size + 4) 66 2 ev' (e.length + 1) (cE (e ++ [(v.R.getD 4 0, ⟨(s.span (v.R.getD 5 0).toNat (v.R.getD 6 0).toNat).toArray⟩)]))) ?_ ?_).mono ?_
    · rintro w1 w2 CX t' ⟨h, ev', hx, ho⟩ hk
      exact ⟨h, ev', hx, own_above ho hk⟩
    · intro u hb2 hsz2
      refine (hwy u hb2).mono ?_
      rintro x w' ⟨ev', he, ho, hb3⟩
      exact ⟨_, he, rfl, cw_one o1 (rw_of_own ho).one, t, Step5.later (Step5.refl (hM.later hb2)) hb3, rfl, ev', rfl, own_low ho hsz2⟩
    · rintro x w' ⟨CX, he, _, _, t', hst, rfl, ev', rfl, ho⟩
      refine ⟨rd, ev', he, h1.later (hb.trans (hst.keep.below hb.size hf)), ?_, _, hst, rfl, s, hs, htt, rfl⟩
      rw [hlen]
      exact rw_of_own ho
end Go.Proofs.Ytodoenimlhldjaa
namespace Go.Proofs.Ytodoenimlhldjaa
open Go.ChangeShapes Go.WideShapes Go.ChangeAt Go.RowKit
set_option linter.unusedVariables false
theorem ref_ok {f : Nat} {s : MS} {v : SV} {why r : Int} {CW : Array Value} {u : World} (he : r = why) (h : Calls Try.prog f #[.pointer (some ⟨s.mb, 0, none⟩), .agg v.c, .agg CW] u fun x w' => x = .returned (.tuple #[.agg (ansV v r 1).c, .agg CW]) ∧ Below u.heap.size u w') : Calls Try.prog f #[.pointer (some ⟨s.mb, 0, none⟩), .agg v.c, .agg CW] u fun x w' => x = .returned (.tuple #[.agg (ansV v why 1).c, .agg CW]) ∧ Below u.heap.size u w' := by
  rw [← he]
  exact h
/-- Whatever is asked for. -/
theorem both_any {s : MS} {v : SV} (hv : v.ok) (inp : ByteArray) (a us : Nat) {l : List Int} {e : List (Int × ByteArray)} (hts : s.ts = []) (hl : l.length ≤ 300) (hel : e.length ≤ 20) (hsz : inp.size ≤ 5000) (hat : a ≤ inp.size) (hus : us ≤ l.length) (hcc : s.c ≤ 4800) (hpm : ∀ k ∈ s.ks, 0 ≤ s.pm k ∧ s.pm k < 8) (hkl : s.ks.length ≤ 500) : ∃ V a2 us2 e2 gg cc Q, Both s v inp (a : Int) (us : Int) l e V a2 us2 e2 gg cc Q := by
  by_cases c1 : v.R.getD 2 0 = 4001
  · exact ⟨_, _, _, _, _, _, _, both_ex hv inp a us hts hl hel c1⟩
  by_cases c3 : v.R.getD 2 0 = 4003
  · have go := fun {why wb : Int} (hx : refused 36 41 s v why wb) => (⟨_, _, _, _, _, _, _, both_rd0 hv inp a us hts hl hel c3 hx⟩ : ∃ V a2 us2 e2 gg cc Q, Both s v inp (a : Int) (us : Int) l e V a2 us2 e2 gg cc Q)
    by_cases hfd : v.R.getD 4 0 = 0
    · by_cases hbig : 16384 < v.R.getD 6 0
      · exact go ⟨fun u CW hm h1 h5 => ref_ok (refV_big hbig) (read_not_zero u s hm v hv CW h1 h5 hfd (by rw [refV_big hbig]; decide)), fun u t CW hM hs h1 h5 => rread_big u s t hM hs v hv CW h1 h5 hfd hbig⟩
      · cases hmay : mayB s (v.R.getD 5 0).toNat (v.R.getD 6 0).toNat 2 with
        | false => exact go ⟨fun u CW hm h1 h5 => ref_ok (refV_no hbig hmay) (read_not_zero u s hm v hv CW h1 h5 hfd (by rw [refV_no hbig hmay]; decide)), fun u t CW hM hs h1 h5 => rread_no u s t hM hs v hv CW h1 h5 hfd hbig hmay⟩
        | true =>
          by_cases h60 : v.R.getD 6 0 = 0
          · exact go ⟨fun u CW hm h1 h5 => read_nil u s hm v hv CW h1 h5 hfd (refV_yes hbig hmay) h60, fun u t CW hM hs h1 h5 => rread_nil u s t hM hs v hv CW h1 h5 hfd hbig hmay h60⟩
          · exact ⟨_, _, _, _, _, _, _, both_ry hv inp a us hts hl hel hsz hat hus hcc c3 hfd hbig hmay h60⟩
    · exact go ⟨fun u CW hm h1 h5 => ref_ok (refV_nof s v 2) (read_not_no u s hm v hv CW h1 h5 hfd (by rw [refV_nof]; decide)), fun u t CW hM hs h1 h5 => rread_fd u s t hM hs v hv CW h1 h5 hfd⟩
  by_cases c4 : v.R.getD 2 0 = 4004
  · have go := fun {why wb : Int} (hx : refused 37 42 s v why wb) => (⟨_, _, _, _, _, _, _, both_wr0 hv inp a us hts hl hel c4 hx⟩ : ∃ V a2 us2 e2 gg cc Q, Both s v inp (a : Int) (us : Int) l e V a2 us2 e2 gg cc Q)
    by_cases hf1 : v.R.getD 4 0 = 1
    · by_cases hbig : 16384 < v.R.getD 6 0
      · exact go ⟨fun u CW hm h1 h5 => ref_ok (refV_big hbig) (write_not_one u s hm v hv CW h1 h5 hf1 (by rw [refV_big hbig]; decide)), fun u t CW hM hs h1 h5 => rwrite_big1 u s t hM hs v hv CW h1 h5 hf1 hbig⟩
      · cases hmay : mayB s (v.R.getD 5 0).toNat (v.R.getD 6 0).toNat 4 with
        | false => exact go ⟨fun u CW hm h1 h5 => ref_ok (refV_no hbig hmay) (write_not_one u s hm v hv CW h1 h5 hf1 (by rw [refV_no hbig hmay]; decide)), fun u t CW hM hs h1 h5 => rwrite_no1 u s t hM hs v hv CW h1 h5 hf1 hbig hmay⟩
        | true => exact ⟨_, _, _, _, _, _, _, both_wy hv inp a us hts hl hel c4 (.inl hf1) hbig hmay⟩
    · by_cases hf2 : v.R.getD 4 0 = 2
      · by_cases hbig : 16384 < v.R.getD 6 0
        · exact go ⟨fun u CW hm h1 h5 => ref_ok (refV_big hbig) (write_not_two u s hm v hv CW h1 h5 hf2 (by rw [refV_big hbig]; decide)), fun u t CW hM hs h1 h5 => rwrite_big2 u s t hM hs v hv CW h1 h5 hf2 hbig⟩
        · cases hmay : mayB s (v.R.getD 5 0).toNat (v.R.getD 6 0).toNat 4 with
          | false => exact go ⟨fun u CW hm h1 h5 => ref_ok (refV_no hbig hmay) (write_not_two u s hm v hv CW h1 h5 hf2 (by rw [refV_no hbig hmay]; decide)), fun u t CW hM hs h1 h5 => rwrite_no2 u s t hM hs v hv CW h1 h5 hf2 hbig hmay⟩
          | true => exact ⟨_, _, _, _, _, _, _, both_wy hv inp a us hts hl hel c4 (.inr hf2) hbig hmay⟩
      · exact go ⟨fun u CW hm h1 h5 => ref_ok (refV_nof s v 4) (write_not_no u s hm v hv CW h1 h5 ⟨hf1, hf2⟩ (by rw [refV_nof]; decide)), fun u t CW hM hs h1 h5 => rwrite_fd u s t hM hs v hv CW h1 h5 ⟨hf1, hf2⟩⟩
  by_cases c0 : v.R.getD 2 0 = 4090
  · by_cases hbig : 64 < v.R.getD 5 0
    · exact ⟨_, _, _, _, _, _, _, both_big hv inp a us hts hl hel c0 hbig⟩
    · obtain ⟨b, h4⟩ : ∃ b : Nat, v.R.getD 4 0 = (b : Int) := ⟨(v.R.getD 4 0).toNat, by have := (hv.2.1 4 (by decide)).1; omega⟩
      obtain ⟨m, h5⟩ : ∃ m : Nat, v.R.getD 5 0 = (m : Int) := ⟨(v.R.getD 5 0).toNat, by have := (hv.2.1 5 (by decide)).1; omega⟩
      have hm64 : m ≤ 64 := by omega
      cases hk0 : moreKs s.ks s.most b m with
      | none => exact ⟨_, _, _, _, _, _, _, both_room hv inp a us hts hl hel hpm hkl c0 h4 h5 hm64 hk0⟩
      | some ks => exact ⟨_, _, _, _, _, _, _, both_more hv inp a us hts hl hel hpm hkl c0 h4 h5 hm64 hk0⟩
  exact ⟨_, _, _, _, _, _, _, both_df hv inp a us hts hl hel ⟨c1, c3, c4, c0⟩⟩
end Go.Proofs.Ytodoenimlhldjaa
namespace Go.Proofs.Ytodoenimlhldjaa
open Go.ChangeShapes Go.WideShapes Go.ChangeAt Go.RowKit
set_option linter.unusedVariables false
/-- What the slots of region 4 hold, whatever the order. -/
def phiGa (n N : Nat) (inp : ByteArray) (a us : Int) (rd ev : Value) (l : List Int) (e : List (Int × ByteArray)) (ln en : Nat) : Nat → Value → World → Prop
  | 0, x, _ => x = .pointer (some ⟨n + 1, 0, none⟩)
  | 1, x, _ => x = .string inp
  | 2, x, _ => x = .pointer (some ⟨n + 1, 1, none⟩)
  | 3, x, _ => x = .int .i64 a
  | 4, x, _ => x = .pointer (some ⟨n + 1, 2, none⟩)
  | 5, x, _ => x = rd
  | 6, x, w => w.ownsRow 0 3 1 x ln (cI l)
  | 7, x, _ => x = .pointer (some ⟨n + 1, 3, none⟩)
  | 8, x, _ => x = .int .i64 us
  | 9, x, _ => x = .pointer (some ⟨n + 1, 4, none⟩)
  | 10, x, _ => x = ev
  | 11, x, w => w.ownsRow 0 66 2 x en (cE e)
  | 12, x, w => ∃ rd1 ev1, x = .agg (cwC inp a rd1 us ev1) ∧ w.ownsRow 0 3 1 rd1 ln (cI l) ∧ w.ownsRow 0 66 2 ev1 en (cE e)
  | 13, x, w => ∃ g, x = .pointer (some ⟨g, 0, none⟩) ∧ N ≤ g ∧ Blk w g zCw 38
  | _ + 14, _, _ => True
theorem phiGa_mono (n N : Nat) (inp : ByteArray) (a us : Int) (rd ev : Value) (l : List Int) (e : List (Int × ByteArray)) (ln en : Nat) : ∀ i x w w', phiGa n N inp a us rd ev l e ln en i x w → Below w.heap.size w w' → phiGa n N inp a us rd ev l e ln en i x w'
  | 0, _, _, _, h, _ => h
  | 1, _, _, _, h, _ => h
  | 2, _, _, _, h, _ => h
  | 3, _, _, _, h, _ => h
  | 4, _, _, _, h, _ => h
  | 5, _, _, _, h, _ => h
  | 6, _, _, _, h, hb => own_later h hb
  | 7, _, _, _, h, _ => h
  | 8, _, _, _, h, _ => h
  | 9, _, _, _, h, _ => h
  | 10, _, _, _, h, _ => h
  | 11, _, _, _, h, hb => own_later h hb
  | 12, _, _, _, h, hb => by obtain ⟨rd1, ev1, e1, h1, h2⟩ := h; exact ⟨rd1, ev1, e1, own_later h1 hb, own_later h2 hb⟩
  | 13, _, _, _, h, hb => by obtain ⟨g, e1, h1, h2⟩ := h; exact ⟨g, e1, h1, h2.later hb⟩
  | _ + 14, _, _, _, _, _ => trivial
theorem lstGa : ∀ xs : List Value, xs.length = 14 → ∃ x0 x1 x2 x3 x4 x5 x6 x7 x8 x9 x10 x11 x12 x13, xs = [x0, x1, x2, x3, x4, x5, x6, x7, x8, x9, x10, x11, x12, x13]
  | [x0, x1, x2, x3, x4, x5, x6, x7, x8, x9, x10, x11, x12, x13], _ => ⟨_, _, _, _, _, _, _, _, _, _, _, _, _, _, rfl⟩
theorem wpList_loadWcG {ops : Array Oper} {rest : List Oper} {o : Oper} {a : Act} {w : World} {Q : Exit → Act → World → Prop} (hw : Region.wanted o (yielded ops a.tmps) = true) (x : Operand) (ho : o.op = .load 38 x)
    (g : Nat) (cs : Array Value) (hx : a.eval x = .pointer (some ⟨g, 0, none⟩)) (hg : Blk w g cs 38) (hs : cs.size = 5)
    (h : wpList Try.prog ops Q rest (a.put o.dst (.agg cs)) w) : wpList Try.prog ops Q (o :: rest) a w :=
  BigFrame.wpList_want hw fun K hK => wp_load_row 38 x ho g hx 38 cs (0, 0) _ hg Try.underlying38 rfl (by rw [hs]; exact sizeCw) (hK _ _ h)
theorem wpList_loadWrG {ops : Array Oper} {rest : List Oper} {o : Oper} {a : Act} {w : World} {Q : Exit → Act → World → Prop} (hw : Region.wanted o (yielded ops a.tmps) = true) (x : Operand) (ho : o.op = .load 30 x)
    (g : Nat) (cs : Array Value) (hx : a.eval x = .pointer (some ⟨g, 0, none⟩)) (hg : Blk w g cs 30) (hs : cs.size = 5)
    (h : wpList Try.prog ops Q rest (a.put o.dst (.agg cs)) w) : wpList Try.prog ops Q (o :: rest) a w :=
  BigFrame.wpList_want hw fun K hK => wp_load_row 30 x ho g hx 30 cs (0, 0) _ hg Try.underlying30 rfl (by rw [hs]; exact sizeCr) (hK _ _ h)
/-- What lies on the heap ahead of the memories. -/
structure CA (W w : World) (n : Nat) (v : SV) (CW : Array Value) : Prop where
  s : Blk w n v.c 26
  c : Blk w (n + 1) CW 30
  bel : Below W.heap.size W w
theorem CA.later {W w w' : World} {n : Nat} {v : SV} {CW : Array Value} (h : CA W w n v CW) (hb : Below w.heap.size w w') : CA W w' n v CW := ⟨h.s.later hb, h.c.later hb, h.bel.trans (hb.mono h.bel.size)⟩
/-- Both memories of the same parts. -/
theorem duo_made {W w1 w2 : World} {s s5 : MS} {mb : Nat} (ho : Own W w1 s) (h5 : O5 w1 w2 s5 mb) (he : s.abs = s5.abs) : ∃ t : S5, Duo W w2 s t ∧ t.m = mb ∧ t.ts = [] ∧ t.most = 64 ∧ Sim s t.l := by
  obtain ⟨t, ht, hm, hmo, hts, hs, hf⟩ := h5.mem
  refine ⟨t, ⟨ho.step (Step.later ho.mem h5.below), ht, fun b hb => Nat.le_trans ho.below.size (hf b hb), fun b hb h5 => ?_⟩, hm, hts, hmo, hs.abs he ho.mem.nodup⟩
  have h1 := ho.mem.lt hb
  have h2 := hf b h5
  omega
/-- Both memories behind the calls. -/
structure Aft (W w : World) (s : MS) (t : S5) (m1 m2 : Nat) : Prop where
  duo : Duo W w s t
  m1 : s.mb = m1
  m2 : t.m = m2
  sim : Sim s t.l
  ts : s.ts = t.ts
  few : t.ts.length ≤ 16384
theorem Aft.later {W w w' : World} {s : MS} {t : S5} {m1 m2 : Nat} (h : Aft W w s t m1 m2) (hb : Below w.heap.size w w') : Aft W w' s t m1 m2 := ⟨h.duo.later hb, h.m1, h.m2, h.sim, h.ts, h.few⟩
theorem smA {W w : World} {s : MS} {t : S5} {m1 m2 : Nat} (h : Aft W w s t m1 m2) : Calls Try.prog 17 #[.pointer (some ⟨m1, 0, none⟩), .pointer (some ⟨m2, 0, none⟩)] w fun e w' => e = .returned (.bool true) ∧ Aft W w' s t m1 m2 := by
  have := sameMem_any w s t h.duo.own.mem h.duo.mem5 h.sim
  rw [h.m1, h.m2] at this
  exact this.mono fun e w' ⟨he, hb⟩ => ⟨he, h.later hb⟩
/-- What was touched of the one, to be held against the other's. -/
structure ToldA (W w : World) (t : S5) (m2 : Nat) (v : Value) : Prop where
  mem5 : M5 w t
  f5 : ∀ b, foot5 t b → W.heap.size ≤ b
  bel : Below W.heap.size W w
  m2 : t.m = m2
  few : t.ts.length ≤ 16384
  row : w.ownsRow 0 23 1 v t.ts.length (words t.ts)
  out : ∀ g, v.ownBlock = some g → g < w.heap.size ∧ ¬ foot5 t g
theorem tlA {W w : World} {s : MS} {t : S5} {m1 m2 : Nat} (h : Aft W w s t m1 m2) : Calls Try.prog 19 #[.pointer (some ⟨m1, 0, none⟩)] w fun e w' => e = .returned s.tv ∧ ToldA W w' t m2 s.tv := by
  have := told_any w s h.duo.own.mem
  rw [h.m1] at this
  refine this.mono ?_
  rintro e w' ⟨he, hst, hrow, hnf⟩
  have hd := h.duo.code hst
  rw [h.ts] at hrow
  refine ⟨he, hd.mem5, hd.f5, hd.own.below, h.m2, h.few, hrow, fun g hg => ?_⟩
  have hf : foot s g := .inr (.inr (.inr (.inr hg)))
  exact ⟨Nat.lt_of_lt_of_le (h.duo.own.mem.lt hf) hst.keep.size, h.duo.apart g hf⟩
theorem tkA {W w : World} {t : S5} {m2 : Nat} {v : Value} (h : ToldA W w t m2 v) : Calls Try.prog 20 #[.pointer (some ⟨m2, 0, none⟩)] w fun e w' => e = .returned t.vT ∧ (Wds w' v t.ts ∧ Wds w' t.vT t.ts) ∧ Below W.heap.size W w' := by
  have := h.mem5.takeC
  rw [h.m2] at this
  refine this.mono ?_
  rintro e w' ⟨he, hst, hrow⟩
  refine ⟨he, ⟨wds_of_row (ownsRow_same h.row fun g hg => hst.keep.block g (h.out g hg).1 (h.out g hg).2), wds_of_row hrow⟩, h.bel.trans (hst.keep.below h.bel.size h.f5)⟩
theorem swA {W w1 w : World} {t : S5} {m2 : Nat} {v : Value} (h : ToldA W w1 t m2 v) (hw : Wds w v t.ts ∧ Wds w t.vT t.ts) : Calls Try.prog 18 #[v, t.vT] w fun e w' => e = .returned (.bool true) ∧ ∃ n, w' = w.drewN n := sameWords_any w v t.vT t.ts hw.1 hw.2 (by have := h.few; omega)
theorem few_of12 {ps : List Part4} (h : few ps = true) : ps.length ≤ 8 ∧ ∀ p ∈ ps, p.data.length ≤ 600 := by
  unfold few at h
  simp only [Bool.and_eq_true, decide_eq_true_eq, List.all_eq_true] at h
  refine ⟨h.2, fun p hp => h.1 p ?_⟩
  rw [List.take_of_length_le h.2]
  exact hp
end Go.Proofs.Ytodoenimlhldjaa
namespace Go.Proofs.Ytodoenimlhldjaa
open Go.ChangeShapes Go.WideShapes Go.ChangeAt Go.RowKit
set_option linter.unusedVariables false
set_option maxRecDepth 20000 in
set_option maxHeartbeats 2000000 in
theorem callall_no (W : World) (ao : Option Addr) (cap : Nat) (ps : List Part4) (hpc : Pieces W ao ps) (hln : ps.length ≤ 9223372036854775807) (v : SV) (hv : v.ok) (inp : ByteArray) (a us : Int) (ro : Option Addr) (rcap : Nat) (ev : Value) (l : List Int) (e : List (Int × ByteArray)) (hrd : Rw W 1 (.slice ro l.length rcap) l.length (cI l)) (hev : Rw W 2 ev e.length (cE e)) (hel : e.length ≤ 9223372036854775807) (hno : few ps = false ∨ ¬ FewAll e inp.size l.length e.length a us) : Calls Try.prog 3 #[.slice ao ps.length cap, .agg v.c, .agg (cwC inp (a) (.slice ro l.length rcap) (us) ev)] W fun x w' => x = .returned (.bool true) ∧ Below W.heap.size W w' := by
  obtain ⟨n, hn⟩ : ∃ n, W.heap.size = n := ⟨_, rfl⟩
  have HAW := hidden (fun u => awake12_any u)
  have HV := hidden hv.1
  have HFP := hidden (fun (u : World) (hb : Below W.heap.size W u) => few_any u ao cap ps (hpc.later hb) hln)
  have HF2 := hidden (fun (u : World) (hb : Below W.heap.size W u) => few12_any u inp (a) (us) ro rcap ev l e (hev.later hb) hel)
  obtain ⟨C, hC⟩ : ∃ C, v.c = C := ⟨_, rfl⟩
  obtain ⟨CW, hCW⟩ : ∃ CW, cwC inp (a) (.slice ro l.length rcap) (us) ev = CW := ⟨_, rfl⟩
  have HC5 : Hid (CW.size = 5) := hidden (by rw [← hCW]; rfl)
  rw [hCW] at HF2
  rw [hC, hCW]
  have HC := hidden hC
  have HCW := hidden hCW
  clear hC hCW
  clear hpc hln hrd hev hel hv
  cases hf : few ps with
  | false =>
    rw [hf] at HFP
    clear hf hno HF2
    go_enter Try.func3, Try.ntmps3
    go_upto_region 1 with (first
      | (refine wpList_boxG rfl 26 _ rfl C rfl ?_; rintro w1 k1 s1 b1; rw [hn] at k1 s1 b1 ⊢; have K1 : Hid (Blk w1 n v.c 26) := hidden (by rw [HC.out]; exact k1); have S1 := hidden s1; have B1 := hidden b1; clear k1 s1 b1)
      | (refine wpList_boxG rfl 30 _ rfl CW rfl ?_; rintro w2 k2 s2 b2; rw [S1.out] at k2 s2 b2 ⊢; have P : Hid (CA W w2 n v CW) := hidden ⟨K1.out.later (by rw [S1.out]; exact b2), k2, by rw [hn]; exact B1.out.trans (b2.mono (Nat.le_succ n))⟩; clear k2 s2 b2 K1 S1 B1))
    go_wp2_with (first
      | (go_at_call 8; refine (HFP.out _ P.out.bel).mono ?_; rintro x w9 ⟨rfl, hww⟩; rw [hww]; clear hww w9)
      | (go_at_call 10; refine (HAW.out _).mono ?_; rintro x w8 ⟨rfl, hb8⟩; have HB8 := hidden hb8; clear hb8))
    go_ret
    exact ⟨rfl, P.out.bel.trans (HB8.out.mono P.out.bel.size)⟩
  | true =>
    have hno2 := hno.resolve_left (by rw [hf]; decide)
    have HF3 : Hid (∀ (u : World) (hb : Below W.heap.size W u), Calls Try.prog 9 #[.agg CW] u fun x w' => x = .returned (.bool false) ∧ Below u.heap.size u w') := hidden (fun u hb => (HF2.out u hb).mono fun x w' ⟨⟨b, hx, h1, _⟩, h2⟩ => by
      cases b with
      | false => exact ⟨hx, h2⟩
      | true => exact absurd (h1 rfl) hno2)
    rw [hf] at HFP
    clear hf hno hno2 HF2
    go_enter Try.func3, Try.ntmps3
    go_upto_region 1 with (first
      | (refine wpList_boxG rfl 26 _ rfl C rfl ?_; rintro w1 k1 s1 b1; rw [hn] at k1 s1 b1 ⊢; have K1 : Hid (Blk w1 n v.c 26) := hidden (by rw [HC.out]; exact k1); have S1 := hidden s1; have B1 := hidden b1; clear k1 s1 b1)
      | (refine wpList_boxG rfl 30 _ rfl CW rfl ?_; rintro w2 k2 s2 b2; rw [S1.out] at k2 s2 b2 ⊢; have P : Hid (CA W w2 n v CW) := hidden ⟨K1.out.later (by rw [S1.out]; exact b2), k2, by rw [hn]; exact B1.out.trans (b2.mono (Nat.le_succ n))⟩; clear k2 s2 b2 K1 S1 B1))
    go_wp2_with (first
      | (go_at_call 8; refine (HFP.out _ P.out.bel).mono ?_; rintro x w9 ⟨rfl, hww⟩; rw [hww]; clear hww w9)
      | (refine wpList_loadWrG (by kernel_rfl) _ rfl (n + 1) CW rfl P.out.c HC5.out ?_)
      | (go_at_call 9; refine (HF3.out _ P.out.bel).mono ?_; rintro x w3 ⟨rfl, hb3⟩; have Q := hidden (P.out.later hb3); clear hb3 P; have P := Q; clear Q)
      | (go_at_call 10; refine (HAW.out _).mono ?_; rintro x w8 ⟨rfl, hb8⟩; have HB8 := hidden hb8; clear hb8))
    go_ret
    exact ⟨rfl, P.out.bel.trans (HB8.out.mono P.out.bel.size)⟩
end Go.Proofs.Ytodoenimlhldjaa

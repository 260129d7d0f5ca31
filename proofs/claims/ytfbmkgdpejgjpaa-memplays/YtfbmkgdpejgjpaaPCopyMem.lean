/- A memory's copy. -/
import Derived.Test.YtfbmkgdpejgjpaaPSames
import Derived.Test.YtfbmkgdpejgjpaaPCopyWalk
import Derived.Test.YtfbmkgdpejgjpaaPHead
import Derived.Test.YtfbmkgdpejgjpaaPOwns
namespace Go.Proofs.Ytfbmkgdpejgjpaa
open Go.ChangeShapes Go.WideShapes Go.ChangeAt Go.RowKit
set_option linter.unusedVariables false
theorem load73 {w : World} {a : Addr} {v : Value} (hc : w.cell? a = some v) : (loadVar 73 a).run Try.prog w = .ok v w := by
  simp [loadVar, isAgg, Sem.run_bind, run_underlying Try.underlying73, hc, go_sem]
theorem load4 {w : World} {a : Addr} {v : Value} (hc : w.cell? a = some v) : (loadVar 4 a).run Try.prog w = .ok v w := by
  simp [loadVar, isAgg, Sem.run_bind, run_underlying Try.underlying4, hc, go_sem]
theorem build75b (b : Nat) (on : Bool) (w : World) : (Instr.build 75 #[(0, .pointer (some ⟨b, 0, none⟩)), (1, .bool on)]).run Try.prog w = .ok (.agg #[.pointer (some ⟨b, 0, none⟩), .bool on]) w := by kernel_rfl
/-- A memory that is the same. -/
structure CopyOf (s t : MS) : Prop where
  ks : ∀ k, k ∈ t.ks ↔ k ∈ s.ks
  len : t.ks.length = s.ks.length
  data : ∀ k ∈ t.ks, t.data k = s.data k ∧ t.pm k = s.pm k ∧ t.on k = s.on k
  most : t.most = s.most
  ts : t.ts = []
  c : t.c = s.c
/-- On the way there. -/
structure CopyInv (w0 w : World) (s : MS) (mb r : Nat) (todo : List Nat) (t : MS) : Prop where
  own : Own w0 w t
  at_ : w0.heap.size ≤ r
  mb : t.mb = mb
  ks : ∀ k, k ∈ t.ks ↔ k ∈ s.ks ∧ k ∉ todo
  len : t.ks.length + todo.length = s.ks.length
  data : ∀ k ∈ t.ks, t.data k = s.data k ∧ t.pm k = s.pm k ∧ t.on k = s.on k
  most : t.most = s.most
  ts : t.ts = []
  c : t.c = s.c
theorem It.notFoot {w : World} {r bm : Nat} {ks todo : List Nat} {t : MS} (h : It w r bm ks todo) (ht : MemW w t) : ¬ foot t r := by
  obtain ⟨seen, c0, h1, _⟩ := h.now
  rintro (e | e | ⟨k, hk, e⟩ | ⟨k, hk, e⟩ | e)
  · rw [e, ht.self] at h1; simp at h1
  · rw [e, ht.map] at h1; simp [mapObj] at h1
  · rw [e, ht.held k hk] at h1; simp at h1
  · obtain ⟨n, _, _, hp⟩ := ht.page k hk
    rw [e, hp.blk] at h1; simp at h1
  · obtain ⟨cur, hc⟩ := ht.tv_cells e
    rw [hc] at h1; simp at h1
theorem MemW.raise {w : World} {s : MS} (h : MemW w s) (c : Nat) (hc : s.c ≤ c) : MemW w { s with c := c } :=
  ⟨h.self, h.map, h.held, fun k hk => let ⟨n, h0, h1, h2⟩ := h.page k hk; ⟨n, h0, by show n ≤ (c : Int); omega, h2⟩, h.nodup, h.hbi, h.pbi, h.key, h.perm, h.room, h.great, h.touched, Nat.le_trans h.few hc⟩
theorem foot_raise {s : MS} {c b : Nat} (h : foot { s with c := c } b) : foot s b := h
/-- The last step of a round: what was copied is laid. -/
theorem copy_add {w0 w2 w3 : World} {s t : MS} {mb r k q g : Nat} {todo : List Nat} (hv : CopyInv w0 w2 s mb r todo t) (hR : Below w2.heap.size w2 w3) (hs0 : MemW w0 s) (hks : k ∈ s.ks) (hk : k ∈ todo) (hH : Held w3 q g (s.data k) (s.pm k) (s.on k) s.c) (hq : w2.heap.size ≤ q) (hg : w2.heap.size ≤ g) (hI2 : It w2 r s.bm s.ks (todo.erase k)) (hnd : todo.Nodup) :
    Calls Try.prog 45 #[.pointer (some ⟨mb, 0, none⟩), .int .u32 (k : Int), .pointer (some ⟨q, 0, none⟩)] w3 fun e w4 => e = .returned (.tuple #[]) ∧ It w4 r s.bm s.ks (todo.erase k) ∧ ∃ t', CopyInv w0 w4 s mb r (todo.erase k) t' := by
  have hm := hv.own.mem
  have hm3 := hm.later hR
  have hkk := hs0.key k hks
  have hkt : k ∉ t.ks := fun h => ((hv.ks k).1 h).2 hk
  have hlt : t.ks.length < t.most := by
    have h1 := hv.len
    have h2 := List.length_pos_of_mem hk
    have h3 := hs0.room
    rw [hv.most]
    omega
  have hc := addPage_any w3 t k q g (s.data k) (s.pm k) (s.on k) hm3 hkk.1 (by rw [pageOf_key hkk.2]; exact hkt) (by rw [hv.c]; exact hH) hlt (fun hf => by have := hm.lt hf; omega) (fun hf => by have := hm.lt hf; omega)
  rw [hv.mb, pageOf_key hkk.2] at hc
  refine hc.mono ?_
  rintro e w4 ⟨he, hm4, hkp⟩
  refine ⟨he, ?_⟩
  have hlay : ∀ b, foot (t.lay k q g (s.data k) (s.pm k) (s.on k)) b → foot t b ∨ b = q ∨ b = g := by
    rintro b (hb | hb | ⟨j, hj, hb⟩ | ⟨j, hj, hb⟩ | hb)
    · exact .inl (.inl hb)
    · exact .inl (.inr (.inl hb))
    · by_cases e : j = k
      · subst e
        simp only [MS.lay, upd_same] at hb
        exact .inr (.inl hb)
      · simp only [MS.lay, upd_other _ _ e] at hb
        exact .inl (.inr (.inr (.inl ⟨j, by simpa [MS.lay, e] using hj, hb⟩)))
    · by_cases e : j = k
      · subst e
        simp only [MS.lay, upd_same] at hb
        exact .inr (.inr hb)
      · simp only [MS.lay, upd_other _ _ e] at hb
        exact .inl (.inr (.inr (.inr (.inl ⟨j, by simpa [MS.lay, e] using hj, hb⟩))))
    · exact .inl (.inr (.inr (.inr (.inr hb))))
  have hw02 := hv.own.below.size
  have hb3 : Below w0.heap.size w0 w3 := hv.own.below.trans (hR.mono hw02)
  have hb4 : Below w0.heap.size w0 w4 := hb3.trans (hkp.below hb3.size fun b hb => hb.elim (fun e => hv.own.foot b (.inl (e.trans hv.mb.symm))) fun e => hv.own.foot b (.inr (.inl e)))
  have hr : w4.heap[r]? = w2.heap[r]? := by
    refine (hkp.block r (Nat.lt_of_lt_of_le hI2.lt hR.size) ?_).trans (hR.block r hI2.lt)
    rintro (e | e)
    · exact hI2.notFoot hm (.inl (e.trans hv.mb.symm))
    · exact hI2.notFoot hm (.inr (.inl e))
  refine ⟨hI2.same hr, t.lay k q g (s.data k) (s.pm k) (s.on k), ⟨hm4, hb4, fun b hb => ?_⟩, hv.at_, hv.mb, fun j => ?_, ?_, fun j hj => ?_, hv.most, hv.ts, hv.c⟩
  · rcases hlay b hb with h | h | h
    · exact hv.own.foot b h
    · omega
    · omega
  · have := hv.ks j
    rw [List.Nodup.mem_erase_iff hnd]
    simp only [MS.lay, List.mem_append, List.mem_singleton]
    by_cases e : j = k
    · subst e
      simp [hks]
    · simp [e, this]
  · have h1 := hv.len
    have h2 := List.length_erase_of_mem hk
    have h3 := List.length_pos_of_mem hk
    simp only [MS.lay, List.length_append, List.length_singleton]
    omega
  · by_cases e : j = k
    · subst e
      simp only [MS.lay, upd_same, and_self]
    · simp only [MS.lay, upd_other _ _ e]
      exact hv.data j (by simpa [MS.lay, e] using hj)
/-- What the slots of the region hold, whatever the order. -/
def phiCp (cm k hb pb m : Nat) (on : Bool) (l : List UInt8) (p n : Int) : Nat → Value → World → Prop
  | 0, x, _ => x = .pointer (some ⟨cm, 0, none⟩)
  | 1, x, _ => x = .int .u32 (k : Int)
  | 2, x, _ => x = .pointer (some ⟨hb, 0, none⟩)
  | 3, x, _ => x = .pointer (some ⟨hb, 0, none⟩)
  | 4, x, _ => x = .pointer (some ⟨hb, 0, none⟩)
  | 5, x, _ => x = .pointer (some ⟨pb, 0, none⟩)
  | 6, x, w => ∃ g, x = .pointer (some ⟨g, 0, none⟩) ∧ m ≤ g ∧ Pg 93 w g l p n
  | 7, x, _ => x = .pointer (some ⟨hb, 0, none⟩)
  | 8, x, _ => x = .pointer (some ⟨hb, 0, none⟩)
  | 9, x, _ => x = .pointer (some ⟨hb, 1, none⟩)
  | 10, x, _ => x = .bool on
  | 11, x, w => ∃ g, x = .agg #[.pointer (some ⟨g, 0, none⟩), .bool on] ∧ m ≤ g ∧ Pg 93 w g l p n
  | 12, x, w => ∃ g q, x = .pointer (some ⟨q, 0, none⟩) ∧ m ≤ g ∧ m ≤ q ∧ Pg 93 w g l p n ∧ w.heap[q]? = some (.cells #[.pointer (some ⟨g, 0, none⟩), .bool on] 75 (0, 0))
  | _ + 13, _, _ => True
theorem phiCp_mono (cm k hb pb m : Nat) (on : Bool) (l : List UInt8) (p n : Int) : ∀ i x w w', phiCp cm k hb pb m on l p n i x w → Below w.heap.size w w' → phiCp cm k hb pb m on l p n i x w'
  | 0, _, _, _, h, _ => h
  | 1, _, _, _, h, _ => h
  | 2, _, _, _, h, _ => h
  | 3, _, _, _, h, _ => h
  | 4, _, _, _, h, _ => h
  | 5, _, _, _, h, _ => h
  | 6, x, w, w', h, hbl => by obtain ⟨g, e, h1, h2⟩ := h; exact ⟨g, e, h1, h2.later hbl⟩
  | 7, _, _, _, h, _ => h
  | 8, _, _, _, h, _ => h
  | 9, _, _, _, h, _ => h
  | 10, _, _, _, h, _ => h
  | 11, x, w, w', h, hbl => by obtain ⟨g, e, h1, h2⟩ := h; exact ⟨g, e, h1, h2.later hbl⟩
  | 12, x, w, w', h, hbl => by obtain ⟨g, q, e, h1, h2, h3, h4⟩ := h; exact ⟨g, q, e, h1, h2, h3.later hbl, (hbl.block q (Array.getElem?_eq_some_iff.1 h4).1).trans h4⟩
  | _ + 13, _, _, _, _, _ => trivial
theorem list13 : ∀ xs : List Value, xs.length = 13 → ∃ x0 x1 x2 x3 x4 x5 x6 x7 x8 x9 x10 x11 x12, xs = [x0, x1, x2, x3, x4, x5, x6, x7, x8, x9, x10, x11, x12]
  | [x0, x1, x2, x3, x4, x5, x6, x7, x8, x9, x10, x11, x12], _ => ⟨_, _, _, _, _, _, _, _, _, _, _, _, _, rfl⟩
set_option maxRecDepth 20000 in
set_option maxHeartbeats 2000000 in
theorem copyMem_any (w : World) (s : MS) (hs : MemW w s) : Calls Try.prog 19 #[.pointer (some ⟨s.mb, 0, none⟩)] w fun e w' => ∃ t, e = .returned (.pointer (some ⟨t.mb, 0, none⟩)) ∧ Own w w' t ∧ CopyOf s t := by
  have HS := hidden hs
  have h2 := hs.cell2
  have hms := hs.great
  have H9 := hidden (newMem_step (s.most : Int) w)
  have ec : cutMost (s.most : Int) = s.most := by unfold cutMost; omega
  rw [ec] at H9
  have HC : Hid (∀ u, Below w.heap.size w u → u.cell? ⟨s.mb, 0, none⟩ = some (.map (some s.bm)) ∧ (Instr.range 60 (.map (some s.bm))).run Try.prog u = .ok (.pointer (some ⟨u.heap.size, 0, none⟩)) (u.alloc (.mapIter (some s.bm) s.ks.length #[] s.ks.length)) ∧ It (u.alloc (.mapIter (some s.bm) s.ks.length #[] s.ks.length)) u.heap.size s.bm s.ks s.ks) := by
    intro u hu
    have hu' := hs.later hu
    exact ⟨hu'.cell0, run_range hu'.map, it_start hu'.nodup⟩
  generalize hx : (s.most : Int) = x at h2 H9
  clear hs hms ec hx
  go_enter Try.func19, Try.ntmps19
  go_wp2_with (go_at_call 9; refine (Hid.out H9).mono ?_; rintro e w1 ⟨cm, cbm, rfl, hm, hb, hf⟩; obtain ⟨hc0, hrg, hit⟩ := Hid.out HC w1 hb; have HO := hidden (Own.mk hm hb hf); have HIT := hidden hit; clear hm hb hf H9 hit HC)
  go_loopg [4, 5] s.ks.length (fun q x4 x5 wr => ∃ todo, todo.length = q ∧ It wr w1.heap.size s.bm s.ks todo ∧ ∃ t, CopyInv w wr s cm w1.heap.size todo t)
  case atStart =>
    have ho := Hid.out HO
    refine ⟨s.ks, rfl, Hid.out HIT, { fresh cm cbm s.most with c := s.c }, ⟨⟨?_, ?_, fun b hb => ho.foot b hb⟩, ho.below.size, rfl, fun k => ?_, ?_, ?_, rfl, rfl, rfl⟩⟩
    · exact (ho.mem.later ((Below.refl _ _).alloc (Nat.le_refl _) _)).raise s.c (Nat.zero_le _)
    · exact ho.below.alloc ho.below.size _
    · simp [fresh]
    · simp [fresh]
    · simp [fresh]
  case round =>
    obtain ⟨todo, hq, hI, t, hv⟩ := hrel
    have hS := (Hid.out HS).later hv.own.below
    rcases run_next hI hS.map hS.nodup 0 with ⟨h0', hrun⟩ | ⟨k, w2, hk, hrun, hI2, hO, hent⟩
    · have HV := hidden hv
      clear hS hv hI
      go_wp2
      go_ret
      have hv := Hid.out HV
      subst h0'
      exact ⟨t, by rw [hv.mb]; rfl, hv.own, fun k => by rw [hv.ks]; simp, by simpa using hv.len, hv.data, hv.most, hv.ts, hv.c⟩
    · have hks := hI.sub k hk
      have hB2 : Below w.heap.size w w2 := hv.own.below.trans (hO.below hv.at_)
      have hS2 := (Hid.out HS).later hB2
      obtain ⟨n1, hn0, hn1, hp1⟩ := hS2.page k hks
      have hV2 : CopyInv w w2 s cm w1.heap.size todo t := by
        refine ⟨⟨hv.own.mem.keep (Keep.of_only hO) fun b hb e => hI.notFoot hv.own.mem (e ▸ hb), hB2, hv.own.foot⟩, hv.at_, hv.mb, hv.ks, hv.len, hv.data, hv.most, hv.ts, hv.c⟩
      have HV2 := hidden hV2
      have HS2 := hidden hS2
      have HP2 := hidden hp1
      have HKS := hidden hks
      have HK := hidden hk
      have HI2 := hidden hI2
      have HND := hidden hI.nodup
      have HN0 := hidden hn0
      have HN1 := hidden hn1
      have HPM := hidden (hS2.perm k hks)
      have hlen := List.length_erase_of_mem hk
      have hpos := List.length_pos_of_mem hk
      clear hS hv hks hB2 hS2 hp1 hV2 hk hI2 hn0 hn1 hO hI
      go_wp2
      refine wp_region_head later_below 13 [21, 22, 23, 24, 25, 26, 27, 28, 29, 30, 31, 32, 33] (phiCp cm k (s.hb k) (s.pb k) w2.heap.size (s.on k) (s.data k) (s.pm k) n1) (by kernel_rfl) (by kernel_rfl) rfl (phiCp_mono cm k (s.hb k) (s.pb k) w2.heap.size (s.on k) (s.data k) (s.pm k) n1) ?_ ?_
      · intro j hj xs w3 hxs hR hpre
        obtain ⟨x0, x1, x2, x3, x4, x5, x6, x7, x8, x9, x10, x11, x12, rfl⟩ := list13 xs hxs
        have hS3 := (Hid.out HS2).later hR
        have hP3 := (Hid.out HP2).later hR
        have hks := Hid.out HKS
        rcases (show j = 0 ∨ j = 1 ∨ j = 2 ∨ j = 3 ∨ j = 4 ∨ j = 5 ∨ j = 6 ∨ j = 7 ∨ j = 8 ∨ j = 9 ∨ j = 10 ∨ j = 11 ∨ j = 12 by omega) with rfl | rfl | rfl | rfl | rfl | rfl | rfl | rfl | rfl | rfl | rfl | rfl | rfl
        · exact wpOp_run (.pointer (some ⟨cm, 0, none⟩)) rfl (by kernel_rfl) (exec_move rfl (by kernel_rfl) w3) ⟨_, by kernel_rfl, rfl, Below.refl _ _⟩
        · exact wpOp_run (.int .u32 (k : Int)) rfl (by kernel_rfl) (exec_move rfl (by kernel_rfl) w3) ⟨_, by kernel_rfl, rfl, Below.refl _ _⟩
        · exact wpOp_run (.pointer (some ⟨(s.hb k), 0, none⟩)) rfl (by kernel_rfl) (exec_move rfl (by kernel_rfl) w3) ⟨_, by kernel_rfl, rfl, Below.refl _ _⟩
        · have e2 : x2 = .pointer (some ⟨(s.hb k), 0, none⟩) := hpre 2 (by kernel_rfl)
          subst e2
          exact wpOp_run (.pointer (some ⟨(s.hb k), 0, none⟩)) rfl (by kernel_rfl) (by kernel_rfl) ⟨_, by kernel_rfl, rfl, Below.refl _ _⟩
        · have e3 : x3 = .pointer (some ⟨(s.hb k), 0, none⟩) := hpre 3 (by kernel_rfl)
          subst e3
          exact wpOp_run (.pointer (some ⟨(s.hb k), 0, none⟩)) rfl (by kernel_rfl) (by kernel_rfl) ⟨_, by kernel_rfl, rfl, Below.refl _ _⟩
        · have e4 : x4 = .pointer (some ⟨(s.hb k), 0, none⟩) := hpre 4 (by kernel_rfl)
          subst e4
          exact wpOp_run (.pointer (some ⟨(s.pb k), 0, none⟩)) rfl (by kernel_rfl) (exec_load 73 rfl (by kernel_rfl) w3 (load73 (hS3.held0 hks))) ⟨_, by kernel_rfl, rfl, Below.refl _ _⟩
        · have e5 : x5 = .pointer (some ⟨(s.pb k), 0, none⟩) := hpre 5 (by kernel_rfl)
          subst e5
          refine wpOp_callR (R := fun u w4 => ∃ g, u = .pointer (some ⟨g, 0, none⟩) ∧ w3.heap.size ≤ g ∧ Pg 93 w4 g (s.data k) (s.pm k) n1 ∧ Below w3.heap.size w3 w4) 49 #[.pointer (some ⟨s.pb k, 0, none⟩)] rfl (by kernel_rfl) (by kernel_rfl) ((copy_any w3 _ _ _ _ hP3).mono fun e w4 ⟨g, he, h1, h2, h3⟩ => ⟨_, he, g, rfl, h1, h2, h3⟩) ?_
          rintro _ w4 ⟨g, rfl, h1, h2, h3⟩
          exact ⟨_, by kernel_rfl, ⟨g, rfl, Nat.le_trans hR.size h1, h2⟩, h3⟩
        · exact wpOp_run (.pointer (some ⟨(s.hb k), 0, none⟩)) rfl (by kernel_rfl) (exec_move rfl (by kernel_rfl) w3) ⟨_, by kernel_rfl, rfl, Below.refl _ _⟩
        · have e7 : x7 = .pointer (some ⟨(s.hb k), 0, none⟩) := hpre 7 (by kernel_rfl)
          subst e7
          exact wpOp_run (.pointer (some ⟨(s.hb k), 0, none⟩)) rfl (by kernel_rfl) (by kernel_rfl) ⟨_, by kernel_rfl, rfl, Below.refl _ _⟩
        · have e8 : x8 = .pointer (some ⟨(s.hb k), 0, none⟩) := hpre 8 (by kernel_rfl)
          subst e8
          exact wpOp_run (.pointer (some ⟨(s.hb k), 1, none⟩)) rfl (by kernel_rfl) (by kernel_rfl) ⟨_, by kernel_rfl, rfl, Below.refl _ _⟩
        · have e9 : x9 = .pointer (some ⟨(s.hb k), 1, none⟩) := hpre 9 (by kernel_rfl)
          subst e9
          exact wpOp_run (.bool (s.on k)) rfl (by kernel_rfl) (exec_load 4 rfl (by kernel_rfl) w3 (load4 (hS3.held1 hks))) ⟨_, by kernel_rfl, rfl, Below.refl _ _⟩
        · have f6 : ∃ g, x6 = .pointer (some ⟨g, 0, none⟩) ∧ w2.heap.size ≤ g ∧ Pg 93 w3 g (s.data k) (s.pm k) n1 := hpre 6 (by kernel_rfl)
          obtain ⟨g6, e6, hg6, hp6⟩ := f6
          subst e6
          have e10 : x10 = .bool (s.on k) := hpre 10 (by kernel_rfl)
          subst e10
          exact wpOp_run (.agg #[.pointer (some ⟨g6, 0, none⟩), .bool (s.on k)]) rfl (by kernel_rfl) (exec_build 75 rfl (by kernel_rfl) w3 (build75b g6 (s.on k) w3)) ⟨_, by kernel_rfl, ⟨g6, rfl, hg6, hp6⟩, Below.refl _ _⟩
        · have f11 : ∃ g, x11 = .agg #[.pointer (some ⟨g, 0, none⟩), .bool (s.on k)] ∧ w2.heap.size ≤ g ∧ Pg 93 w3 g (s.data k) (s.pm k) n1 := hpre 11 (by kernel_rfl)
          obtain ⟨g11, e11, hg11, hp11⟩ := f11
          subst e11
          exact wpOp_run (.pointer (some ⟨w3.heap.size, 0, none⟩)) rfl (by kernel_rfl) (exec_box 75 rfl (by kernel_rfl) w3) ⟨_, by kernel_rfl, ⟨g11, w3.heap.size, rfl, hg11, hR.size, hp11.later ((Below.refl _ _).alloc (Nat.le_refl _) _), heap_alloc_new w3 _⟩, (Below.refl _ _).alloc (Nat.le_refl _) _⟩
      · intro xs w3 hxs hR hall
        obtain ⟨x0, x1, x2, x3, x4, x5, x6, x7, x8, x9, x10, x11, x12, rfl⟩ := list13 xs hxs
        have e0 : x0 = .pointer (some ⟨cm, 0, none⟩) := hall 0 (by omega)
        subst e0
        have e1 : x1 = .int .u32 (k : Int) := hall 1 (by omega)
        subst e1
        have e2 : x2 = .pointer (some ⟨(s.hb k), 0, none⟩) := hall 2 (by omega)
        subst e2
        have e3 : x3 = .pointer (some ⟨(s.hb k), 0, none⟩) := hall 3 (by omega)
        subst e3
        have e4 : x4 = .pointer (some ⟨(s.hb k), 0, none⟩) := hall 4 (by omega)
        subst e4
        have e5 : x5 = .pointer (some ⟨(s.pb k), 0, none⟩) := hall 5 (by omega)
        subst e5
        have e7 : x7 = .pointer (some ⟨(s.hb k), 0, none⟩) := hall 7 (by omega)
        subst e7
        have e8 : x8 = .pointer (some ⟨(s.hb k), 0, none⟩) := hall 8 (by omega)
        subst e8
        have e9 : x9 = .pointer (some ⟨(s.hb k), 1, none⟩) := hall 9 (by omega)
        subst e9
        have e10 : x10 = .bool (s.on k) := hall 10 (by omega)
        subst e10
        have f12 : ∃ g q, x12 = .pointer (some ⟨q, 0, none⟩) ∧ w2.heap.size ≤ g ∧ w2.heap.size ≤ q ∧ Pg 93 w3 g (s.data k) (s.pm k) n1 ∧ w3.heap[q]? = some (.cells #[.pointer (some ⟨g, 0, none⟩), .bool (s.on k)] 75 (0, 0)) := hall 12 (by omega)
        obtain ⟨g12, q12, e12, hg12, hq12, hp12, hh12⟩ := f12
        subst e12
        have H45 := hidden (copy_add (Hid.out HV2) hR (Hid.out HS) (Hid.out HKS) (Hid.out HK) ⟨hh12, ⟨n1, Hid.out HN0, Hid.out HN1, hp12⟩, Hid.out HPM⟩ hq12 hg12 (Hid.out HI2) (Hid.out HND))
        clear hall hR hxs hp12 hh12 hg12 hq12
        simp only [slotsOn, putAll, List.set_cons_succ, List.set_cons_zero, List.drop_succ_cons, List.drop_zero]
        go_wp2_with (go_at_call 45; refine (Hid.out H45).mono ?_; rintro e w4 ⟨rfl, hi4, hv4⟩; have HI4 := hidden hi4; have HV4 := hidden hv4; clear hv4 hi4)
        go_roundg (todo.erase k).length
        case measure => omega
        case rel => exact ⟨todo.erase k, rfl, Hid.out HI4, Hid.out HV4⟩
end Go.Proofs.Ytfbmkgdpejgjpaa

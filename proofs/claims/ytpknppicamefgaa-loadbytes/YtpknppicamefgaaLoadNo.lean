/- LoadBytes: the walk. -/
import Derived.Test.YtpknppicamefgaaLoadAwake
import Derived.Test.YtpknppicamefgaaLoadFew
namespace Go.Proofs.Ytpknppicamefgaa
open Go.ChangeShapes Go.WideShapes Go.ChangeAt Go.RowKit
set_option linter.unusedVariables false
/-- Perms from 0 to 7. -/
def RangeA (f : AM) : Prop := ∀ k x, f k = some x → 0 ≤ x.2.1 ∧ x.2.1 ≤ 7
theorem rangeA_amap {f : AM} (h : RangeA f) (a : Nat) (z : Int) : RangeA (amap f a z) := by
  intro k x hx
  unfold amap at hx
  split at hx
  · split at hx
    · rename_i l p o he
      cases hx
      show 0 ≤ orP p z ∧ orP p z ≤ 7
      unfold orP
      omega
    · cases hx
      show 0 ≤ z % 8 ∧ z % 8 ≤ 7
      omega
  · exact h _ _ hx
theorem rangeA_apoke {f : AM} (h : RangeA f) (a : Nat) (v : UInt8) : RangeA (apoke f a v) := by
  intro k x hx
  unfold apoke at hx
  split at hx
  · cases he : f k with
    | none => rw [he] at hx; cases hx
    | some y => rw [he] at hx; cases hx; exact h k y he
  · exact h _ _ hx
theorem rangeA_lay (z : Int) : ∀ (ps : List Nat) {f : AM}, RangeA f → RangeA (layAm f z ps) := by
  intro ps
  induction ps with
  | nil => intro f h; exact h
  | cons p ps ih => intro f h; exact ih (rangeA_amap h p z)
theorem rangeA_fill {f : AM} (h : RangeA f) (a : Nat) (d : List UInt8) : ∀ k, RangeA (fillAm f a d k)
  | 0 => h
  | k + 1 => rangeA_apoke (rangeA_fill h a d k) _ _
theorem rangeA_load : ∀ (l : List Sg) {f : AM}, RangeA f → RangeA (l.foldl segAm f) := by
  intro l
  induction l with
  | nil => intro f h; exact h
  | cons g l ih => intro f h; exact ih (rangeA_fill (rangeA_lay _ _ h) _ _ _)
theorem stack_perm (l : List Sg) : bits .and .i64 (permA (allAm l) 2147479551) 6 = 6 := by
  have hr : RangeA (loadAm l) := rangeA_load l fun _ _ h => by cases h
  have hs : ∃ p ∈ stackPg, pageOf 2147479551 = pageOf p := ⟨2147479296, by rw [stack_pages]; simp, by decide⟩
  obtain ⟨h1, h2⟩ := permA_lay_in (z := 6) (a := 2147479551) stackPg (f := loadAm l) (pgs_nodup _ _) hs
  unfold allAm
  by_cases hi : inA (loadAm l) 2147479551
  · rw [h2 hi]
    obtain ⟨x, hx⟩ := hi
    have hx2 := hr _ _ hx
    have hp : permA (loadAm l) 2147479551 = x.2.1 := by unfold permA; rw [hx]
    rw [hp]
    exact (and_of hx2.1 hx2.2).2.2
  · rw [h1 hi]
    decide
theorem get_byteA (s : MS) (a : Nat) : s.get a = byteA s.abs a := by
  rw [get_abs]
  unfold byteA
  cases s.abs (pageOf a) with
  | none => rfl
  | some x => rfl
theorem perm_permA (s : MS) (a : Nat) : s.perm a = permA s.abs a := by
  unfold MS.perm permA MS.abs
  by_cases h : pageOf a ∈ s.ks
  · rw [if_pos h, if_pos h]
  · rw [if_neg h, if_neg h]
theorem told_perm (s : MS) (a : Nat) : s.told.perm a = s.perm a := rfl
theorem tv_nil {w : World} {s : MS} (h : MemW w s) (ht : s.ts = []) : ∃ ao cap, s.tv = .slice ao 0 cap := by
  have h2 := h.touched
  rw [ht] at h2
  rcases h2.2 with ⟨e, _⟩ | ⟨g, cap, cur, e, _⟩
  · exact ⟨_, _, e⟩
  · exact ⟨_, _, e⟩
theorem wpList_runG {P : Program} {ops : Array Oper} {rest : List Oper} {o : Oper} {a : Act} {w w' : World} {v : Value} {Q : Exit → Act → World → Prop} (hw : Region.wanted o (yielded ops a.tmps) = true)
    (hrun : (execOp a.eval o).run P w = .ok (.value v) w') (h : wpList P ops Q rest (a.put o.dst v) w') : wpList P ops Q (o :: rest) a w := by
  unfold wpList
  rw [if_pos hw]
  refine .inl ?_
  unfold Oper.wp
  rw [hrun]
  exact h
theorem wpList_loadStG {ops : Array Oper} {rest : List Oper} {o : Oper} {a : Act} {w : World} {Q : Exit → Act → World → Prop} (x : Operand) (ho : o.op = .load 31 x)
    (g : Nat) (cs : Array Value) (hx : a.eval x = .pointer (some ⟨g, 0, none⟩)) (hg : Blk w g cs 31) (hc : cs.size = 37) (hw : Region.wanted o (yielded ops a.tmps) = true)
    (h : wpList Try.prog ops Q rest (a.put o.dst (.agg cs)) w) : wpList Try.prog ops Q (o :: rest) a w := by
  refine wpList_runG hw ?_ h
  unfold execOp
  simp only [ho, hx, Instr.loadAt, Instr.sureAddr, Sem.run_bind, Sem.run_pure, Result.andThen_ok, run_loadVar_row w g 31 31 cs (0, 0) _ hg Try.underlying31 rfl (by rw [hc]; exact sizeSt)]
theorem wpList_buildStG {ops : Array Oper} {rest : List Oper} {o : Oper} {a : Act} {w : World} {Q : Exit → Act → World → Prop} (ho : o.op = .build 31 #[]) (hw : Region.wanted o (yielded ops a.tmps) = true)
    (h : wpList Try.prog ops Q rest (a.put o.dst (.agg (stC 0 0 0))) w) : wpList Try.prog ops Q (o :: rest) a w := by
  refine wpList_runG hw ?_ h
  obtain ⟨dst, op, ty, pos, aft, gd⟩ := o
  simp only at ho
  subst ho
  kernel_rfl
set_option maxRecDepth 20000 in
set_option maxHeartbeats 2000000 in
theorem lb_many (w : World) (ao : Option Addr) (cap ent : Nat) (l : List Sg) (v : Int) (h : Segs w ao l) (hcap : l.length ≤ cap) (hmax : cap ≤ 9223372036854775807) (he : ent < 4294967296) (hf : fewB l = false) : Calls Try.prog 4 #[.agg #[.int .u32 (ent : Int), .slice ao l.length cap], .int .i64 v] w fun e w' => e = .returned (.bool true) ∧ Below w.heap.size w w' := by
  obtain ⟨n, hn⟩ : ∃ n, w.heap.size = n := ⟨_, rfl⟩
  obtain ⟨wa, hwa⟩ : ∃ wa, w.alloc (.cells #[.int .u32 (ent : Int), .slice ao l.length cap] 25) = wa := ⟨_, rfl⟩
  have hba : Below n w wa := by rw [← hwa, ← hn]; exact below_new w _
  have hka : Blk wa n #[.int .u32 (ent : Int), .slice ao l.length cap] 25 := by rw [← hwa, ← hn]; exact Blk.new w _ _
  have q0 : wa.cell? ⟨n, 0, none⟩ = some (.int .u32 (ent : Int)) := hka.cell rfl
  have q1 : wa.cell? ⟨n, 1, none⟩ = some (.slice ao l.length cap) := hka.cell rfl
  have hs : n ≤ wa.heap.size := by have := hba.size; omega
  have H7 : Hid (Calls Try.prog 7 #[.agg #[.int .u32 (ent : Int), .slice ao l.length cap]] wa fun e w' => e = .returned (.bool false) ∧ Calls Try.prog 8 #[] w' fun e w2 => e = .returned (.bool true) ∧ Below n w w2) := by
    refine (fewFile_any wa ao cap ent l (h.later (by rw [hn]; exact hba)) hcap hmax).mono ?_
    rintro e w1 ⟨h1, h2⟩
    rw [hf] at h1
    refine ⟨h1, (wake_any w1).mono ?_⟩
    rintro e w2 ⟨h3, h4⟩
    exact ⟨h3, (hba.trans (h2.mono hs)).trans (h4.mono (Nat.le_trans hs h2.size))⟩
  clear h hba hka hf
  go_enter Try.func4, Try.ntmps4
  go_wp2_with (first
    | (go_at_call 7; with_reducible refine (Hid.out H7).mono ?_; rintro e w1 ⟨rfl, h8⟩; have H8 := hidden h8; clear h8)
    | (go_at_call 8; with_reducible refine (Hid.out H8).mono ?_; rintro e w2 ⟨rfl, hb2⟩; have HB2 := hidden hb2; clear hb2))
  go_ret
  exact ⟨rfl, by rw [hn]; exact Hid.out HB2⟩
set_option maxRecDepth 20000 in
set_option maxHeartbeats 4000000 in
theorem lb_no (w : World) (ao : Option Addr) (cap ent : Nat) (l : List Sg) (v : Int) (h : Segs w ao l) (hcap : l.length ≤ cap) (hmax : cap ≤ 9223372036854775807) (he : ent < 4294967296) (hf : fewB l = true) (er : Int) (h0 : ¬ er = 0) (hor : ¬ (checkE ent l : Int) = 0 ∨ er = 2)
    (hl : ∀ w1, Segs w1 ao l → Calls Try.prog 9 #[.agg #[.int .u32 (ent : Int), .slice ao l.length cap], .int .i64 64] w1 fun e w' => e = .returned (.tuple #[.pointer none, .agg (stC 0 0 0), .int .i64 er]) ∧ Below w1.heap.size w1 w') : Calls Try.prog 4 #[.agg #[.int .u32 (ent : Int), .slice ao l.length cap], .int .i64 v] w fun e w' => e = .returned (.bool true) ∧ Below w.heap.size w w' := by
  obtain ⟨n, hn⟩ : ∃ n, w.heap.size = n := ⟨_, rfl⟩
  obtain ⟨wa, hwa⟩ : ∃ wa, w.alloc (.cells #[.int .u32 (ent : Int), .slice ao l.length cap] 25) = wa := ⟨_, rfl⟩
  have hba : Below n w wa := by rw [← hwa, ← hn]; exact below_new w _
  have hka : Blk wa n #[.int .u32 (ent : Int), .slice ao l.length cap] 25 := by rw [← hwa, ← hn]; exact Blk.new w _ _
  have q0 : wa.cell? ⟨n, 0, none⟩ = some (.int .u32 (ent : Int)) := hka.cell rfl
  have q1 : wa.cell? ⟨n, 1, none⟩ = some (.slice ao l.length cap) := hka.cell rfl
  have hs : n < wa.heap.size := hka.lt
  have H7 : Hid (Calls Try.prog 7 #[.agg #[.int .u32 (ent : Int), .slice ao l.length cap]] wa fun e w1 => e = .returned (.bool true) ∧ w1.cell? ⟨n, 0, none⟩ = some (.int .u32 (ent : Int)) ∧ w1.cell? ⟨n, 1, none⟩ = some (.slice ao l.length cap) ∧ Calls Try.prog 9 #[.agg #[.int .u32 (ent : Int), .slice ao l.length cap], .int .i64 64] w1 fun e w2 => e = .returned (.tuple #[.pointer none, .agg (stC 0 0 0), .int .i64 er]) ∧ ∃ g, w2.heap.size = g ∧ ∀ w3 w4, Below g w2 w3 → Only g w3 w4 → Calls Try.prog 11 #[.agg (stC 0 0 0), .agg (stC 0 0 0)] w4 fun e w5 => e = .returned (.bool true) ∧ w5.cell? ⟨n, 0, none⟩ = some (.int .u32 (ent : Int)) ∧ w5.cell? ⟨n, 1, none⟩ = some (.slice ao l.length cap) ∧ Calls Try.prog 15 #[.agg #[.int .u32 (ent : Int), .slice ao l.length cap]] w5 fun e w6 => e = .returned (.int .i64 (checkE ent l : Int)) ∧ Calls Try.prog 8 #[] w6 fun e w7 => e = .returned (.bool true) ∧ Below n w w7) := by
    refine (fewFile_any wa ao cap ent l (h.later (by rw [hn]; exact hba)) hcap hmax).mono ?_
    rintro e w1 ⟨h1, h2⟩
    rw [hf] at h1
    have b1 : Below n w w1 := hba.trans (h2.mono (by omega))
    have k1 : Blk w1 n #[.int .u32 (ent : Int), .slice ao l.length cap] 25 := hka.later h2
    refine ⟨h1, k1.cell rfl, k1.cell rfl, (hl w1 (h.later (by rw [hn]; exact b1))).mono ?_⟩
    rintro e w2 ⟨h3, h4⟩
    have k2 : Blk w2 n #[.int .u32 (ent : Int), .slice ao l.length cap] 25 := k1.later h4
    have b2 : Below n w w2 := b1.trans (h4.mono (by have := k1.lt; omega))
    refine ⟨h3, w2.heap.size, rfl, fun w3 w4 hb3 ho4 => ?_⟩
    have k3 : Blk w3 n #[.int .u32 (ent : Int), .slice ao l.length cap] 25 := k2.later hb3
    have k4 : Blk w4 n #[.int .u32 (ent : Int), .slice ao l.length cap] 25 := k3.only ho4 (by have := k2.lt; omega)
    have b3 : Below n w w3 := b2.trans (hb3.mono (by have := k2.lt; omega))
    have b4 : Below n w w4 := only_below b3 ho4 (by have := k2.lt; omega)
    refine (sameState_zero w4).mono ?_
    rintro e w5 ⟨h5, h6⟩
    have k5 : Blk w5 n #[.int .u32 (ent : Int), .slice ao l.length cap] 25 := k4.later h6
    have b5 : Below n w w5 := b4.trans (h6.mono (by have := k4.lt; omega))
    refine ⟨h5, k5.cell rfl, k5.cell rfl, (check_any w5 ao cap ent l (h.later (by rw [hn]; exact b5)) hcap hmax he).mono ?_⟩
    rintro e w6 ⟨h7, h8⟩
    have b6 : Below n w w6 := b5.trans (h8.mono (by have := k5.lt; omega))
    have k6 : Blk w6 n #[.int .u32 (ent : Int), .slice ao l.length cap] 25 := k5.later h8
    refine ⟨h7, (wake_any w6).mono ?_⟩
    rintro e w7 ⟨h9, h10⟩
    exact ⟨h9, b6.trans (h10.mono (by have := k6.lt; omega))⟩
  clear h hba hka hf hl
  have HW : Hid True := trivial
  rcases hor with hor | hor
  · go_enter Try.func4, Try.ntmps4
    go_wp2_with (first
      | (go_at_call 7; with_reducible refine (Hid.out H7).mono ?_; rintro e w1 ⟨rfl, p0, p1, h9⟩; have H9 := hidden h9; clear h9)
      | (go_at_call 9; with_reducible refine (Hid.out H9).mono ?_; rintro e w2 ⟨rfl, g, hg2, h11⟩; have H11 := hidden h11; clear h11)
      | (refine wpList_allocSt rfl rfl ?_; rw [hg2]; rintro w3 hk3 hs3 hb3; have HK3 := hidden hk3; have HB3 := hidden hb3; clear hk3 hb3)
      | (refine wpList_storeSt rfl _ _ rfl g (stC 0 0 0) rfl rfl (stC 0 0 0) (Hid.out HK3) (stC_size _ _ _) (stC_size _ _ _) (stC_one _ _ _) ?_; rintro w4 hk4 ho4; have H11b := hidden (Hid.out H11 w3 w4 (Hid.out HB3) ho4); have HK4 := hidden hk4; clear hk4 ho4)
      | (refine wpList_buildStG rfl rfl ?_)
      | (refine wpList_loadStG _ rfl g (stC 0 0 0) rfl (Hid.out HK4) (stC_size _ _ _) rfl ?_)
      | (go_at_call 11; with_reducible refine (Hid.out H11b).mono ?_; rintro e w5 ⟨rfl, r0, r1, h15⟩; have H15 := hidden h15; clear h15)
      | (go_at_call 15; with_reducible refine (Hid.out H15).mono ?_; rintro e w6 ⟨rfl, h8⟩; have H8 := hidden h8; clear h8)
      | (go_at_call 8; with_reducible refine (Hid.out H8).mono ?_; rintro e w7 ⟨rfl, hb7⟩; have HB7 := hidden hb7; clear hb7))
    go_ret
    exact ⟨rfl, by rw [hn]; exact Hid.out HB7⟩
  · subst hor
    cases hce : decide ((checkE ent l : Int) = 0)
    · have hce2 : ¬ (checkE ent l : Int) = 0 := by simpa using hce
      clear hce
      go_enter Try.func4, Try.ntmps4
      go_wp2_with (first
        | (go_at_call 7; with_reducible refine (Hid.out H7).mono ?_; rintro e w1 ⟨rfl, p0, p1, h9⟩; have H9 := hidden h9; clear h9)
        | (go_at_call 9; with_reducible refine (Hid.out H9).mono ?_; rintro e w2 ⟨rfl, g, hg2, h11⟩; have H11 := hidden h11; clear h11)
        | (refine wpList_allocSt rfl rfl ?_; rw [hg2]; rintro w3 hk3 hs3 hb3; have HK3 := hidden hk3; have HB3 := hidden hb3; clear hk3 hb3)
        | (refine wpList_storeSt rfl _ _ rfl g (stC 0 0 0) rfl rfl (stC 0 0 0) (Hid.out HK3) (stC_size _ _ _) (stC_size _ _ _) (stC_one _ _ _) ?_; rintro w4 hk4 ho4; have H11b := hidden (Hid.out H11 w3 w4 (Hid.out HB3) ho4); have HK4 := hidden hk4; clear hk4 ho4)
        | (refine wpList_buildStG rfl rfl ?_)
        | (refine wpList_loadStG _ rfl g (stC 0 0 0) rfl (Hid.out HK4) (stC_size _ _ _) rfl ?_)
        | (go_at_call 11; with_reducible refine (Hid.out H11b).mono ?_; rintro e w5 ⟨rfl, r0, r1, h15⟩; have H15 := hidden h15; clear h15)
        | (go_at_call 15; with_reducible refine (Hid.out H15).mono ?_; rintro e w6 ⟨rfl, h8⟩; have H8 := hidden h8; clear h8)
        | (go_at_call 8; with_reducible refine (Hid.out H8).mono ?_; rintro e w7 ⟨rfl, hb7⟩; have HB7 := hidden hb7; clear hb7))
      go_ret
      exact ⟨rfl, by rw [hn]; exact Hid.out HB7⟩
    · have hce2 : (checkE ent l : Int) = 0 := by simpa using hce
      rw [hce2] at H7
      clear hce hce2
      go_enter Try.func4, Try.ntmps4
      go_wp2_with (first
        | (go_at_call 7; with_reducible refine (Hid.out H7).mono ?_; rintro e w1 ⟨rfl, p0, p1, h9⟩; have H9 := hidden h9; clear h9)
        | (go_at_call 9; with_reducible refine (Hid.out H9).mono ?_; rintro e w2 ⟨rfl, g, hg2, h11⟩; have H11 := hidden h11; clear h11)
        | (refine wpList_allocSt rfl rfl ?_; rw [hg2]; rintro w3 hk3 hs3 hb3; have HK3 := hidden hk3; have HB3 := hidden hb3; clear hk3 hb3)
        | (refine wpList_storeSt rfl _ _ rfl g (stC 0 0 0) rfl rfl (stC 0 0 0) (Hid.out HK3) (stC_size _ _ _) (stC_size _ _ _) (stC_one _ _ _) ?_; rintro w4 hk4 ho4; have H11b := hidden (Hid.out H11 w3 w4 (Hid.out HB3) ho4); have HK4 := hidden hk4; clear hk4 ho4)
        | (refine wpList_buildStG rfl rfl ?_)
        | (refine wpList_loadStG _ rfl g (stC 0 0 0) rfl (Hid.out HK4) (stC_size _ _ _) rfl ?_)
        | (go_at_call 11; with_reducible refine (Hid.out H11b).mono ?_; rintro e w5 ⟨rfl, r0, r1, h15⟩; have H15 := hidden h15; clear h15)
        | (go_at_call 15; with_reducible refine (Hid.out H15).mono ?_; rintro e w6 ⟨rfl, h8⟩; have H8 := hidden h8; clear h8)
        | (go_at_call 8; with_reducible refine (Hid.out H8).mono ?_; rintro e w7 ⟨rfl, hb7⟩; have HB7 := hidden hb7; clear hb7))
      go_ret
      exact ⟨rfl, by rw [hn]; exact Hid.out HB7⟩
end Go.Proofs.Ytpknppicamefgaa

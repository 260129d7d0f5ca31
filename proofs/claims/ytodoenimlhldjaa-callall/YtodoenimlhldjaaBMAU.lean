/- Layer 12's example, walked. -/
import Derived.Test.YtodoenimlhldjaaBMAT
import Derived.Test.YtodoenimlhldjaaBMAH
import Derived.Deep.Slices
import Derived.OpenShut
namespace Go.Proofs.Ytodoenimlhldjaa
open Go.ChangeShapes Go.WideShapes Go.ChangeAt Go.RowKit
set_option linter.unusedVariables false
theorem own_later {w w' : World} {N z m : Nat} {T : TypeId} {v : Value} {cs : List Value} (h : w.ownsRow N T z v m cs) (hb : Below w.heap.size w w') : w'.ownsRow N T z v m cs := ownsRow_same h fun g hg => by
  obtain ⟨_, h⟩ := h
  rcases h with ⟨e, _⟩ | ⟨g2, cap, cur, e, _, hk, _⟩
  · rw [e] at hg; cases hg
  · rw [e] at hg
    have e2 : g2 = g := Option.some.inj hg
    subst e2
    exact hb.block g2 (Array.getElem?_eq_some_iff.1 hk).1
theorem rw_nil (w : World) (z : Nat) : Rw w z (.slice none 0 0) 0 [] := ⟨by simp, none, 0, rfl, .inl rfl⟩
def zSc : Array Value := #[.string ⟨#[]⟩, .slice none 0 0, .int .i64 0, .slice none 0 0, .int .i64 0, .string ⟨#[]⟩, .int .i64 0]
theorem zeroS_run {ρ : Operand → Value} {o : Oper} (hop : o.op = .alloc 26) (w : World) : (execOp ρ o).run Try.prog w = .ok (.value (.pointer (some ⟨w.heap.size, 0, none⟩))) (w.alloc (.cells SV.zero.c 26)) := by
  obtain ⟨dst, op, ty, pos, aft, gd⟩ := o
  simp only at hop
  subst hop
  kernel_rfl
theorem zeroC_run {ρ : Operand → Value} {o : Oper} (hop : o.op = .alloc 38) (w : World) : (execOp ρ o).run Try.prog w = .ok (.value (.pointer (some ⟨w.heap.size, 0, none⟩))) (w.alloc (.cells zCw 38)) := by
  obtain ⟨dst, op, ty, pos, aft, gd⟩ := o
  simp only at hop
  subst hop
  kernel_rfl
theorem blk_tne {w : World} {b c : Nat} {cs ds : Array Value} {T U : TypeId} (h1 : Blk w b cs T) (h2 : Blk w c ds U) (hne : T ≠ U) : b ≠ c := by
  rintro rfl
  have h3 := (show w.heap[b]? = _ from h1).symm.trans h2
  injection h3 with h3
  injection h3 with _ h3
  exact hne h3
theorem wpList_buildG {ops : Array Oper} {rest : List Oper} {o : Oper} {a : Act} {w : World} {Q : Exit → Act → World → Prop} (hgd : o.guard = none) (T : TypeId) (parts : Array (Nat × Operand)) (ho : o.op = .build T parts) (ps : Array (Nat × Value)) (hp : (parts.map fun (i, x) => (i, a.eval x)) = ps) (cs : Array Value) (hr : (Instr.build T ps).run Try.prog w = .ok (.agg cs) w)
    (h : wpList Try.prog ops Q rest (a.put o.dst (.agg cs)) w) : wpList Try.prog ops Q (o :: rest) a w :=
  Great.wpList_runTo hgd o.dst rfl (.agg cs) w (exec_build (parts := parts) T ho hp w hr) h
theorem wpList_buildJ {ops : Array Oper} {rest : List Oper} {o : Oper} {a : Act} {w : World} {Q : Exit → Act → World → Prop} {C0 : Array Value} {p x : Int} (hb : ∀ u, (Instr.build 26 #[(3, .int .u32 p), (4, .int .u32 x)]).run Try.prog u = .ok (.agg C0) u) (hgd : o.guard = none) (ho : o.op = .build 26 #[(3, .const (.int .u32 p)), (4, .const (.int .u32 x))])
    (h : wpList Try.prog ops Q rest (a.put o.dst (.agg C0)) w) : wpList Try.prog ops Q (o :: rest) a w :=
  wpList_buildG hgd 26 _ ho #[(3, .int .u32 p), (4, .int .u32 x)] (by kernel_rfl) C0 (hb w) h
def stPN (pc nx : Int) : SV := ⟨List.replicate 32 0, 0, 0, pc, nx, false⟩
theorem buildPN (pc nx : Int) (w : World) : (Instr.build 26 #[(3, .int .u32 pc), (4, .int .u32 nx)]).run Try.prog w = .ok (.agg (SV.c (stPN pc nx))) w := by kernel_rfl
def awV : SV := { stPN 4 8 with R := (((List.replicate 32 (0 : Int)).set 2 4004).set 4 1).set 6 2 }
theorem pn_ok (pc nx : Int) (h1 : 0 ≤ pc) (h2 : pc < 4294967296) (h3 : 0 ≤ nx) (h4 : nx < 4294967296) : (stPN pc nx).ok := ⟨rfl, (show ∀ k, k < 32 → 0 ≤ (List.replicate 32 (0 : Int)).getD k 0 ∧ (List.replicate 32 (0 : Int)).getD k 0 < 4294967296 by decide), (by show (0 : Int) ≤ 0 ∧ (0 : Int) < 4294967296; decide), (by show (0 : Int) ≤ 0 ∧ (0 : Int) < 4294967296; decide), ⟨h1, h2⟩, ⟨h3, h4⟩⟩
theorem awV_ok : awV.ok := SV.ok_set (v := { stPN 4 8 with R := ((List.replicate 32 (0 : Int)).set 2 4004).set 4 1 }) (SV.ok_set (v := { stPN 4 8 with R := (List.replicate 32 (0 : Int)).set 2 4004 }) (SV.ok_set (v := stPN 4 8) (pn_ok 4 8 (by decide) (by decide) (by decide) (by decide)) 2 4004 (by decide) (by decide)) 4 1 (by decide) (by decide)) 6 2 (by decide) (by decide)
theorem cell_freeze (w : World) (g k : Nat) (p : Addr) : (w.freeze ⟨g, k, none⟩ 1).cell? p = w.cell? p := by
  unfold World.freeze World.cell?
  rw [if_neg (by decide)]
  simp only [Array.getElem?_modify]
  by_cases h : g = p.block
  · rw [if_pos h]
    cases hq : w.heap[p.block]? with
    | none => rfl
    | some o =>
      cases o with
      | cells c e f => rfl
      | map c e => rfl
      | _ => rfl
  · rw [if_neg h]
theorem freeze_only (w : World) (g k : Nat) : Only g w (w.freeze ⟨g, k, none⟩ 1) := by
  unfold World.freeze
  rw [if_neg (by decide)]
  exact ⟨rfl, rfl, rfl, by simp, fun b hb => by
    simp only [Array.getElem?_modify]
    rw [if_neg (fun e => hb e.symm)]⟩
theorem conv_bb (w : World) (g m c : Nat) (cs : Array Value) (T : TypeId) (hb : Blk w g cs T) : (convert 50 50 (.slice (some ⟨g, 0, none⟩) m c)).run Try.prog w = .ok (.slice (some ⟨g, 0, none⟩) m c) (w.freeze ⟨g, cs.size, none⟩ 1) := by
  have hs : w.shape? g = some (T, cs.size) := by
    unfold World.shape?
    rw [show w.heap[g]? = _ from hb]
  simp [convert, Sem.run_bind, run_underlying Try.underlying50, run_underlying Try.underlying5, markStringish, hs, go_sem]
theorem Lies.freeze {w : World} {g k : Nat} {ao : Option Addr} {l : List UInt8} (h : Lies w ao l) : Lies (w.freeze ⟨g, k, none⟩ 1) ao l := by
  rcases h with h | ⟨b, off, e, hc⟩
  · exact .inl h
  · exact .inr ⟨b, off, e, fun j hj => by rw [cell_freeze]; exact hc j hj⟩
theorem Row.freeze {w : World} {g k c : Nat} {ao : Option Addr} {l : List UInt8} (h : Row w ao l c) : Row (w.freeze ⟨g, k, Option.none⟩ 1) ao l c := ⟨h.len, h.max, h.nil, h.lies.freeze⟩
def hiP (n : Nat) : Part4 := ⟨0, [104, 105], 7, false, some ⟨n, 0, none⟩, 2⟩
theorem hi_span {s : MS} {n : Nat} (h : s.abs = memOf [hiP n]) : s.span 0 2 = [104, 105] := by
  have g : ∀ j, j < 2 → (s.get (wrapAt 0 j)) = [104, 105].getD j 0 := fun j hj => by
    rw [get_getA, h]
    exact one_get (hiP n) (by simp [hiP]) (by simp [hiP]) j (by simpa [hiP] using hj)
  show [s.get (wrapAt 0 0), s.get (wrapAt 0 1)] = _
  rw [g 0 (by omega), g 1 (by omega)]
  rfl
theorem hi_may {s : MS} {n : Nat} (h : s.abs = memOf [hiP n]) : refV s awV true 4 = 0 := by
  have hm : mayB s 0 2 4 = true := mayB_yes fun j hj => by
    rw [perm_all (z := 7) (by rw [h]; exact one_allP (hiP n)) _ (by rw [h]; exact (one_some (hiP n) (by simp [hiP]) _).2 ⟨j, by simpa [hiP] using hj, rfl⟩)]
    decide
  have e6 : awV.R.getD 6 0 = 2 := rfl
  have e5 : awV.R.getD 5 0 = 0 := rfl
  unfold refV
  rw [if_neg (by decide), e6, e5, if_neg (show ¬ (16384 : Int) < 2 by decide)]
  exact if_pos hm
def awR : SV := ansV awV 2 0
theorem hi_call {s : MS} {n : Nat} {w : World} (hm : MemW w s) (h : s.abs = memOf [hiP n]) (u : World) (rd : Value) (hu : Below w.heap.size w u) (hr : Rw u 1 rd 0 []) : Calls Try.prog 13 #[.pointer (some ⟨s.mb, 0, none⟩), .agg awV.c, .agg (cwC ⟨#[]⟩ 0 rd 0 (.slice none 0 0))] u fun x w' => ∃ rd' ev', x = .returned (.tuple #[.agg awR.c, .agg (cwC ⟨#[]⟩ 0 rd' 0 ev'), .int .i64 0, .int .u32 0]) ∧ Fr w' 0 3 rd' 0 [] ∧ w'.ownsRow 0 66 2 ev' 1 (cE [(1, ⟨#[104, 105]⟩)]) ∧ Below u.heap.size u w' := by
  have h2 := call_wr u s (hm.later hu) awV awV_ok ⟨#[]⟩ 0 0 rd (.slice none 0 0) [] [] hr (rw_nil u 2) (by decide) (by decide) rfl (.inl rfl) (hi_may h)
  rw [show (awV.R.getD 5 0).toNat = 0 from rfl, show (awV.R.getD 6 0).toNat = 2 from rfl, show awV.R.getD 6 0 = 2 from rfl, show awV.R.getD 4 0 = 1 from rfl, hi_span h] at h2
  exact h2
/-- What the example looks at. -/
structure AwC (w : World) (g g2 : Nat) (ev : Value) : Prop where
  c2 : w.cell? ⟨g, 2, none⟩ = some (.int .u32 2)
  c7 : w.cell? ⟨g, 7, none⟩ = some (.int .u32 0)
  cp : w.cell? ⟨g, 34, none⟩ = some (.int .u32 8)
  ce : w.cell? ⟨g2, 4, none⟩ = some ev
theorem aw_cells {w : World} {g g2 : Nat} {rd ev : Value} (h1 : Blk w g awR.c 26) (h2 : Blk w g2 (cwC ⟨#[]⟩ 0 rd 0 ev) 38) : AwC w g g2 ev := ⟨h1.cell (SV.getR (s := awR) rfl (by omega)), h1.cell (SV.getR (s := awR) rfl (by omega)), h1.cell (SV.get_pc (s := awR) rfl), h2.cell rfl⟩
def GoodA (w : World) (rd ev : Value) : Prop := Fr w 0 3 rd 0 [] ∧ w.ownsRow 0 66 2 ev 1 (cE [(1, ⟨#[104, 105]⟩)])
/-- What the region may do: below N0 nothing; states and worlds may be filled. -/
structure RT (N0 : Nat) (w w' : World) : Prop where
  below : Below N0 w w'
  typ : ∀ b cs T, Blk w b cs T → ∃ cs', Blk w' b cs' T ∧ cs'.size = cs.size ∧ (cs' = cs ∨ (T = 26 ∧ cs' = awR.c) ∨ (T = 38 ∧ ∃ rd ev, cs' = cwC ⟨#[]⟩ 0 rd 0 ev ∧ GoodA w' rd ev))
theorem RT.same {N0 : Nat} {w w' : World} (h : RT N0 w w') {b : Nat} {cs : Array Value} {T : TypeId} (hk : Blk w b cs T) (h1 : T ≠ 26) (h2 : T ≠ 38) : Blk w' b cs T := by
  obtain ⟨cs', hb, _, e | e | e⟩ := h.typ b cs T hk
  · rw [← e]; exact hb
  · exact absurd e.1 h1
  · exact absurd e.1 h2
theorem RT.good {N0 : Nat} {w w' : World} (h : RT N0 w w') {rd ev : Value} (hg : GoodA w rd ev) : GoodA w' rd ev := by
  obtain ⟨⟨g, h0, e, hk⟩, hl, ho⟩ := hg
  refine ⟨⟨g, h0, e, h.same hk (by decide) (by decide)⟩, hl, ?_⟩
  rcases ho with ho | ⟨g2, c, cur, e2, h3, hk2, r⟩
  · exact .inl ho
  · exact .inr ⟨g2, c, cur, e2, h3, h.same hk2 (by decide) (by decide), r⟩
theorem RT.refl (N0 : Nat) (w : World) : RT N0 w w := ⟨Below.refl _ w, fun b cs T h => ⟨cs, h, rfl, .inl rfl⟩⟩
theorem RT.of_below {N0 : Nat} {w w' : World} (h : Below w.heap.size w w') (hN : N0 ≤ w.heap.size) : RT N0 w w' := ⟨h.mono hN, fun b cs T hk => ⟨cs, hk.later h, rfl, .inl rfl⟩⟩
theorem later_rt (N0 : Nat) : Later (RT N0) := ⟨RT.refl N0, fun u v w h k => ⟨h.below.trans k.below, fun b cs T hb => by
  obtain ⟨c1, b1, s1, e1⟩ := h.typ b cs T hb
  obtain ⟨c2, b2, s2, e2⟩ := k.typ b c1 T b1
  refine ⟨c2, b2, s2.trans s1, ?_⟩
  rcases e2 with e2 | e2 | e2
  · subst e2
    rcases e1 with e1 | e1 | ⟨eT, rd, ev, e3, hg⟩
    · exact .inl e1
    · exact .inr (.inl e1)
    · exact .inr (.inr ⟨eT, rd, ev, e3, k.good hg⟩)
  · exact .inr (.inl e2)
  · exact .inr (.inr e2)⟩, fun w => ⟨(Below.refl _ w).drew, fun b cs T h => ⟨cs, h, rfl, .inl rfl⟩⟩⟩
theorem blk_eq {w : World} {b : Nat} {cs ds : Array Value} {T U : TypeId} (h1 : Blk w b cs T) (h2 : Blk w b ds U) : cs = ds ∧ T = U := by
  have h3 := (show w.heap[b]? = _ from h1).symm.trans h2
  injection h3 with h3
  injection h3 with h3 h4
  exact ⟨h3, h4⟩
theorem RT.putS {N0 : Nat} {w w' : World} {b : Nat} {old : Array Value} (ho : Only b w w') (hN : N0 ≤ b) (hk : Blk w b old 26) (hs : awR.c.size = old.size) (hk2 : Blk w' b awR.c 26) : RT N0 w w' := ⟨Below.only (Below.refl _ w) ho hN, fun c cs T hc => by
  by_cases e : c = b
  · subst e
    obtain ⟨rfl, rfl⟩ := blk_eq hk hc
    exact ⟨_, hk2, hs, .inr (.inl ⟨rfl, rfl⟩)⟩
  · exact ⟨cs, hc.only ho e, rfl, .inl rfl⟩⟩
theorem RT.putW {N0 : Nat} {w w' : World} {b : Nat} {old : Array Value} {rd ev : Value} (ho : Only b w w') (hN : N0 ≤ b) (hk : Blk w b old 38) (hs : old.size = 5) (hk2 : Blk w' b (cwC ⟨#[]⟩ 0 rd 0 ev) 38) (hg : GoodA w rd ev) : RT N0 w w' ∧ GoodA w' rd ev := by
  have hg2 : GoodA w' rd ev := by
    obtain ⟨⟨g, h0, e, hf⟩, ho2⟩ := hg
    exact ⟨⟨g, h0, e, hf.only ho (blk_tne hf hk (by decide))⟩, own_only ho2 ho hk (by decide)⟩
  refine ⟨⟨Below.only (Below.refl _ w) ho hN, fun c cs T hc => ?_⟩, hg2⟩
  by_cases e : c = b
  · subst e
    obtain ⟨rfl, rfl⟩ := blk_eq hk hc
    exact ⟨_, hk2, by rw [hs]; rfl, .inr (.inr ⟨rfl, rd, ev, rfl, hg2⟩)⟩
  · exact ⟨cs, hc.only ho e, rfl, .inl rfl⟩
theorem RT.sizeS {N0 : Nat} {w w' : World} (h : RT N0 w w') {g m : Nat} {T : TypeId} (hk : ∃ cs : Array Value, cs.size = m ∧ Blk w g cs T) : ∃ cs : Array Value, cs.size = m ∧ Blk w' g cs T := by
  obtain ⟨cs, hs, hk⟩ := hk
  obtain ⟨c2, h2, s2, _⟩ := h.typ g cs T hk
  exact ⟨c2, s2.trans hs, h2⟩
theorem RT.blkS {N0 : Nat} {w w' : World} (h : RT N0 w w') {g : Nat} (hk : Blk w g awR.c 26) : Blk w' g awR.c 26 := by
  obtain ⟨c2, h2, s2, e | e | e⟩ := h.typ g _ _ hk
  · rw [← e]; exact h2
  · rw [← e.2]; exact h2
  · exact absurd e.1 (by decide)
theorem RT.blkW {N0 : Nat} {w w' : World} (h : RT N0 w w') {g : Nat} (hk : ∃ rd ev, Blk w g (cwC ⟨#[]⟩ 0 rd 0 ev) 38 ∧ GoodA w rd ev) : ∃ rd ev, Blk w' g (cwC ⟨#[]⟩ 0 rd 0 ev) 38 ∧ GoodA w' rd ev := by
  obtain ⟨rd, ev, hk, hg⟩ := hk
  obtain ⟨c2, h2, s2, e | e | ⟨_, rd2, ev2, e, hg2⟩⟩ := h.typ g _ _ hk
  · exact ⟨rd, ev, by rw [← e]; exact h2, h.good hg⟩
  · exact absurd e.1 (by decide)
  · exact ⟨rd2, ev2, by rw [← e]; exact h2, hg2⟩
theorem good_one {w : World} {rd ev : Value} (h : GoodA w rd ev) : (cwC ⟨#[]⟩ 0 rd 0 ev).all (·.oneCell') = true := by
  obtain ⟨⟨g, _, er, _⟩, _, h | ⟨g2, c2, cur, ee, _⟩⟩ := h
  · exact absurd h.2 (by decide)
  · rw [er, ee]; exact cw_one rfl rfl
theorem rw_nil_any {w w' : World} {z : Nat} {v : Value} (h : Rw w z v 0 []) : Rw w' z v 0 [] := by
  obtain ⟨hl, ao, cap, e, _⟩ := h
  exact ⟨hl, ao, cap, e, .inl rfl⟩
/-- What the slots of the region hold, whatever the order. -/
def phiAw (mb N0 : Nat) (v V : SV) : Nat → Value → World → Prop
  | 0, x, _ => x = .pointer (some ⟨mb, 0, none⟩)
  | 1, x, _ => x = .agg (SV.c v)
  | 2, x, _ => x = .agg zSc
  | 3, x, w => ∃ rd1, x = .agg (cwC ⟨#[]⟩ 0 rd1 0 (.slice none 0 0)) ∧ Rw w 1 rd1 0 []
  | 4, x, w => ∃ rd1 ev1, x = .tuple #[.agg V.c, .agg (cwC ⟨#[]⟩ 0 rd1 0 ev1), .int .i64 0, .int .u32 0] ∧ GoodA w rd1 ev1
  | 5, x, w => ∃ rd1 ev1, x = .tuple #[.agg V.c, .agg (cwC ⟨#[]⟩ 0 rd1 0 ev1), .int .i64 0, .int .u32 0] ∧ GoodA w rd1 ev1
  | 6, x, _ => x = .agg (SV.c V)
  | 7, x, w => ∃ rd1 ev1, x = .agg (cwC ⟨#[]⟩ 0 rd1 0 ev1) ∧ GoodA w rd1 ev1
  | 8, x, _ => x = .int .i64 0
  | 9, x, _ => x = .int .u32 0
  | 10, x, w => ∃ g, x = .pointer (some ⟨g, 0, none⟩) ∧ N0 ≤ g ∧ ∃ cs : Array Value, cs.size = awR.c.size ∧ Blk w g cs 26
  | 11, x, w => ∃ g, x = .pointer (some ⟨g, 0, none⟩) ∧ N0 ≤ g ∧ ∃ cs : Array Value, cs.size = 5 ∧ Blk w g cs 38
  | 12, x, w => True
  | 13, x, w => True
  | 14, x, _ => x = .int .i64 0
  | 15, x, _ => x = .int .u32 0
  | _ + 16, _, _ => True
theorem phiAw_mono (mb N0 : Nat) (v V : SV) : ∀ i x w w', phiAw mb N0 v V i x w → RT N0 w w' → phiAw mb N0 v V i x w'
  | 0, _, _, _, h, _ => h
  | 1, _, _, _, h, _ => h
  | 2, _, _, _, h, _ => h
  | 3, x, w, w', h, hb => by obtain ⟨rd1, e, h1⟩ := h; exact ⟨rd1, e, rw_nil_any h1⟩
  | 4, x, w, w', h, hb => by obtain ⟨rd1, ev1, e, h1⟩ := h; exact ⟨rd1, ev1, e, hb.good h1⟩
  | 5, x, w, w', h, hb => by obtain ⟨rd1, ev1, e, h1⟩ := h; exact ⟨rd1, ev1, e, hb.good h1⟩
  | 6, _, _, _, h, _ => h
  | 7, x, w, w', h, hb => by obtain ⟨rd1, ev1, e, h1⟩ := h; exact ⟨rd1, ev1, e, hb.good h1⟩
  | 8, _, _, _, h, _ => h
  | 9, _, _, _, h, _ => h
  | 10, x, w, w', h, hb => by obtain ⟨g, e, h0, h1⟩ := h; exact ⟨g, e, h0, hb.sizeS h1⟩
  | 11, x, w, w', h, hb => by obtain ⟨g, e, h0, h1⟩ := h; exact ⟨g, e, h0, hb.sizeS h1⟩
  | 12, x, w, w', h, hb => trivial
  | 13, x, w, w', h, hb => trivial
  | 14, _, _, _, h, _ => h
  | 15, _, _, _, h, _ => h
  | _ + 16, _, _, _, _, _ => trivial
theorem lstAw : ∀ xs : List Value, xs.length = 16 → ∃ x0 x1 x2 x3 x4 x5 x6 x7 x8 x9 x10 x11 x12 x13 x14 x15, xs = [x0, x1, x2, x3, x4, x5, x6, x7, x8, x9, x10, x11, x12, x13, x14, x15]
  | [x0, x1, x2, x3, x4, x5, x6, x7, x8, x9, x10, x11, x12, x13, x14, x15], _ => ⟨_, _, _, _, _, _, _, _, _, _, _, _, _, _, _, _, rfl⟩
def PhiAw (mb N0 : Nat) (v V : SV) (i : Nat) (xs : List Value) (w : World) : Prop := (i = 12 → ∃ g, xs.getD 10 undef = .pointer (some ⟨g, 0, none⟩) ∧ Blk w g awR.c 26) ∧ (i = 13 → ∃ g, xs.getD 11 undef = .pointer (some ⟨g, 0, none⟩) ∧ ∃ rd ev, Blk w g (cwC ⟨#[]⟩ 0 rd 0 ev) 38 ∧ GoodA w rd ev) ∧ phiAw mb N0 v V i (xs.getD i undef) w
theorem getD_other {xs : List Value} {i j : Nat} {v : Value} (h : j ≠ i) : (xs.set j v).getD i undef = xs.getD i undef := by
  rw [List.getD_eq_getElem?_getD, List.getElem?_set_ne h, ← List.getD_eq_getElem?_getD]
theorem PhiAw_mono (mb N0 : Nat) (v V : SV) (i j : Nat) (xs : List Value) (u : Value) (w w' : World) (h : PhiAw mb N0 v V i xs w) (hr : RT N0 w w') (hj : j ≠ i) (h12 : i = 12 → j ≠ 10) (h13 : i = 13 → j ≠ 11) : PhiAw mb N0 v V i (xs.set j u) w' := by
  refine ⟨fun e => ?_, fun e => ?_, ?_⟩
  · obtain ⟨g, hx, hk⟩ := h.1 e
    exact ⟨g, (getD_other (h12 e)).trans hx, hr.blkS hk⟩
  · obtain ⟨g, hx, hk⟩ := h.2.1 e
    exact ⟨g, (getD_other (h13 e)).trans hx, hr.blkW hk⟩
  · rw [getD_other hj]
    exact phiAw_mono mb N0 v V i _ w w' h.2.2 hr
theorem PhiAw_of {mb N0 : Nat} {v V : SV} {i : Nat} {xs : List Value} {u : Value} {w : World} (hl : xs.length = 16) (hi : i < 16) (h12 : i ≠ 12) (h13 : i ≠ 13) (h : phiAw mb N0 v V i u w) : PhiAw mb N0 v V i (xs.set i u) w := ⟨fun e => absurd e h12, fun e => absurd e h13, by
  rw [List.getD_eq_getElem?_getD, List.getElem?_set_self (by omega), Option.getD_some]
  exact h⟩
set_option maxRecDepth 20000 in
set_option maxHeartbeats 1000000 in
theorem awake12_any (w : World) : Calls Try.prog 10 #[] w fun e w' => e = .returned (.bool true) ∧ Below w.heap.size w w' := by
  obtain ⟨wa, hwa⟩ : ∃ wa, w.alloc (.cells #[.int .u8 104, .int .u8 105] 5) = wa := ⟨_, rfl⟩
  obtain ⟨gn, hgn⟩ : ∃ gn, w.heap.size = gn := ⟨_, rfl⟩
  have hra : Row wa (some ⟨gn, 0, none⟩) [104, 105] 2 := by rw [← hwa, ← hgn]; exact row_new w [104, 105] (by simp) (by simp)
  have hba : Below w.heap.size w wa := by rw [← hwa]; exact below_new w _
  have hcv : (convert 50 50 (.slice (some ⟨gn, 0, none⟩) 2 2)).run Try.prog wa = .ok (.slice (some ⟨gn, 0, none⟩) 2 2) (wa.freeze ⟨gn, 2, none⟩ 1) := conv_bb wa gn 2 2 #[.int .u8 104, .int .u8 105] 5 (by rw [← hwa, ← hgn]; exact Blk.new w _ _)
  have hra2 : Row (wa.freeze ⟨gn, 2, none⟩ 1) (some ⟨gn, 0, none⟩) [104, 105] 2 := hra.freeze
  have hba2 : Below w.heap.size w (wa.freeze ⟨gn, 2, none⟩ 1) := Below.only hba (freeze_only wa gn 2) (by rw [hgn]; exact Nat.le_refl _)
  obtain ⟨wf, hwf⟩ : ∃ wf, wa.freeze ⟨gn, 2, none⟩ 1 = wf := ⟨_, rfl⟩
  rw [hwf] at hcv hra2 hba2
  clear hra hba hwf
  obtain ⟨wb, hwb⟩ : ∃ wb, wf.alloc (.cells #[.int .u32 0, .slice (some ⟨gn, 0, none⟩) 2 2, .int .i64 7, .bool false] 52) = wb := ⟨_, rfl⟩
  obtain ⟨pn, hpn⟩ : ∃ pn, wf.heap.size = pn := ⟨_, rfl⟩
  have hpb : Pieces wb (some ⟨pn, 0, none⟩) [hiP gn] := by rw [← hwb, ← hpn]; exact piece_new wf 0 (by omega) (some ⟨gn, 0, none⟩) [104, 105] 2 7 false hra2
  have hbb : Below wf.heap.size wf wb := by rw [← hwb]; exact below_new wf _
  have HBB := hidden (hba2.trans (hbb.mono hba2.size))
  have HME := hidden (memory_any wb (some ⟨pn, 0, none⟩) 1 [hiP gn] hpb (by simp) (by simp [hiP]))
  have HBP := hidden (buildPN 4 8)
  clear hra2 hba2 hpb hbb
  go_enter Try.func10, Try.ntmps10
  go_upto_region 2 with (first | (go_at_call 11; refine HME.out.mono ?_; rintro e w1 ⟨s, rfl, hown, habs, h64, h32, hts, hcc⟩; have HO := hidden hown; have HAB := hidden habs; clear hown habs h64 h32 hts hcc))
  obtain ⟨n, hn⟩ : ∃ n, w1.heap.size = n := ⟨_, rfl⟩
  have hi2 : ∀ u, (Instr.indexAt 24 (.pointer (some ⟨n, 0, none⟩)) (.int .i64 2)).run Try.prog u = .ok (.pointer (some ⟨n, 2, none⟩)) u := fun u => index_reg n 2 (by omega) u
  have hi4 : ∀ u, (Instr.indexAt 24 (.pointer (some ⟨n, 0, none⟩)) (.int .i64 4)).run Try.prog u = .ok (.pointer (some ⟨n, 4, none⟩)) u := fun u => index_reg n 4 (by omega) u
  have hi6 : ∀ u, (Instr.indexAt 24 (.pointer (some ⟨n, 0, none⟩)) (.int .i64 6)).run Try.prog u = .ok (.pointer (some ⟨n, 6, none⟩)) u := fun u => index_reg n 6 (by omega) u
  have L26 : Hid (2 < 32 ∧ 4 < 32 ∧ 6 < 32) := hidden (by decide)
  obtain ⟨V0, hV0⟩ : ∃ V0, stPN 4 8 = V0 := ⟨_, rfl⟩
  have HV0 : Hid (V0.R.length = 32) := hidden (by rw [← hV0]; rfl)
  have HVA : Hid ({ V0 with R := ((V0.R.set 2 4004).set 4 1).set 6 2 } = awV) := hidden (by rw [← hV0]; rfl)
  have HV2 : Hid ((V0.R.set 2 4004).length = 32) := hidden (by rw [← hV0]; rfl)
  have HV4 : Hid (((V0.R.set 2 4004).set 4 1).length = 32) := hidden (by rw [← hV0]; rfl)
  rw [hV0] at HBP
  clear hV0
  go_upto_region 3 with (first
    | (refine wpList_buildJ HBP.out rfl rfl ?_)
    | (refine wpList_allocV rfl rfl ?_; rintro w2 k2 s2 b2; rw [hn] at k2 s2 b2 ⊢; have K2 := hidden k2; have B2 := hidden b2; clear k2 s2 b2)
    | (refine wpList_storeV rfl rfl _ _ rfl n SV.zero V0 rfl rfl K2.out rfl HV0.out ?_; rintro w3 k3 o3; have K3 := hidden k3; have B3 := hidden (Below.only B2.out o3 (Nat.le_refl n)); clear k3 o3 K2 B2))
  go_upto_region 4 with (first
    | (refine wpList_setR rfl rfl _ _ rfl n 2 V0 4004 rfl rfl K3.out HV0.out L26.out.1 ?_; rintro w4 k4 o4; have K4 := hidden k4; have B4 := hidden (Below.only B3.out o4 (Nat.le_refl n)); clear k4 o4)
    | (refine wpList_setR rfl rfl _ _ rfl n 4 { V0 with R := V0.R.set 2 4004 } 1 rfl rfl K4.out HV2.out L26.out.2.1 ?_; rintro w5 k5 o5; have K5 := hidden k5; have B5 := hidden (Below.only B4.out o5 (Nat.le_refl n)); clear k5 o5)
    | (refine wpList_setR rfl rfl _ _ rfl n 6 { V0 with R := (V0.R.set 2 4004).set 4 1 } 2 rfl rfl K5.out HV4.out L26.out.2.2 ?_; rintro w6 k6 o6; rw [HVA.out] at k6; have K6 := hidden k6; have B6 := hidden (Below.only B5.out o6 (Nat.le_refl n)); clear k6 o6))
  have KV := K6
  have HVL : Hid (awV.R.length = 32) := hidden rfl
  have HCALL := hidden (fun u rd hu hr => hi_call HO.out.mem HAB.out u rd hu hr)
  have HBM := hidden (show Below w1.heap.size w1 w6 by rw [hn]; exact B6.out)
  have HBW := hidden (HBB.out.trans ((HO.out.below.mono HBB.out.size).trans (HBM.out.mono (Nat.le_trans HBB.out.size HO.out.below.size))))
  obtain ⟨mb, hmb⟩ : ∃ mb, s.mb = mb := ⟨_, rfl⟩
  rw [hmb] at HCALL ⊢
  clear K3 K4 K5 K6 B3 B4 B5 B6 HV0 HVA HV2 HV4 HBP HAB HO HME L26
  refine wp_region_dep (later_rt w6.heap.size) [20, 21, 22, 23, 24, 19, 25, 26, 27, 28, 3, 4, 1012, 1013, 5, 6] 16 (PhiAw mb w6.heap.size awV awR) (by kernel_rfl) (by kernel_rfl) rfl rfl (fun i j xs v u u' h hr hj hw => PhiAw_mono mb w6.heap.size awV awR i j xs v u u' h hr hj (fun e e2 => by subst e e2; exact absurd (hw.symm.trans (by kernel_rfl)) Bool.false_ne_true) (fun e e2 => by subst e e2; exact absurd (hw.symm.trans (by kernel_rfl)) Bool.false_ne_true)) ?_ ?_
  · intro j hj xs w3 hxs hR hpre
    obtain ⟨x0, x1, x2, x3, x4, x5, x6, x7, x8, x9, x10, x11, x12, x13, x14, x15, rfl⟩ := lstAw xs hxs
    have hN3 : w6.heap.size ≤ w3.heap.size := hR.below.size
    rcases (show j = 0 ∨ j = 1 ∨ j = 2 ∨ j = 3 ∨ j = 4 ∨ j = 5 ∨ j = 6 ∨ j = 7 ∨ j = 8 ∨ j = 9 ∨ j = 10 ∨ j = 11 ∨ j = 12 ∨ j = 13 ∨ j = 14 ∨ j = 15 by omega) with rfl | rfl | rfl | rfl | rfl | rfl | rfl | rfl | rfl | rfl | rfl | rfl | rfl | rfl | rfl | rfl
    · exact wpOp_run (.pointer (some ⟨mb, 0, none⟩)) rfl (by kernel_rfl) (exec_move rfl (by kernel_rfl) w3) ⟨_, by kernel_rfl, PhiAw_of hxs (by decide) (by decide) (by decide) rfl, RT.refl _ _⟩
    · exact wpOp_run (.agg (SV.c awV)) rfl (by kernel_rfl) (exec_load 26 rfl (by kernel_rfl) w3 (loadSt ((hR.below.block _ KV.out.lt).trans KV.out) HVL.out)) ⟨_, by kernel_rfl, PhiAw_of hxs (by decide) (by decide) (by decide) rfl, RT.refl _ _⟩
    · exact wpOp_run (.agg zSc) rfl (by kernel_rfl) (by kernel_rfl) ⟨_, by kernel_rfl, PhiAw_of hxs (by decide) (by decide) (by decide) rfl, RT.refl _ _⟩
    · have e2 : x2 = .agg zSc := (hpre 2 (by kernel_rfl)).2.2
      subst e2
      refine wpOp_callR (R := fun u w4 => (∃ rd1, u = .agg (cwC ⟨#[]⟩ 0 rd1 0 (.slice none 0 0)) ∧ Rw w4 1 rd1 0 []) ∧ Below w3.heap.size w3 w4) 21 #[.agg zSc] rfl (by kernel_rfl) (by kernel_rfl) ((cnew_any w3 zSc ⟨#[]⟩ (.slice none 0 0) [] rfl rfl rfl (rw_nil w3 1) (by decide)).mono fun x w4 h => by obtain ⟨rd1, hx, hf, hb⟩ := h; exact ⟨_, hx, ⟨rd1, rfl, hf.rw (cI_len [])⟩, hb⟩) ?_
      rintro u w4 ⟨hu, hb4⟩
      exact ⟨_, by kernel_rfl, PhiAw_of hxs (by decide) (by decide) (by decide) hu, RT.of_below hb4 hN3⟩
    · have e0 : x0 = .pointer (some ⟨mb, 0, none⟩) := (hpre 0 (by kernel_rfl)).2.2
      subst e0
      have e1 : x1 = .agg (SV.c awV) := (hpre 1 (by kernel_rfl)).2.2
      subst e1
      obtain ⟨rd3, e3, f3⟩ : ∃ rd1, x3 = .agg (cwC ⟨#[]⟩ 0 rd1 0 (.slice none 0 0)) ∧ Rw w3 1 rd1 0 [] := (hpre 3 (by kernel_rfl)).2.2
      subst e3
      refine wpOp_callR (R := fun u w4 => (∃ rd1 ev1, u = .tuple #[.agg awR.c, .agg (cwC ⟨#[]⟩ 0 rd1 0 ev1), .int .i64 0, .int .u32 0] ∧ GoodA w4 rd1 ev1) ∧ Below w3.heap.size w3 w4) 13 #[.pointer (some ⟨mb, 0, none⟩), .agg (SV.c awV), .agg (cwC ⟨#[]⟩ 0 rd3 0 (.slice none 0 0))] rfl (by kernel_rfl) (by kernel_rfl) ((HCALL.out w3 rd3 (HBM.out.trans (hR.below.mono HBM.out.size)) f3).mono fun x w4 h => by obtain ⟨rd1, ev1, hx, hg, hf, hb⟩ := h; exact ⟨_, hx, ⟨rd1, ev1, rfl, hg, hf⟩, hb⟩) ?_
      rintro u w4 ⟨hu, hb4⟩
      exact ⟨_, by kernel_rfl, PhiAw_of hxs (by decide) (by decide) (by decide) hu, RT.of_below hb4 hN3⟩
    · obtain ⟨rd4, ev4, e4, f4⟩ : ∃ rd1 ev1, x4 = .tuple #[.agg awR.c, .agg (cwC ⟨#[]⟩ 0 rd1 0 ev1), .int .i64 0, .int .u32 0] ∧ GoodA w3 rd1 ev1 := (hpre 4 (by kernel_rfl)).2.2
      subst e4
      exact wpOp_run (.tuple #[.agg awR.c, .agg (cwC ⟨#[]⟩ 0 rd4 0 ev4), .int .i64 0, .int .u32 0]) rfl (by kernel_rfl) (exec_move rfl (by kernel_rfl) w3) ⟨_, by kernel_rfl, PhiAw_of hxs (by decide) (by decide) (by decide) ⟨rd4, ev4, rfl, f4⟩, RT.refl _ _⟩
    · obtain ⟨rd5, ev5, e5, f5⟩ : ∃ rd1 ev1, x5 = .tuple #[.agg awR.c, .agg (cwC ⟨#[]⟩ 0 rd1 0 ev1), .int .i64 0, .int .u32 0] ∧ GoodA w3 rd1 ev1 := (hpre 5 (by kernel_rfl)).2.2
      subst e5
      exact wpOp_run (.agg (SV.c awR)) rfl (by kernel_rfl) (by kernel_rfl) ⟨_, by kernel_rfl, PhiAw_of hxs (by decide) (by decide) (by decide) rfl, RT.refl _ _⟩
    · obtain ⟨rd5, ev5, e5, f5⟩ : ∃ rd1 ev1, x5 = .tuple #[.agg awR.c, .agg (cwC ⟨#[]⟩ 0 rd1 0 ev1), .int .i64 0, .int .u32 0] ∧ GoodA w3 rd1 ev1 := (hpre 5 (by kernel_rfl)).2.2
      subst e5
      exact wpOp_run (.agg (cwC ⟨#[]⟩ 0 rd5 0 ev5)) rfl (by kernel_rfl) (by kernel_rfl) ⟨_, by kernel_rfl, PhiAw_of hxs (by decide) (by decide) (by decide) ⟨rd5, ev5, rfl, f5⟩, RT.refl _ _⟩
    · obtain ⟨rd5, ev5, e5, f5⟩ : ∃ rd1 ev1, x5 = .tuple #[.agg awR.c, .agg (cwC ⟨#[]⟩ 0 rd1 0 ev1), .int .i64 0, .int .u32 0] ∧ GoodA w3 rd1 ev1 := (hpre 5 (by kernel_rfl)).2.2
      subst e5
      exact wpOp_run (.int .i64 0) rfl (by kernel_rfl) (by kernel_rfl) ⟨_, by kernel_rfl, PhiAw_of hxs (by decide) (by decide) (by decide) rfl, RT.refl _ _⟩
    · obtain ⟨rd5, ev5, e5, f5⟩ : ∃ rd1 ev1, x5 = .tuple #[.agg awR.c, .agg (cwC ⟨#[]⟩ 0 rd1 0 ev1), .int .i64 0, .int .u32 0] ∧ GoodA w3 rd1 ev1 := (hpre 5 (by kernel_rfl)).2.2
      subst e5
      exact wpOp_run (.int .u32 0) rfl (by kernel_rfl) (by kernel_rfl) ⟨_, by kernel_rfl, PhiAw_of hxs (by decide) (by decide) (by decide) rfl, RT.refl _ _⟩
    · exact wpOp_run (.pointer (some ⟨w3.heap.size, 0, none⟩)) rfl (by kernel_rfl) (zeroS_run rfl w3) ⟨_, by kernel_rfl, PhiAw_of hxs (by decide) (by decide) (by decide) ⟨_, rfl, hN3, SV.zero.c, rfl, Blk.new w3 _ _⟩, RT.of_below (below_new w3 _) hN3⟩
    · exact wpOp_run (.pointer (some ⟨w3.heap.size, 0, none⟩)) rfl (by kernel_rfl) (zeroC_run rfl w3) ⟨_, by kernel_rfl, PhiAw_of hxs (by decide) (by decide) (by decide) ⟨_, rfl, hN3, zCw, rfl, Blk.new w3 _ _⟩, RT.of_below (below_new w3 _) hN3⟩
    · have e6 : x6 = .agg (SV.c awR) := (hpre 6 (by kernel_rfl)).2.2
      subst e6
      obtain ⟨g10, e10, o10, c10, s10, f10⟩ : ∃ g, x10 = .pointer (some ⟨g, 0, none⟩) ∧ w6.heap.size ≤ g ∧ ∃ cs : Array Value, cs.size = awR.c.size ∧ Blk w3 g cs 26 := (hpre 10 (by kernel_rfl)).2.2
      subst e10
      exact wpOp_put rfl (by kernel_rfl) (exec_storeG (g := g10) (cs := SV.c awR) (old := c10) rfl (by kernel_rfl) (by kernel_rfl) w3 f10 (by exact sizeSV) s10 (SV.one _)) ⟨.bool true, by kernel_rfl, ⟨fun _ => ⟨g10, rfl, setRow_heap w3 g10 c10 _ 26 (0, 0) f10⟩, fun e => absurd e (by decide), trivial⟩, RT.putS (only_rowV w3 g10 _) o10 f10 s10.symm (setRow_heap w3 g10 c10 _ 26 (0, 0) f10)⟩
    · obtain ⟨rd7, ev7, e7, f7⟩ : ∃ rd1 ev1, x7 = .agg (cwC ⟨#[]⟩ 0 rd1 0 ev1) ∧ GoodA w3 rd1 ev1 := (hpre 7 (by kernel_rfl)).2.2
      subst e7
      obtain ⟨g11, e11, o11, c11, s11, f11⟩ : ∃ g, x11 = .pointer (some ⟨g, 0, none⟩) ∧ w6.heap.size ≤ g ∧ ∃ cs : Array Value, cs.size = 5 ∧ Blk w3 g cs 38 := (hpre 11 (by kernel_rfl)).2.2
      subst e11
      have HW := RT.putW (N0 := w6.heap.size) (only_rowV w3 g11 _) o11 f11 s11 (setRow_heap w3 g11 c11 (cwC ⟨#[]⟩ 0 rd7 0 ev7) 38 (0, 0) f11) f7
      exact wpOp_put rfl (by kernel_rfl) (exec_storeG (g := g11) (cs := cwC ⟨#[]⟩ 0 rd7 0 ev7) (old := c11) rfl (by kernel_rfl) (by kernel_rfl) w3 f11 (by exact sizeCw) s11 (good_one f7)) ⟨.bool true, by kernel_rfl, ⟨fun e => absurd e (by decide), fun _ => ⟨g11, rfl, rd7, ev7, setRow_heap w3 g11 c11 _ 38 (0, 0) f11, HW.2⟩, trivial⟩, HW.1⟩
    · have e8 : x8 = .int .i64 0 := (hpre 8 (by kernel_rfl)).2.2
      subst e8
      exact wpOp_run (.int .i64 0) rfl (by kernel_rfl) (by kernel_rfl) ⟨_, by kernel_rfl, PhiAw_of hxs (by decide) (by decide) (by decide) rfl, RT.refl _ _⟩
    · have e9 : x9 = .int .u32 0 := (hpre 9 (by kernel_rfl)).2.2
      subst e9
      exact wpOp_run (.int .u32 0) rfl (by kernel_rfl) (by kernel_rfl) ⟨_, by kernel_rfl, PhiAw_of hxs (by decide) (by decide) (by decide) rfl, RT.refl _ _⟩
  · intro xs w3 hxs hR hall
    obtain ⟨x0, x1, x2, x3, x4, x5, x6, x7, x8, x9, x10, x11, x12, x13, x14, x15, rfl⟩ := lstAw xs hxs
    have e8 : x14 = .int .i64 0 := (hall 14 (by omega)).2.2
    have e9 : x15 = .int .u32 0 := (hall 15 (by omega)).2.2
    obtain ⟨g10, e10, b10⟩ : ∃ g, x10 = .pointer (some ⟨g, 0, none⟩) ∧ Blk w3 g awR.c 26 := (hall 12 (by omega)).1 rfl
    obtain ⟨g11, e11, rd7, ev7, b11, hgd⟩ : ∃ g, x11 = .pointer (some ⟨g, 0, none⟩) ∧ ∃ rd ev, Blk w3 g (cwC ⟨#[]⟩ 0 rd 0 ev) 38 ∧ GoodA w3 rd ev := (hall 13 (by omega)).2.1 rfl
    subst e8 e9 e10 e11
    have AC := hidden (aw_cells b10 b11)
    have E5 := hidden hgd.2
    have B5 := hidden (HBW.out.trans (hR.below.mono (show w.heap.size ≤ w6.heap.size from HBW.out.size)))
    obtain ⟨w5, hw5⟩ : ∃ w5, w3 = w5 := ⟨_, rfl⟩
    subst hw5
    clear hall hR hxs hgd b10 b11
    simp only [slotsOn, putAll]
    obtain ⟨ge, ce, hev, hcs⟩ : ∃ g c, ev7 = .slice (some ⟨g, 0, none⟩) 1 c ∧ w3.cell? ⟨g, 1, none⟩ = some (.string ⟨#[104, 105]⟩) := by
      obtain ⟨_, h | ⟨g2, c2, cur, ee, _, hk, _, _, hcz, htk⟩⟩ := E5.out
      · exact absurd h.2 (by decide)
      · refine ⟨g2, c2, ee, ?_⟩
        have h1 : cur.toList[1]? = some (.string ⟨#[104, 105]⟩) := by
          rw [← List.getElem?_take_of_lt (show 1 < 1 * 2 by decide), htk]
          rfl
        exact Blk.cell hk (by simpa using h1)
    subst hev
    have hie : ∀ u, (Instr.indexAt 28 (.slice (some ⟨ge, 0, none⟩) 1 ce) (.int .i64 0)).run Try.prog u = .ok (.pointer (some ⟨ge, 0, none⟩)) u := fun u => by
      have hs : (Try.prog.info? 66).map (·.size) = some 2 := by kernel_rfl
      cases hq : Try.prog.info? 66 with
      | none => simp [hq] at hs
      | some i =>
        have hs2 : i.size = 2 := by simpa [hq] using hs
        simp [Instr.indexAt, run_underlying Try.underlying28, sizeOf, typeInfo, hq, go_sem]
    have hi2 : ∀ u, (Instr.indexAt 24 (.pointer (some ⟨g10, 0, none⟩)) (.int .i64 2)).run Try.prog u = .ok (.pointer (some ⟨g10, 2, none⟩)) u := fun u => index_reg g10 2 (by omega) u
    have hi7 : ∀ u, (Instr.indexAt 24 (.pointer (some ⟨g10, 0, none⟩)) (.int .i64 7)).run Try.prog u = .ok (.pointer (some ⟨g10, 7, none⟩)) u := fun u => index_reg g10 7 (by omega) u
    have c2 := AC.out.c2
    have c7 := AC.out.c7
    have cp := AC.out.cp
    have ce5 := AC.out.ce
    go_wp2
    go_ret
    exact ⟨rfl, B5.out⟩
end Go.Proofs.Ytodoenimlhldjaa
namespace Go.Proofs.Ytodoenimlhldjaa
open Go.ChangeShapes Go.WideShapes Go.ChangeAt Go.RowKit Go.Deep
set_option linter.unusedVariables false
theorem wf_u32 {a : Int} (h : (Lit.int .u32 a).wf = true) : ∃ n : Nat, a = (n : Int) ∧ n < 4294967296 := by
  have : 0 ≤ a ∧ a ≤ 4294967295 := by simpa [Lit.wf, IntKind.min, IntKind.max, IntKind.signed, IntKind.bits] using h
  exact ⟨a.toNat, by omega, by omega⟩
theorem wf_u8 {a : Int} (h : (Lit.int .u8 a).wf = true) : ∃ v : UInt8, a = (v.toNat : Int) := by
  have h1 : 0 ≤ a ∧ a ≤ 255 := by simpa [Lit.wf, IntKind.min, IntKind.max, IntKind.signed, IntKind.bits] using h
  exact ⟨UInt8.ofNat a.toNat, by rw [UInt8.toNat_ofNat']; omega⟩
theorem cells57 : Try.prog.cellsOf 52 = 4 := by kernel_rfl
theorem cells27 : Try.prog.cellsOf 23 = 1 := by kernel_rfl
theorem cells45 : Try.prog.cellsOf 50 = 1 := by kernel_rfl
theorem cells3 : Try.prog.cellsOf 3 = 1 := by kernel_rfl
theorem cells4 : Try.prog.cellsOf 4 = 1 := by kernel_rfl
/-- A slice of bytes that came in. -/
theorem open_row {H : Type} {enc : TypeId × Value → H} {w : World} {base n : Nat} {spare : Nat → Bool} {held : Bool} {cs : List Value} {x : DataW H × List MemPlace} (h : DataW.trod enc Try.prog w base spare held n 50 cs = some x) :
    ∃ (ao : Option Addr) (l : List UInt8) (cap : Nat), cs = [.slice ao l.length cap] ∧ Row w ao l cap := by
  rcases open_ints Try.underlying50 Try.underlying5 (by kernel_rfl) h with ⟨hcs, _⟩ | ⟨a, len, cap, zs, hcs, _, hl, hm, hz, _, hcell, hwz⟩
  · exact ⟨none, [], 0, hcs, Row.none w⟩
  · have hzl : len ≤ zs.length := by rw [hz]; split <;> omega
    obtain ⟨f, hf⟩ : ∃ f : Nat → UInt8, ∀ i, i < len → zs.getD i 0 = ((f i).toNat : Int) := by
      refine choose_lt (p := fun i (v : UInt8) => zs.getD i 0 = (v.toNat : Int)) fun i hi => ?_
      refine wf_u8 (hwz _ ?_)
      rw [List.getD_eq_getElem?_getD, List.getElem?_eq_getElem (by omega), Option.getD_some]
      exact List.getElem_mem _
    have hlen : ((List.range len).map f).length = len := by simp
    refine ⟨some a, (List.range len).map f, cap, by rw [hlen]; exact hcs, by rw [hlen]; exact hl, hm, by simp, ?_⟩
    by_cases h0 : len = 0
    · left
      subst h0
      rfl
    · right
      obtain ⟨b, off, spot⟩ := a
      have hc0 := hcell 0 (by omega)
      have hspot : spot = none := by simpa [Addr.add] using World.cell?_spot hc0
      subst hspot
      refine ⟨b, off, rfl, fun j hj => ?_⟩
      rw [hlen] at hj
      have h1 := hcell j (by omega)
      rw [Addr.add_lit] at h1
      rw [h1, hf j hj]
      simp [List.getD_eq_getElem?_getD, hj]
set_option maxRecDepth 20000 in
theorem open_part {H : Type} {enc : TypeId × Value → H} {w : World} {base n : Nat} {spare : Nat → Bool} {held : Bool} {a : Addr} {cs : List Value} {x : DataW H × List MemPlace}
    (h1 : w.cells? base a 4 = some cs) (h2 : DataW.trod enc Try.prog w base spare held n 52 cs = some x) :
    ∃ p : Part4, w.cell? (a.add 0) = some (.int .u32 (p.at_ : Int)) ∧ w.cell? (a.add 1) = some (.slice p.da p.data.length p.dcap) ∧ w.cell? (a.add 2) = some (.int .i64 p.perm) ∧ w.cell? (a.add 3) = some (.bool p.on) ∧ Row w p.da p.data p.dcap ∧ p.at_ < 4294967296 := by
  obtain ⟨_, hlen, hcell⟩ := World.cells?_some h1
  obtain ⟨xs, k, hk, hxy, _, hxl, hf⟩ := DataW.trod_struct Try.underlying52 h2
  match xs, hxl, cs, hlen with
  | [y0, y1, y2, y3], _, [v0, v1, v2, v3], _ =>
    have g0 := hf 0 _ rfl
    have g1 := hf 1 _ rfl
    have g2 := hf 2 _ rfl
    have g3 := hf 3 _ rfl
    simp [cells3, cells4, cells27, cells45] at g0 g1 g2 g3
    obtain ⟨n0, e0, _, w0⟩ := DataW.trod_int Try.underlying23 g0
    obtain ⟨ao, l, cap, e1, hr⟩ := open_row g1
    obtain ⟨n2, e2, _, _⟩ := DataW.trod_int Try.underlying3 g2
    obtain ⟨b3, e3, _⟩ := DataW.trod_bool Try.underlying4 g3
    obtain ⟨m0, rfl, hm0⟩ := wf_u32 w0
    simp only [List.cons.injEq, and_true] at e0 e1 e2 e3
    subst e0 e1 e2 e3
    have c0 := hcell 0 (by omega)
    have c1 := hcell 1 (by omega)
    have c2 := hcell 2 (by omega)
    have c3 := hcell 3 (by omega)
    exact ⟨⟨m0, l, n2, b3, ao, cap⟩, by simpa using c0, by simpa using c1, by simpa using c2, by simpa using c3, hr, hm0⟩
theorem open_parts {H : Type} {enc : TypeId × Value → H} {w : World} {fuel : Nat} {held : Bool} {ao : Option Addr} {len cap : Nat} {x : DataW H × List MemPlace} {spare : Nat → Bool}
    (h : DataW.trod enc Try.prog w 0 spare held fuel 22 [.slice ao len cap] = some x) : ∃ ps : List Part4, ps.length = len ∧ Pieces w ao ps ∧ ps.length ≤ 9223372036854775807 := by
  rcases open_slice Try.underlying22 h with ⟨hcs, _⟩ | ⟨a, l, c, m, n, D, Pl, hcs, hb, hl, hm, hmm, _, hx⟩
  · simp at hcs
    obtain ⟨rfl, rfl, rfl⟩ := hcs
    exact ⟨[], rfl, .inl rfl, by simp⟩
  · simp at hcs
    obtain ⟨rfl, rfl, rfl⟩ := hcs
    simp only [maxLen] at hm
    have hlm : len ≤ m := by rw [hmm]; split <;> omega
    have each : ∀ i, i < len → ∃ p : Part4, w.cell? (a.add (i * 4)) = some (.int .u32 (p.at_ : Int)) ∧ w.cell? (a.add (i * 4 + 1)) = some (.slice p.da p.data.length p.dcap) ∧ w.cell? (a.add (i * 4 + 2)) = some (.int .i64 p.perm) ∧ w.cell? (a.add (i * 4 + 3)) = some (.bool p.on) ∧ Row w p.da p.data p.dcap ∧ p.at_ < 4294967296 := by
      intro i hi
      obtain ⟨cs', h1, h2⟩ := hx i (by omega)
      rw [cells57] at h1
      obtain ⟨p, c0, c1, c2, c3, hr, hlt⟩ := open_part h1 h2
      rw [add_add] at c0 c1 c2 c3
      exact ⟨p, c0, c1, c2, c3, hr, hlt⟩
    have hinh : Inhabited Part4 := ⟨⟨0, [], 0, false, none, 0⟩⟩
    obtain ⟨f, hf⟩ := choose_lt each
    have hlen : ((List.range len).map f).length = len := by simp
    refine ⟨(List.range len).map f, hlen, ?_, by omega⟩
    by_cases h0 : len = 0
    · left
      subst h0
      rfl
    · right
      obtain ⟨b, off, spot⟩ := a
      have hspot : spot = none := by simpa [Addr.add] using World.cell?_spot (hf 0 (by omega)).1
      subst hspot
      refine ⟨b, off, rfl, ?_, fun j hj => ?_⟩
      · have := World.block_lt_of_cell? _ _ (hf 0 (by omega)).1
        simpa [Addr.add_lit] using this
      · rw [hlen] at hj
        obtain ⟨c0, c1, c2, c3, hr, hlt⟩ := hf j hj
        rw [Addr.add_lit] at c0 c1 c2 c3
        simp only [List.getElem_map, List.getElem_range]
        exact ⟨c0, by rw [Nat.add_assoc]; exact c1, by rw [Nat.add_assoc]; exact c2, by rw [Nat.add_assoc]; exact c3, hr, hlt⟩
end Go.Proofs.Ytodoenimlhldjaa
namespace Go.Proofs.Ytodoenimlhldjaa
open Go.ChangeShapes Go.WideShapes Go.ChangeAt Go.RowKit Go.Deep
set_option linter.unusedVariables false
theorem open_rw {H : Type} {enc : TypeId × Value → H} {w : World} {fuel : Nat} {held : Bool} {ao : Option Addr} {len cap : Nat} {x : DataW H × List MemPlace} {spare : Nat → Bool} (h : DataW.trod enc Try.prog w 0 spare held fuel 27 [.slice ao len cap] = some x) :
    ∃ zs : List Int, zs.length = len ∧ Rw w 1 (.slice ao zs.length cap) zs.length (cI zs) ∧ zs.length ≤ 9223372036854775807 := by
  rcases open_ints Try.underlying27 Try.underlying3 (by kernel_rfl) h with ⟨hcs, _⟩ | ⟨a, l0, c0, zs, hcs, _, hl, hm, hz, _, hcell, hwz⟩
  · simp only [List.cons.injEq, and_true, Value.slice.injEq] at hcs
    obtain ⟨rfl, rfl, rfl⟩ := hcs
    exact ⟨[], rfl, rw_nil w 1, by simp⟩
  · simp only [List.cons.injEq, and_true, Value.slice.injEq] at hcs
    obtain ⟨rfl, rfl, rfl⟩ := hcs
    have hzl : len ≤ zs.length := by rw [hz]; split <;> omega
    have hlen : (zs.take len).length = len := by simp; omega
    have hm2 := hm
    simp only [maxLen] at hm2
    refine ⟨zs.take len, hlen, ⟨by rw [hlen, cI_len, hlen], some a, cap, by rw [hlen], ?_⟩, by rw [hlen]; omega⟩
    rw [hlen]
    by_cases h0 : len = 0
    · exact .inl h0
    · right
      obtain ⟨b, off, spot⟩ := a
      have hc0 := hcell 0 (by omega)
      have hspot : spot = none := by simpa [Addr.add] using World.cell?_spot hc0
      subst hspot
      refine ⟨b, off, rfl, World.block_lt_of_cell? _ _ hc0, fun j u hu => ?_⟩
      have hj : j < len := by
        have := (List.getElem?_eq_some_iff.1 hu).1
        rw [cI_len, hlen] at this
        omega
      have h1 := hcell j (by omega)
      rw [Addr.add_lit] at h1
      rw [h1]
      unfold cI at hu
      rw [List.getElem?_map, List.getElem?_take_of_lt hj, List.getElem?_eq_getElem (by omega)] at hu
      rw [List.getD_eq_getElem?_getD, List.getElem?_eq_getElem (by omega)]
      exact hu
end Go.Proofs.Ytodoenimlhldjaa

/- Two memories beside each other. -/
import Derived.Test.YtodoenimlhldjaaQMAK
namespace Go.Proofs.Ytodoenimlhldjaa
open Go.ChangeShapes Go.WideShapes Go.ChangeAt Go.RowKit
set_option linter.unusedVariables false
theorem Own.later {w u v : World} {s : MS} (h : Own w u s) (hb : Below u.heap.size u v) : Own w v s := h.step (Step.later h.mem hb)
/-- A memory that was made behind another one. -/
theorem apart_new {w u v : World} {s t : MS} (hs : Own w u s) (ht : Own u v t) : Apart s t := fun b hb hbt => by
  have := hs.mem.lt hb
  have := ht.foot b hbt
  omega
theorem Own.wide {w u v : World} {t : MS} (h : Own u v t) (hb : Below w.heap.size w u) : Own w v t := ⟨h.mem, hb.trans (h.below.mono hb.size), fun b hf => Nat.le_trans hb.size (h.foot b hf)⟩
structure Two (w wr : World) (s t : MS) (ms mt : Nat) (f g : AM) (C : Nat) : Prop where
  a : Own w wr s
  b : Own w wr t
  ab : Apart s t
  ms : s.mb = ms
  mt : t.mb = mt
  f : s.abs = f
  g : t.abs = g
  c : s.c ≤ C
theorem Two.later {w u v : World} {s t : MS} {ms mt C : Nat} {f g : AM} (h : Two w u s t ms mt f g C) (hb : Below u.heap.size u v) : Two w v s t ms mt f g C := ⟨h.a.later hb, h.b.later hb, h.ab, h.ms, h.mt, h.f, h.g, h.c⟩
theorem Two.drew {w u v : World} {s t : MS} {ms mt C : Nat} {f g : AM} (h : Two w u s t ms mt f g C) (hd : ∃ n, v = u.drewN n) : Two w v s t ms mt f g C := by
  obtain ⟨n, rfl⟩ := hd
  exact h.later (below_drewN (Below.refl _ _) n)
theorem Two.poke {w u : World} {s t : MS} {ms mt C a : Nat} {f g : AM} (h : Two w u s t ms mt f g C) (v : UInt8) (ha : a < 4294967296) (hC : C < 1099511627776) : Calls Try.prog 28 #[.pointer (some ⟨ms, 0, none⟩), .int .u32 (a : Int), .int .u8 (v.toNat : Int)] u fun e w' =>
    e = .returned (.bool (f (pageOf a)).isSome) ∧ ∃ s', Two w w' s' t ms mt (apoke f a v) g (C + 1) := by
  have hc := h.c
  have h21 := poke_any u s a v h.a.mem ha (by omega)
  have e : decide (pageOf a ∈ s.ks) = (f (pageOf a)).isSome := by
    rw [← h.f]
    by_cases hk : pageOf a ∈ s.ks
    · rw [decide_eq_true hk, mem_abs.1 hk]
    · rw [decide_eq_false hk, abs_out hk]
      rfl
  rw [h.ms, e] at h21
  refine h21.mono ?_
  rintro e w' ⟨he, tv, st⟩
  have hap := st.apart h.b.mem h.ab
  have hkp : Own w w' t := ⟨hap.1, (h.a.step st).below, h.b.foot⟩
  have hc2 := pokeAt_c s a v tv
  exact ⟨he, _, h.a.step st, hkp, hap.2, by rw [pokeAt_mb]; exact h.ms, h.mt, by rw [abs_pokeAt, h.f], h.g, by omega⟩
theorem Two.peek {w u : World} {s t : MS} {ms mt C a : Nat} {f g : AM} (h : Two w u s t ms mt f g C) (ha : a < 4294967296) : Calls Try.prog 50 #[.pointer (some ⟨ms, 0, none⟩), .int .u32 (a : Int)] u fun e w' => e = .returned (.int .u8 ((getA f a).toNat : Int)) ∧ Two w w' s t ms mt f g C := by
  have := peek_any u s a h.a.mem ha
  rw [h.ms, get_getA, h.f] at this
  exact this.mono fun e w' ⟨he, hd⟩ => ⟨he, h.drew hd⟩
end Go.Proofs.Ytodoenimlhldjaa

/- Memory: of parts, walked. -/
import Derived.Test.YtpknppicamefgaaPPieces
namespace Go.Proofs.Ytpknppicamefgaa
open Go.ChangeShapes Go.WideShapes Go.ChangeAt Go.RowKit
set_option linter.unusedVariables false
theorem getD_in_row {w : World} {ao : Option Addr} {l : List UInt8} {cap k : Nat} (h : Row w ao l cap) (hk : k < l.length) : ∃ b off, ao = some ⟨b, off, none⟩ ∧ w.cell? ⟨b, off + k, none⟩ = some (.int .u8 ((l.getD k 0).toNat : Int)) := by
  rcases h.lies with h | ⟨b, off, e, h⟩
  · rw [h] at hk; simp at hk
  · exact ⟨b, off, e, h k hk⟩
theorem MI.mapCall {w wr : World} {s : MS} {mb C a k L : Nat} {f : AM} {z : Int} (h : MI w wr s mb f C) (hB : MapB s a k L) (hk : k < 600) (hL : L ≤ 28) (m : Nat) : Calls Try.prog 57 #[.pointer (some ⟨mb, 0, none⟩), .int .u32 (((a : Int) + (k : Int)) % 4294967296), .int .i64 z] (wr.drewN m) fun e w' =>
    ∃ n, e = .returned (.int .i64 n) ∧ ∃ s', MI w w' s' mb (amap f (wrapAt a k) z) C ∧ MapB s' a (k + 1) L := by
  have h12 := map_any (wr.drewN m) s (wrapAt a k) z (h.own.mem.drewN m) (wrapAt_lt _ _)
  rw [h.mb, show ((wrapAt a k : Nat) : Int) = ((a : Int) + (k : Int)) % 4294967296 by unfold wrapAt; omega] at h12
  refine h12.mono ?_
  rintro e w' ⟨he, st⟩
  exact ⟨_, he, _, h.map hB hk hL ((Step.drew h.own.mem ⟨m, rfl⟩).trans st)⟩
theorem MI.pokeCall {w wr : World} {s : MS} {mb C a k : Nat} {f : AM} {v : UInt8} (h : MI w wr s mb f C) (hC : C < 1099511627776) (m : Nat) : Calls Try.prog 58 #[.pointer (some ⟨mb, 0, none⟩), .int .u32 (((a : Int) + (k : Int)) % 4294967296), .int .u8 (v.toNat : Int)] (wr.drewN m) fun e w' =>
    ∃ b, e = .returned (.bool b) ∧ ∃ s', MI w w' s' mb (apoke f (wrapAt a k) v) (C + 1) ∧ s'.ks = s.ks := by
  have hc := h.c
  have h21 := poke_any (wr.drewN m) s (wrapAt a k) v (h.own.mem.drewN m) (wrapAt_lt _ _) (by omega)
  rw [h.mb, show ((wrapAt a k : Nat) : Int) = ((a : Int) + (k : Int)) % 4294967296 by unfold wrapAt; omega] at h21
  refine h21.mono ?_
  rintro e w' ⟨he, tv, st⟩
  exact ⟨_, he, _, h.poke ((Step.drew h.own.mem ⟨m, rfl⟩).trans st)⟩
/-- A memory that is made, and then watched. -/
structure MW (w wr : World) (s : MS) (mb : Nat) (f : AM) : Prop where
  own : Own w wr s
  mb : s.mb = mb
  abs : s.abs = f
  most : s.most = 64
  few : s.ks.length ≤ 32
  ts : s.ts = []
  c : s.c ≤ 4800
end Go.Proofs.Ytpknppicamefgaa

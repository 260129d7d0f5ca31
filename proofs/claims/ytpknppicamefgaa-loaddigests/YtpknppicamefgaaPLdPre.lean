/- LoadDigests: the walk. -/
import Derived.Test.YtpknppicamefgaaPDigest
import Derived.Test.YtpknppicamefgaaPRefCheck
import Derived.Test.YtpknppicamefgaaPLoadAwake
import Derived.Deep.Cut
namespace Go.Proofs.Ytpknppicamefgaa
open Go.ChangeShapes Go.WideShapes Go.ChangeAt Go.RowKit
set_option linter.unusedVariables false
section
variable {ρ : Operand → Value} {o : Oper}
theorem size25 : (Try.prog.info? 25).map (·.size) = some 2 := by kernel_rfl
theorem load25 {w : World} {g : Nat} {c0 c1 : Value} (hg : Blk w g #[c0, c1] 25) : (loadVar 25 ⟨g, 0, none⟩).run Try.prog w = .ok (.agg #[c0, c1]) w :=
  run_loadVar_row w g 25 25 _ _ _ hg Try.underlying25 rfl size25
theorem build25z (w : World) : (Instr.build 25 #[]).run Try.prog w = .ok (.agg #[.int .u32 0, .slice none 0 0]) w := by kernel_rfl
theorem exec_eqlF {x y : Operand} {k : IntKind} {m n : Int} (t : TypeId) (hop : o.op = .binOp .eql t x y t) (ht : Try.prog.underlying t = some (.int k)) (hx : ρ x = .int k m) (hy : ρ y = .int k n) (hne : ¬ m = n) (w : World) : (execOp ρ o).run Try.prog w = .ok (.value (.bool false)) w := by
  unfold execOp
  rw [hop]
  simp [hx, hy, go_sem, hne]
end
/-- A byte that is another one. -/
theorem byte1_eq {c d x : Nat} (hc : c < 4294967296) (hd : d < 4294967296) (h : Crc.byte1 c x = Crc.byte1 d x) : c = d := by
  unfold Crc.byte1 at h
  have h2 : Crc.bits 8 (c ^^^ d) = 0 := by
    have e : c ^^^ d = (c ^^^ x) ^^^ (d ^^^ x) := by
      rw [Nat.xor_comm d x, ← Nat.xor_assoc, Nat.xor_assoc c x x, Nat.xor_self, Nat.xor_zero]
    rw [e, Crc.bits_xor, h, Nat.xor_self]
  have hlt : c ^^^ d < 4294967296 := by
    have : c ^^^ d < 2 ^ 32 := Nat.xor_lt_two_pow (by omega) (by omega)
    omega
  have h0 : c ^^^ d = 0 := by
    by_cases e : c ^^^ d = 0
    · exact e
    · exact absurd h2 (Crc.bits_ne 8 hlt e)
  have : c ^^^ d ^^^ d = d := by rw [h0, Nat.zero_xor]
  rwa [Nat.xor_assoc, Nat.xor_self, Nat.xor_zero] at this
theorem byte1_eq2 {c x y : Nat} (hx : x < 256) (hy : y < 256) (h : Crc.byte1 c x = Crc.byte1 c y) : x = y := by
  unfold Crc.byte1 at h
  rw [Nat.xor_comm c x, Nat.xor_comm c y] at h
  exact byte1_eq (by omega) (by omega) h
theorem fold_eq : ∀ (l : List Nat) {c d : Nat}, c < 4294967296 → d < 4294967296 → (∀ b ∈ l, b < 256) → Crc.fold c l = Crc.fold d l → c = d
  | [], c, d, _, _, _, h => h
  | x :: l, c, d, hc, hd, hb, h => by
    rw [Crc.fold_cons, Crc.fold_cons] at h
    have hx := hb x List.mem_cons_self
    exact byte1_eq hc hd (fold_eq l (Crc.byte1_lt hc hx) (Crc.byte1_lt hd hx) (fun b h => hb b (List.mem_cons_of_mem _ h)) h)
theorem sumB_one (p q : List UInt8) (x y : UInt8) (h : sumB 0 (p ++ x :: q) = sumB 0 (p ++ y :: q)) : x = y := by
  unfold sumB sumOf at h
  have l1 := fold_lt8 (4294967295 - 0) (p ++ x :: q) (by omega)
  have l2 := fold_lt8 (4294967295 - 0) (p ++ y :: q) (by omega)
  have h2 : Crc.fold (4294967295 - 0) ((p ++ x :: q).map UInt8.toNat) = Crc.fold (4294967295 - 0) ((p ++ y :: q).map UInt8.toNat) := by omega
  rw [List.map_append, List.map_append, Crc.fold_append, Crc.fold_append, List.map_cons, List.map_cons, Crc.fold_cons, Crc.fold_cons] at h2
  have hp := fold_lt8 (4294967295 - 0) p (by omega)
  have h3 := fold_eq (q.map UInt8.toNat) (Crc.byte1_lt hp x.toNat_lt) (Crc.byte1_lt hp y.toNat_lt) (fun b hb => Hid.out (small8 q) b hb) h2
  exact UInt8.toNat_inj.1 (byte1_eq2 x.toNat_lt y.toNat_lt h3)
theorem set_split (d : List UInt8) (k : Nat) (hk : k < d.length) (y : UInt8) : d.set k y = d.take k ++ y :: d.drop (k + 1) ∧ d = d.take k ++ d.getD k 0 :: d.drop (k + 1) := by
  refine ⟨List.set_eq_take_append_cons_drop.trans (by rw [if_pos hk]), ?_⟩
  have e : d.getD k 0 = d[k] := by simp [List.getD_eq_getElem?_getD, hk]
  rw [e, List.getElem_cons_drop, List.take_append_drop]
theorem check_data {ent : Nat} {s : Sg} (h : checkE ent [s] = 0) (d : List UInt8) (hd : d.length = s.data.length) : checkE ent [{ s with data := d }] = 0 := by
  have hok : okB s = true := by
    cases ho : okB s with
    | true => rfl
    | false => unfold checkE at h; simp [ho] at h
  have hen : enterB ent [s] = true := by
    cases he : enterB ent [s] with
    | true => rfl
    | false => unfold checkE at h; simp [hok, overB, he] at h
  obtain ⟨g1, g2, g3, g4, g5, g6⟩ := ok_size hok
  have h1 : okB { s with data := d } = true := by
    unfold okB fitsB
    simp
    omega
  have h2 : enterB ent [{ s with data := d }] = true := hen
  unfold checkE
  simp [h1, h2, overB]
theorem digest_data (e : Nat) (s : Sg) (k : Nat) (hk : k < s.data.length) (y : UInt8) : sumB 0 (fileB e [s]) = sumB 0 (fileB e [{ s with data := s.data.set k y }]) ↔ s.data.getD k 0 = y := by
  have ht : tableB e [{ s with data := s.data.set k y }] = tableB e [s] := by simp [tableB, rowsB, rowB]
  obtain ⟨h1, h2⟩ := set_split s.data k hk y
  have e1 : fileB e [s] = (tableB e [s] ++ s.data.take k) ++ s.data.getD k 0 :: s.data.drop (k + 1) := by
    simp only [fileB, datasB, List.append_nil]
    conv => lhs; rw [h2]
    simp
  have e2 : fileB e [{ s with data := s.data.set k y }] = (tableB e [s] ++ s.data.take k) ++ y :: s.data.drop (k + 1) := by
    simp only [fileB, datasB, List.append_nil, ht]
    rw [h1]
    simp
  rw [e1, e2]
  exact ⟨sumB_one _ _ _ _, fun h => by rw [h]⟩
/-- A text's bytes, one of them set, and put back. -/
theorem ld_tail (u : World) (g2 k : Nat) (d : List UInt8) (hk : k < d.length) (y : UInt8) (v0 v2 v3 : Value) (hg : Blk u g2 #[v0, .string ⟨d.toArray⟩, v2, v3] 44) :
    ∃ gd cd w6 W7 W9, (convert 9 51 (.string ⟨d.toArray⟩)).run Try.prog u = .ok (.slice (some ⟨gd, 0, none⟩) d.length cd) w6 ∧ w6.cell? ⟨gd, k, none⟩ = some (.int .u8 ((d.getD k 0).toNat : Int)) ∧ w6.frozen? ⟨gd, k, none⟩ = false ∧ w6.setCell ⟨gd, k, none⟩ (.int .u8 (y.toNat : Int)) = W7 ∧ (convert 51 9 (.slice (some ⟨gd, 0, none⟩) d.length cd)).run Try.prog W7 = .ok (.string ⟨(d.set k y).toArray⟩) W7 ∧ Blk W7 g2 #[v0, .string ⟨d.toArray⟩, v2, v3] 44 ∧ (∀ p, p < u.heap.size → W7.heap[p]? = u.heap[p]?) ∧ W7.setCell ⟨g2, 1, none⟩ (.string ⟨(d.set k y).toArray⟩) = W9 ∧ Blk W9 g2 #[v0, .string ⟨(d.set k y).toArray⟩, v2, v3] 44 ∧ Keep (· = g2) u W9 := by
  have h := run_bytes_of_string (P := Try.prog) u 9 51 5 ⟨d.toArray⟩ Try.underlying9 Try.underlying51 Try.underlying5
  have hsz : (ByteArray.mk d.toArray).size = d.length := by simp [ByteArray.size]
  rw [hsz] at h
  generalize grownCap u d.length 0 5 = cd at h
  obtain ⟨arr, harr⟩ : ∃ arr, arr = bytesRow ⟨d.toArray⟩ cd := ⟨_, rfl⟩
  rw [← harr] at h
  have hget : ∀ j, j < d.length → arr[j]? = some (.int .u8 ((d.getD j 0).toNat : Int)) := by
    intro j hj
    rw [harr]
    unfold bytesRow
    rw [Array.getElem?_append_left (by simpa using hj)]
    simp [List.getD_eq_getElem?_getD, List.getElem?_eq_getElem hj]
  have hal : d.length ≤ arr.size := by rw [harr]; unfold bytesRow; simp
  obtain ⟨w6, hw6⟩ : ∃ w6, w6 = u.drew.alloc (.cells arr 5 (arr.size, arr.size + 1)) := ⟨_, rfl⟩
  rw [← hw6] at h
  have hblk : w6.heap[u.heap.size]? = some (.cells arr 5 (arr.size, arr.size + 1)) := by rw [hw6]; exact heap_alloc_new u.drew _
  have hold : ∀ p, p < u.heap.size → w6.heap[p]? = u.heap[p]? := fun p hp => by rw [hw6]; exact heap_alloc_old u.drew _ hp
  have hs6 : w6.heap.size = u.heap.size + 1 := by rw [hw6]; simp
  have hg2l := hg.lt
  obtain ⟨gd, hgd⟩ : ∃ gd, gd = u.heap.size := ⟨_, rfl⟩
  rw [← hgd] at h hblk
  obtain ⟨W7, hW7⟩ : ∃ W7, w6.setCell ⟨gd, k, none⟩ (.int .u8 (y.toNat : Int)) = W7 := ⟨_, rfl⟩
  have hblk7 : W7.heap[gd]? = some (.cells (arr.setIfInBounds k (.int .u8 (y.toNat : Int))) 5 (arr.size, arr.size + 1)) := by
    rw [← hW7, setCell_eq_setRow w6 gd k arr 5 _ _ hblk]
    exact setRow_heap w6 gd _ _ 5 _ hblk
  have hlies : Lies W7 (some ⟨gd, 0, none⟩) (d.set k y) := by
    refine .inr ⟨gd, 0, rfl, fun j hj => ?_⟩
    rw [List.length_set] at hj
    rw [Nat.zero_add]
    simp only [World.cell?, hblk7]
    by_cases e : k = j
    · subst e
      simp [hk, List.getD_eq_getElem?_getD, Nat.lt_of_lt_of_le hk hal]
    · rw [Array.getElem?_setIfInBounds, if_neg e, hget j hj]
      simp [List.getD_eq_getElem?_getD, e]
  have hcv := run_str W7 (some ⟨gd, 0, none⟩) (d.set k y) cd hlies
  rw [List.length_set] at hcv
  have old7 : ∀ p, p < u.heap.size → W7.heap[p]? = u.heap[p]? := fun p hp => by
    rw [← hW7]
    exact (Below.heap_setCell _ _ _ _ (by show p ≠ gd; omega)).trans (hold p hp)
  have b7 : Blk W7 g2 #[v0, .string ⟨d.toArray⟩, v2, v3] 44 := (old7 g2 hg2l).trans hg
  have hk6 : Keep (· = g2) u w6 := ⟨by rw [hw6]; rfl, by rw [hw6]; rfl, by rw [hw6]; rfl, by omega, fun p hp _ => hold p hp⟩
  have hk7 : Keep (· = g2) u W7 := by
    rw [← hW7]
    exact hk6.trans (keep_setCell w6 gd k _) fun p hp e => by omega
  refine ⟨gd, cd, w6, W7, _, h, ?_, ?_, hW7, hcv, b7, old7, rfl, setCell_blk (j := 1) b7 _, hk7.trans (keep_setCell W7 g2 1 _) fun p _ e => e⟩
  · simp only [World.cell?, hblk]
    exact hget k hk
  · simp only [World.frozen?, hblk]
    simp
    omega
end Go.Proofs.Ytpknppicamefgaa

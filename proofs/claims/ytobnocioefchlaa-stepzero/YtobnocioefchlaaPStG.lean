/- What an instruction does: any task. -/
import Derived.Test.YtobnocioefchlaaPStF0
import Derived.Test.YtobnocioefchlaaPStF1
import Derived.Test.YtobnocioefchlaaPStF2
import Derived.Test.YtobnocioefchlaaPStF3
import Derived.Test.YtobnocioefchlaaPStF4
import Derived.Test.YtobnocioefchlaaPStF5
import Derived.Test.YtobnocioefchlaaPStF6
import Derived.Test.YtobnocioefchlaaPStF7
namespace Go.Proofs.Ytobnocioefchlaa
open Go.ChangeShapes Go.WideShapes Go.ChangeAt Go.RowKit
set_option linter.unusedVariables false
theorem storeL_none {op : Int} (h : op < 55 ∨ 59 < op) (a v : Nat) : storeL op a v = [] := by
  unfold storeL
  rw [if_neg (by omega), if_neg (by omega), if_neg (by omega), if_neg (by omega), if_neg (by omega)]
theorem quiet_do {s : MS} {w w' : World} (hm : MemW w s) {op : Int} (h : op < 55 ∨ 59 < op) (a v : Nat) (hb : Below w.heap.size w w') : ∃ s', PokesTo s (storeL op a v) s' ∧ Step w s w' s' := ⟨s, by rw [storeL_none h]; exact rfl, Step.later hm hb⟩
set_option maxHeartbeats 1000000 in
theorem do_any (s : MS) (w : World) (hm : MemW w s) (k : TV) (hk : TOk k) (into : Nat) (hwr : writeV k.i.op k.i.tk.t k.i.tk.d = (into : Int)) (hi : into < 32) (hv : k.v.ok) (hc : s.c + 4 ≤ 1099511627776) : Calls Try.prog 28 #[.agg k.c, .pointer (some ⟨s.mb, 0, none⟩)] w fun e w' => e = .returned (.agg (SV.c (doP s k.v k.i.op k.i.tk.imm k.i.tk.a k.x k.t into k.a))) ∧ ∃ s', PokesTo s (storeL k.i.op k.a k.t.toNat) s' ∧ Step w s w' s' := by
  by_cases e27 : (k.i.op : Int) = 27
  · exact (do_27t s w hm k hk into hwr hi hv e27 (by rw [e27]; rfl)).mono fun e w' ⟨he, hb⟩ => ⟨he, quiet_do hm (by omega) _ _ hb⟩
  by_cases e28 : (k.i.op : Int) = 28
  · exact (do_28t s w hm k hk into hwr hi hv e28 (by rw [e28]; rfl)).mono fun e w' ⟨he, hb⟩ => ⟨he, quiet_do hm (by omega) _ _ hb⟩
  by_cases e68 : (k.i.op : Int) = 68
  · exact (do_68t s w hm k hk into hwr hi hv e68 (by rw [e68]; rfl)).mono fun e w' ⟨he, hb⟩ => ⟨he, quiet_do hm (by omega) _ _ hb⟩
  by_cases e69 : (k.i.op : Int) = 69
  · exact (do_69t s w hm k hk into hwr hi hv e69 (by rw [e69]; rfl)).mono fun e w' ⟨he, hb⟩ => ⟨he, quiet_do hm (by omega) _ _ hb⟩
  by_cases e60 : (k.i.op : Int) = 60
  · cases htb : takeB k.i.op k.x k.t k.i.tk.imm with
    | true => exact (do_60t s w hm k hk into hwr hi hv e60 htb).mono fun e w' ⟨he, hb⟩ => ⟨he, quiet_do hm (by omega) _ _ hb⟩
    | false => exact (do_60f s w hm k hk into hwr hi hv e60 htb).mono fun e w' ⟨he, hb⟩ => ⟨he, quiet_do hm (by omega) _ _ hb⟩
  by_cases e61 : (k.i.op : Int) = 61
  · cases htb : takeB k.i.op k.x k.t k.i.tk.imm with
    | true => exact (do_61t s w hm k hk into hwr hi hv e61 htb).mono fun e w' ⟨he, hb⟩ => ⟨he, quiet_do hm (by omega) _ _ hb⟩
    | false => exact (do_61f s w hm k hk into hwr hi hv e61 htb).mono fun e w' ⟨he, hb⟩ => ⟨he, quiet_do hm (by omega) _ _ hb⟩
  by_cases e62 : (k.i.op : Int) = 62
  · cases htb : takeB k.i.op k.x k.t k.i.tk.imm with
    | true => exact (do_62t s w hm k hk into hwr hi hv e62 htb).mono fun e w' ⟨he, hb⟩ => ⟨he, quiet_do hm (by omega) _ _ hb⟩
    | false => exact (do_62f s w hm k hk into hwr hi hv e62 htb).mono fun e w' ⟨he, hb⟩ => ⟨he, quiet_do hm (by omega) _ _ hb⟩
  by_cases e63 : (k.i.op : Int) = 63
  · cases htb : takeB k.i.op k.x k.t k.i.tk.imm with
    | true => exact (do_63t s w hm k hk into hwr hi hv e63 htb).mono fun e w' ⟨he, hb⟩ => ⟨he, quiet_do hm (by omega) _ _ hb⟩
    | false => exact (do_63f s w hm k hk into hwr hi hv e63 htb).mono fun e w' ⟨he, hb⟩ => ⟨he, quiet_do hm (by omega) _ _ hb⟩
  by_cases e64 : (k.i.op : Int) = 64
  · cases htb : takeB k.i.op k.x k.t k.i.tk.imm with
    | true => exact (do_64t s w hm k hk into hwr hi hv e64 htb).mono fun e w' ⟨he, hb⟩ => ⟨he, quiet_do hm (by omega) _ _ hb⟩
    | false => exact (do_64f s w hm k hk into hwr hi hv e64 htb).mono fun e w' ⟨he, hb⟩ => ⟨he, quiet_do hm (by omega) _ _ hb⟩
  by_cases e65 : (k.i.op : Int) = 65
  · cases htb : takeB k.i.op k.x k.t k.i.tk.imm with
    | true => exact (do_65t s w hm k hk into hwr hi hv e65 htb).mono fun e w' ⟨he, hb⟩ => ⟨he, quiet_do hm (by omega) _ _ hb⟩
    | false => exact (do_65f s w hm k hk into hwr hi hv e65 htb).mono fun e w' ⟨he, hb⟩ => ⟨he, quiet_do hm (by omega) _ _ hb⟩
  by_cases e66 : (k.i.op : Int) = 66
  · cases htb : takeB k.i.op k.x k.t k.i.tk.imm with
    | true => exact (do_66t s w hm k hk into hwr hi hv e66 htb).mono fun e w' ⟨he, hb⟩ => ⟨he, quiet_do hm (by omega) _ _ hb⟩
    | false => exact (do_66f s w hm k hk into hwr hi hv e66 htb).mono fun e w' ⟨he, hb⟩ => ⟨he, quiet_do hm (by omega) _ _ hb⟩
  by_cases e67 : (k.i.op : Int) = 67
  · cases htb : takeB k.i.op k.x k.t k.i.tk.imm with
    | true => exact (do_67t s w hm k hk into hwr hi hv e67 htb).mono fun e w' ⟨he, hb⟩ => ⟨he, quiet_do hm (by omega) _ _ hb⟩
    | false => exact (do_67f s w hm k hk into hwr hi hv e67 htb).mono fun e w' ⟨he, hb⟩ => ⟨he, quiet_do hm (by omega) _ _ hb⟩
  by_cases e14 : (k.i.op : Int) = 14
  · by_cases ht : k.t = 0
    · exact (do_14z s w hm k hk into hwr hi hv e14 ht).mono fun e w' ⟨he, hb⟩ => ⟨he, quiet_do hm (by omega) _ _ hb⟩
    · exact (do_14n s w hm k hk into hwr hi hv e14 ht).mono fun e w' ⟨he, hb⟩ => ⟨he, quiet_do hm (by omega) _ _ hb⟩
  by_cases e15 : (k.i.op : Int) = 15
  · by_cases ht : k.t = 0
    · exact (do_15z s w hm k hk into hwr hi hv e15 ht).mono fun e w' ⟨he, hb⟩ => ⟨he, quiet_do hm (by omega) _ _ hb⟩
    · exact (do_15n s w hm k hk into hwr hi hv e15 ht).mono fun e w' ⟨he, hb⟩ => ⟨he, quiet_do hm (by omega) _ _ hb⟩
  by_cases e23 : (k.i.op : Int) = 23
  · exact (do_23 s w hm k hk into hwr hi hv e23).mono fun e w' ⟨he, hb⟩ => ⟨he, quiet_do hm (by omega) _ _ hb⟩
  by_cases e24 : (k.i.op : Int) = 24
  · exact (do_24 s w hm k hk into hwr hi hv e24).mono fun e w' ⟨he, hb⟩ => ⟨he, quiet_do hm (by omega) _ _ hb⟩
  by_cases e48 : (k.i.op : Int) = 48
  · exact (do_48 s w hm k hk into hwr hi hv e48).mono fun e w' ⟨he, hb⟩ => ⟨he, quiet_do hm (by omega) _ _ hb⟩
  by_cases e49 : (k.i.op : Int) = 49
  · exact (do_49 s w hm k hk into hwr hi hv e49).mono fun e w' ⟨he, hb⟩ => ⟨he, quiet_do hm (by omega) _ _ hb⟩
  by_cases e50 : (k.i.op : Int) = 50
  · exact (do_50 s w hm k hk into hwr hi hv e50).mono fun e w' ⟨he, hb⟩ => ⟨he, quiet_do hm (by omega) _ _ hb⟩
  by_cases e51 : (k.i.op : Int) = 51
  · exact (do_51 s w hm k hk into hwr hi hv e51).mono fun e w' ⟨he, hb⟩ => ⟨he, quiet_do hm (by omega) _ _ hb⟩
  by_cases e52 : (k.i.op : Int) = 52
  · exact (do_52 s w hm k hk into hwr hi hv e52).mono fun e w' ⟨he, hb⟩ => ⟨he, quiet_do hm (by omega) _ _ hb⟩
  by_cases e53 : (k.i.op : Int) = 53
  · exact (do_53 s w hm k hk into hwr hi hv e53).mono fun e w' ⟨he, hb⟩ => ⟨he, quiet_do hm (by omega) _ _ hb⟩
  by_cases e54 : (k.i.op : Int) = 54
  · exact (do_54 s w hm k hk into hwr hi hv e54).mono fun e w' ⟨he, hb⟩ => ⟨he, quiet_do hm (by omega) _ _ hb⟩
  by_cases e55 : (k.i.op : Int) = 55
  · exact do_55 s w hm k hk into hwr hi hv hc e55
  by_cases e56 : (k.i.op : Int) = 56
  · exact do_56 s w hm k hk into hwr hi hv hc e56
  by_cases e57 : (k.i.op : Int) = 57
  · exact do_57 s w hm k hk into hwr hi hv hc e57
  by_cases e58 : (k.i.op : Int) = 58
  · exact do_58 s w hm k hk into hwr hi hv hc e58
  by_cases e59 : (k.i.op : Int) = 59
  · exact do_59 s w hm k hk into hwr hi hv hc e59
  cases hrb : (reck k.i.op k.x k.t k.i.tk.a k.i.tk.imm).2 with
  | true => exact (do_ot s w hm k hk into hwr hi hv (beq_eq_false_iff_ne.2 e66) (beq_eq_false_iff_ne.2 e67) (beq_eq_false_iff_ne.2 e69) (beq_eq_false_iff_ne.2 e28) (beq_eq_false_iff_ne.2 e60) (beq_eq_false_iff_ne.2 e61) (beq_eq_false_iff_ne.2 e62) (beq_eq_false_iff_ne.2 e63) (beq_eq_false_iff_ne.2 e64) (beq_eq_false_iff_ne.2 e65) (beq_eq_false_iff_ne.2 e27) (beq_eq_false_iff_ne.2 e68) (beq_eq_false_iff_ne.2 e14) (beq_eq_false_iff_ne.2 e15) (beq_eq_false_iff_ne.2 e23) (beq_eq_false_iff_ne.2 e24) (beq_eq_false_iff_ne.2 e48) (beq_eq_false_iff_ne.2 e49) (beq_eq_false_iff_ne.2 e50) (beq_eq_false_iff_ne.2 e51) (beq_eq_false_iff_ne.2 e52) (beq_eq_false_iff_ne.2 e53) (beq_eq_false_iff_ne.2 e54) (beq_eq_false_iff_ne.2 e55) (beq_eq_false_iff_ne.2 e56) (beq_eq_false_iff_ne.2 e57) (beq_eq_false_iff_ne.2 e58) (beq_eq_false_iff_ne.2 e59) _ rfl hrb).mono fun e w' ⟨he, hb⟩ => ⟨he, quiet_do hm (by omega) _ _ hb⟩
  | false => exact (do_of s w hm k hk into hwr hi hv (beq_eq_false_iff_ne.2 e66) (beq_eq_false_iff_ne.2 e67) (beq_eq_false_iff_ne.2 e69) (beq_eq_false_iff_ne.2 e28) (beq_eq_false_iff_ne.2 e60) (beq_eq_false_iff_ne.2 e61) (beq_eq_false_iff_ne.2 e62) (beq_eq_false_iff_ne.2 e63) (beq_eq_false_iff_ne.2 e64) (beq_eq_false_iff_ne.2 e65) (beq_eq_false_iff_ne.2 e27) (beq_eq_false_iff_ne.2 e68) (beq_eq_false_iff_ne.2 e14) (beq_eq_false_iff_ne.2 e15) (beq_eq_false_iff_ne.2 e23) (beq_eq_false_iff_ne.2 e24) (beq_eq_false_iff_ne.2 e48) (beq_eq_false_iff_ne.2 e49) (beq_eq_false_iff_ne.2 e50) (beq_eq_false_iff_ne.2 e51) (beq_eq_false_iff_ne.2 e52) (beq_eq_false_iff_ne.2 e53) (beq_eq_false_iff_ne.2 e54) (beq_eq_false_iff_ne.2 e55) (beq_eq_false_iff_ne.2 e56) (beq_eq_false_iff_ne.2 e57) (beq_eq_false_iff_ne.2 e58) (beq_eq_false_iff_ne.2 e59) _ rfl hrb).mono fun e w' ⟨he, hb⟩ => ⟨he, quiet_do hm (by omega) _ _ hb⟩
end Go.Proofs.Ytobnocioefchlaa

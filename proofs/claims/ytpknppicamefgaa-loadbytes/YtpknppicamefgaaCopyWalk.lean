/- A page's copy, walked. -/
import Derived.Test.YtpknppicamefgaaExec
import Derived.Outline
namespace Go.Proofs.Ytpknppicamefgaa
open Go.ChangeShapes Go.WideShapes Go.ChangeAt Go.RowKit
set_option linter.unusedVariables false
/-- What the store into the copy's counter leaves. -/
structure R2 (c : Nat) (l : List UInt8) (p n : Int) (w w' : World) : Prop where
  only : Only c w w'
  any : (∃ m, Pg 109 w c l p m) → ∃ m, Pg 109 w' c l p m
  fin : Pg 109 w c l p n → Pg 109 w' c l p n
theorem R2.refl {c : Nat} {l : List UInt8} {p n : Int} (w : World) : R2 c l p n w w := ⟨Only.refl _ _, id, id⟩
theorem R2.later (c : Nat) (l : List UInt8) (p n : Int) : Later (R2 c l p n) :=
  ⟨fun w => R2.refl w, fun u v w h k => ⟨h.only.trans k.only, fun x => k.any (h.any x), fun x => k.fin (h.fin x)⟩, fun w => ⟨(Only.refl _ w).drew, fun ⟨m, h⟩ => ⟨m, h.same rfl⟩, fun h => h.same rfl⟩⟩
theorem r2_store {c : Nat} {l : List UInt8} {p n m : Int} {w : World} (h : Pg 109 w c l p m) : R2 c l p n w (w.setCell ⟨c, 257, none⟩ (.int .i64 n)) :=
  ⟨(Only.refl _ _).setCell _ _, fun _ => ⟨n, h.setCount n⟩, fun _ => h.setCount n⟩
/-- What the slots of the region hold, whatever the order. -/
def phiBox (b m : Nat) (l : List UInt8) (p : Int) : Nat → Value → World → Prop
  | 0, x, _ => x = .pointer (some ⟨b, 0, none⟩)
  | 1, x, _ => x = .pointer (some ⟨b, 0, none⟩)
  | 2, x, _ => x = .pointer (some ⟨b, 0, none⟩)
  | 3, x, _ => x = .agg (cellsU l).toArray
  | 4, x, _ => x = .pointer (some ⟨b, 0, none⟩)
  | 5, x, _ => x = .pointer (some ⟨b, 0, none⟩)
  | 6, x, _ => x = .pointer (some ⟨b, 256, none⟩)
  | 7, x, _ => x = .int .i64 p
  | 8, x, _ => x = .agg (pcells l p 0)
  | 9, x, w => ∃ g, x = .pointer (some ⟨g, 0, none⟩) ∧ m ≤ g ∧ Pg 109 w g l p 0
  | 10, x, w => ∃ g, x = .pointer (some ⟨g, 0, none⟩) ∧ m ≤ g ∧ Pg 109 w g l p 0
  | _ + 11, _, _ => True
theorem phiBox_mono (b m : Nat) (l : List UInt8) (p : Int) : ∀ i x w w', phiBox b m l p i x w → Below w.heap.size w w' → phiBox b m l p i x w'
  | 0, _, _, _, h, _ => h
  | 1, _, _, _, h, _ => h
  | 2, _, _, _, h, _ => h
  | 3, _, _, _, h, _ => h
  | 4, _, _, _, h, _ => h
  | 5, _, _, _, h, _ => h
  | 6, _, _, _, h, _ => h
  | 7, _, _, _, h, _ => h
  | 8, _, _, _, h, _ => h
  | 9, x, w, w', h, hb => by obtain ⟨g, e, h1, h2⟩ := h; exact ⟨g, e, h1, h2.later hb⟩
  | 10, x, w, w', h, hb => by obtain ⟨g, e, h1, h2⟩ := h; exact ⟨g, e, h1, h2.later hb⟩
  | _ + 11, _, _, _, _, _ => trivial
/-- What the slots of the region hold, whatever the order. -/
def phiStore (b c : Nat) (l : List UInt8) (p n : Int) : Nat → Value → World → Prop
  | 0, x, _ => x = .pointer (some ⟨c, 0, none⟩)
  | 1, x, _ => x = .pointer (some ⟨c, 0, none⟩)
  | 2, x, _ => x = .pointer (some ⟨c, 257, none⟩)
  | 3, x, _ => x = .pointer (some ⟨b, 0, none⟩)
  | 4, x, _ => x = .pointer (some ⟨b, 0, none⟩)
  | 5, x, _ => x = .pointer (some ⟨b, 257, none⟩)
  | 6, x, _ => x = .int .i64 n
  | 7, x, w => x = .tuple #[] ∧ Pg 109 w c l p n
  | _ + 8, _, _ => True
theorem phiStore_mono (b c : Nat) (l : List UInt8) (p n : Int) : ∀ i x w w', phiStore b c l p n i x w → R2 c l p n w w' → phiStore b c l p n i x w'
  | 0, _, _, _, h, _ => h
  | 1, _, _, _, h, _ => h
  | 2, _, _, _, h, _ => h
  | 3, _, _, _, h, _ => h
  | 4, _, _, _, h, _ => h
  | 5, _, _, _, h, _ => h
  | 6, _, _, _, h, _ => h
  | 7, x, w, w', h, hb => ⟨h.1, hb.fin h.2⟩
  | _ + 8, _, _, _, _, _ => trivial
theorem list11 : ∀ xs : List Value, xs.length = 11 → ∃ x0 x1 x2 x3 x4 x5 x6 x7 x8 x9 x10, xs = [x0, x1, x2, x3, x4, x5, x6, x7, x8, x9, x10]
  | [x0, x1, x2, x3, x4, x5, x6, x7, x8, x9, x10], _ => ⟨_, _, _, _, _, _, _, _, _, _, _, rfl⟩
theorem list8 : ∀ xs : List Value, xs.length = 8 → ∃ x0 x1 x2 x3 x4 x5 x6 x7, xs = [x0, x1, x2, x3, x4, x5, x6, x7]
  | [x0, x1, x2, x3, x4, x5, x6, x7], _ => ⟨_, _, _, _, _, _, _, _, rfl⟩
end Go.Proofs.Ytpknppicamefgaa

/-
  Package fount: Symbol.
-/
import Derived.Test.YtgbeklifcchmlaaStr
import Derived.Test.YtgbeklifcchmlaaNil
import Derived.Test.YtgbeklifcchmlaaSpl
import Derived.Test.YtgbeklifcchmlaaDrw
namespace Go.Proofs.Ytgbeklifcchmlaa
open Go.RowKit Go.Deep

/-- The sum of the first t rows of Z, the i-th as often as R i says. -/
def mixTo (R : Nat → Nat) (Z : Nat → Nat → Nat) : Nat → Nat → Nat
  | 0 => fun _ => 0
  | t + 1 => addUp (mixTo R Z t) (Z t) (R t)
/-- Symbol id of the n bytes x in symbols of s bytes. -/
def symOf (f : Nat) (x : Nat → Nat) (n s id : Nat) : Nat → Nat := mixTo (Dice.rowOf f id (cntOf n s)) (piece x n s) (cntOf n s)

/-- Of B and what came behind it, a row of s bytes was answered. -/
def MixAns (w : World) (B s : Nat) (y : Nat → Nat) (e : Ending) (w' : World) : Prop :=
  ∃ b, e = .returned (.slice (some ⟨b, 0, none⟩) s s) ∧ B ≤ b ∧ BytesAt w' (some ⟨b, 0, none⟩) s y ∧ Below w.heap.size w w'

theorem PcsTo.grew {w w' : World} {L n s j : Nat} {x : Nat → Nat} {A : Nat → Value} (h : PcsTo w L n s x j A) (hb : Below w.heap.size w w') : PcsTo w' L n s x j A := fun i hi => by
  obtain ⟨b, h1, h2, h3⟩ := h i hi
  exact ⟨b, h1, h2, h3.grew hb⟩

/-- A symbol was answered. -/
def SymAns (w : World) (s : Nat) (y : Nat → Nat) (e : Ending) (w' : World) : Prop :=
  ∃ b, e = .returned (.tuple #[.slice (some ⟨b, 0, none⟩) s s, .bool true]) ∧ w.heap.size ≤ b ∧ BytesAt w' (some ⟨b, 0, none⟩) s y ∧ Below w.heap.size w w'
/-- No was answered. -/
def SymNo (w : World) (e : Ending) (w' : World) : Prop := e = .returned (.tuple #[.slice none 0 0, .bool false]) ∧ Below w.heap.size w w'

end Go.Proofs.Ytgbeklifcchmlaa

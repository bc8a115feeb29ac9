/-
  Package frame: what its demands come to.
-/
import Derived.Test.YthlidbenhlidjaaFrm
import Derived.Test.YthlidbenhlidjaaCnt
namespace Go.Proofs.Ythlidbenhlidjaa
open Go.RowKit Go.Deep

/-- Kind and times that a frame may have. -/
def Fr.terms (f : Fr) : Prop := (f.k = 1 ∨ f.k = 2 ∨ f.k = 3) ∧ 0 ≤ f.p ∧ f.p ≤ f.d ∧ f.d ≤ 1099511627776
/-- The world with a variable that holds f. -/
theorem box_below (w : World) (B : Obj) : Below w.heap.size w (w.alloc B) := (Below.refl _ _).alloc (Nat.le_refl _) _

/-- Bytes that can be cut in such symbols. -/
def cuts (n s : Int) : Prop := 1 ≤ s ∧ s ≤ 64 ∧ 1 ≤ n ∧ n ≤ 32 * s
/-- Behind the last of the known ones. -/
def Fr.turn (f : Fr) (m : Nat) (K : Nat → Fr) : Prop := m = 0 ∨ ((K (m - 1)).id < f.id ∧ (K (m - 1)).p ≤ f.p ∧ (K (m - 1)).d ≤ f.d)
end Go.Proofs.Ythlidbenhlidjaa

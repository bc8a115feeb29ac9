/-
  Package cut: what its panics come to at the face: Count.
-/
import Derived.Test.YtclbcggbnbimaaaMem
import Derived.Defers
import Derived.Recover
namespace Go.Proofs.Ytclbcggbnbimaaa
open Go.RowKit Go.Deep

/-- How many symbols of s bytes n bytes have. -/
def cntOf (n s : Nat) : Nat := (n + s - 1) / s
theorem cntOf_cast (n s : Nat) (h : 1 ≤ s) : ((n : Int) + (s : Int) - 1) / (s : Int) = (cntOf n s : Int) := by
  unfold cntOf
  rw [Int.natCast_ediv, show ((n + s - 1 : Nat) : Int) = (n : Int) + (s : Int) - 1 by omega]

/-- Two new variables, at B and B + 1. -/
structure Duo (w : World) (B : Nat) (x y : Value) : Prop where
  fst : w.cell? ⟨B, 0, none⟩ = some x
  fstT : w.frozen? ⟨B, 0, none⟩ = false
  snd : w.cell? ⟨B + 1, 0, none⟩ = some y
  sndT : w.frozen? ⟨B + 1, 0, none⟩ = false
theorem Duo.ne (B : Nat) : (⟨B, 0, none⟩ : Addr) ≠ ⟨B + 1, 0, none⟩ := fun e => by have := (Addr.mk.inj e).1; omega
theorem Duo.grew {w w' : World} {B : Nat} {x y : Value} (h : Duo w B x y) (hb : Below w.heap.size w w') : Duo w' B x y :=
  ⟨(hb.cell (p := ⟨B, 0, none⟩) (cell_lt h.fst)).trans h.fst, (World.frozen?_of_block (a := ⟨B, 0, none⟩) (hb.block B (cell_lt h.fst))).trans h.fstT,
   (hb.cell (p := ⟨B + 1, 0, none⟩) (cell_lt h.snd)).trans h.snd, (World.frozen?_of_block (a := ⟨B + 1, 0, none⟩) (hb.block (B + 1) (cell_lt h.snd))).trans h.sndT⟩
theorem Duo.made (w : World) (x y : Value) (t u : TypeId) : Duo ((w.alloc (.cells #[x] t)).alloc (.cells #[y] u)) w.heap.size x y :=
  ⟨by simp, by simp, by simp, by simp⟩
theorem Duo.set {w : World} {B : Nat} {x y : Value} (h : Duo w B x y) (x' y' : Value) : Duo ((w.setCell ⟨B, 0, none⟩ x').setCell ⟨B + 1, 0, none⟩ y') B x' y' := by
  have e : (w.setCell ⟨B, 0, none⟩ x').cell? ⟨B + 1, 0, none⟩ = some y := (World.cell?_setCell_other _ _ _ _ (Duo.ne B)).trans h.snd
  refine ⟨?_, ?_, World.cell?_setCell_same _ _ _ e, ?_⟩
  · rw [World.cell?_setCell_other _ _ _ _ (Ne.symm (Duo.ne B))]
    exact World.cell?_setCell_same _ _ _ h.fst
  · simpa using h.fstT
  · simpa using h.sndT

end Go.Proofs.Ytclbcggbnbimaaa

/-
  Copy: another Basis with the same rows.
-/
import Derived.Test.YtdlalcbcgdambaaSol
namespace Go.Proofs.Ytdlalcbcgdambaa
open Go.RowKit Go.Deep

/-- A Basis with the same rows was answered. -/
def Copied (w : World) (k size : Nat) (S : Nat → Option (Nat → Nat)) (e : Ending) (w' : World) : Prop :=
  ∃ B R, e = .returned (.pointer (some ⟨B, 0, none⟩)) ∧ w.heap.size ≤ B ∧ w.heap.size ≤ R ∧ BasisAt w' B R k size S ∧ Below w.heap.size w w'
/-- The rows behind j rounds. -/
def copyTo (S : Nat → Option (Nat → Nat)) (j i : Nat) : Option (Nat → Nat) := if i < j then S i else none
theorem copyTo_next (S : Nat → Option (Nat → Nat)) (j i : Nat) : copyTo S (j + 1) i = if i = j then S j else copyTo S j i := by
  unfold copyTo
  by_cases e : i = j
  · subst e; rw [if_pos (by omega), if_pos rfl]
  · rw [if_neg e]
    by_cases e2 : i < j
    · rw [if_pos e2, if_pos (by omega)]
    · rw [if_neg e2, if_neg (by omega)]

/-- What the copying reads. -/
def Reads (B R k size : Nat) (cs : List Value) (w : World) : Prop :=
  w.rangeAt B 0 cs ∧ w.cell? ⟨B, 766, none⟩ = some (.int .i64 (size : Int)) ∧ w.cell? ⟨B, 767, none⟩ = some (.slice (some ⟨R, 0, none⟩) k k)
theorem Reads.alloc {B R k size : Nat} {cs : List Value} {w : World} (h : Reads B R k size cs w) (o : Obj) : Reads B R k size cs (w.alloc o) :=
  ⟨World.rangeAt_alloc h.1 _, Go.Lib.cell?_alloc_some _ h.2.1, Go.Lib.cell?_alloc_some _ h.2.2⟩

end Go.Proofs.Ytdlalcbcgdambaa

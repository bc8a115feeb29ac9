/-
  A Basis at work: made, Rank, eliminate, put, Add.
-/
import Derived.Test.YtdlalcbcgdambaaBas
namespace Go.Proofs.Ytdlalcbcgdambaa
open Go.RowKit Go.Deep

/-- How many places below k have a row. -/
def rankTo (S : Nat → Option (Nat → Nat)) : Nat → Nat
  | 0 => 0
  | k + 1 => rankTo S k + (if (S k).isSome then 1 else 0)
theorem rankTo_le (S : Nat → Option (Nat → Nat)) (k : Nat) : rankTo S k ≤ k := by
  induction k with
  | zero => exact Nat.le_refl _
  | succ k ih => unfold rankTo; split <;> omega

/-- The value at a place. -/
theorem BasisAt.place {w : World} {B R k size : Nat} {S : Nat → Option (Nat → Nat)} (h : BasisAt w B R k size S) (i : Nat) (hi : i < k) :
    ∃ v, w.cell? ⟨R, i, none⟩ = some v ∧ RowVal w (k + size) v (S i) ∧ w.frozen? ⟨R, i, none⟩ = false := by
  obtain ⟨A, hr, hv⟩ := h.room
  exact ⟨A i, hr.cell hi, hv i hi, hr.frozen i⟩

/-- What is left of a row behind the first i places. -/
def elimTo (S : Nat → Option (Nat → Nat)) (r : Nat → Nat) : Nat → Nat → Nat
  | 0 => r
  | i + 1 => match S i with
    | none => elimTo S r i
    | some t => addUp (elimTo S r i) t (elimTo S r i i)

/-- A row of n bytes was answered, new or not; what lay there lies there. -/
def RowLeft (w : World) (n : Nat) (x : Nat → Nat) (e : Ending) (w' : World) : Prop :=
  ∃ b c, e = .returned (.slice (some ⟨b, 0, none⟩) n c) ∧ n ≤ c ∧ BytesAt w' (some ⟨b, 0, none⟩) n x ∧ Below w.heap.size w w'

end Go.Proofs.Ytdlalcbcgdambaa

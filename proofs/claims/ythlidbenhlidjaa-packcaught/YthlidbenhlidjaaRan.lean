/-
  How many places have a row. Plain mathematics.
-/
import Derived.Test.YthlidbenhlidjaaGf
namespace Go.Proofs.Ythlidbenhlidjaa

/-- How many places below k have a row. -/
def rankTo (S : Nat → Option (Nat → Nat)) : Nat → Nat
  | 0 => 0
  | k + 1 => rankTo S k + (if (S k).isSome then 1 else 0)
theorem rankTo_le (S : Nat → Option (Nat → Nat)) (k : Nat) : rankTo S k ≤ k := by
  induction k with
  | zero => exact Nat.le_refl _
  | succ k ih => unfold rankTo; split <;> omega
theorem rank_full (S : Nat → Option (Nat → Nat)) : ∀ k, rankTo S k = k → ∀ i, i < k → ∃ r, S i = some r := by
  intro k
  induction k with
  | zero => intro _ i hi; omega
  | succ k ih =>
    intro h i hi
    have hl := rankTo_le S k
    unfold rankTo at h
    cases hS : S k with
    | none => rw [hS] at h; simp at h; omega
    | some r =>
      rw [hS] at h
      simp at h
      by_cases e : i = k
      · subst e; exact ⟨r, hS⟩
      · exact ih h i (by omega)
end Go.Proofs.Ythlidbenhlidjaa

/-
  Add: a row that says more is there behind it; one that does not, or of another length, is not.
-/
import Derived.Test.YtdlalcbcgdambaaPut
namespace Go.Proofs.Ytdlalcbcgdambaa
open Go.RowKit Go.Deep

/-- What Add answers and leaves: v is the row with its data behind it. -/
def addOf (S : Nat → Option (Nat → Nat)) (k : Nat) (v : Nat → Nat) : Bool × (Nat → Option (Nat → Nat)) :=
  let rest := elimTo S v k
  let p := leadOf rest k 0
  if p < 0 then (false, S) else (true, putS S (unitRow rest p.toNat) p.toNat)

theorem leadOf_spec (x : Nat → Nat) : ∀ (f i : Nat), (leadOf x f i = -1 ∧ ∀ j, i ≤ j → j < i + f → x j = 0) ∨ ∃ p : Nat, leadOf x f i = (p : Int) ∧ i ≤ p ∧ p < i + f ∧ x p ≠ 0 ∧ ∀ j, i ≤ j → j < p → x j = 0 := by
  intro f
  induction f with
  | zero => intro i; exact .inl ⟨rfl, fun j h1 h2 => by omega⟩
  | succ f ih =>
    intro i
    unfold leadOf
    by_cases h : x i = 0
    · rw [if_pos h]
      rcases ih (i + 1) with ⟨h1, h2⟩ | ⟨p, h1, h2, h3, h4, h5⟩
      · refine .inl ⟨h1, fun j g1 g2 => ?_⟩
        by_cases e : j = i
        · subst e; exact h
        · exact h2 j (by omega) (by omega)
      · refine .inr ⟨p, h1, by omega, by omega, h4, fun j g1 g2 => ?_⟩
        by_cases e : j = i
        · subst e; exact h
        · exact h5 j (by omega) g2
    · rw [if_neg h]
      exact .inr ⟨i, rfl, Nat.le_refl _, by omega, h, fun j g1 g2 => by omega⟩

/-- What Add leaves. -/
def Added (w : World) (B R k size : Nat) (S : Nat → Option (Nat → Nat)) (v : Nat → Nat) (e : Ending) (w' : World) : Prop :=
  e = .returned (.bool (addOf S k v).1) ∧ BasisAt w' B R k size (addOf S k v).2 ∧ Kept R w w'

theorem pair_cells (w : World) (u v : Value) : (w.alloc (.cells #[u, v] 24)).cell? ⟨w.heap.size, 0, none⟩ = some u ∧ (w.alloc (.cells #[u, v] 24)).cell? ⟨w.heap.size, 1, none⟩ = some v := by
  constructor <;> (rw [World.cell?_alloc_at _ _ _ _ rfl]; rfl)

end Go.Proofs.Ytdlalcbcgdambaa

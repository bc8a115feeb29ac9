/-
  What came in as a slice of bools: read as a plain function. No program.
-/
import Derived.Test.YtjmfhkpaloipkaaOpn
namespace Go.Proofs.Ytjmfhkpaloipkaa
open Go.ChangeShapes Go.WideShapes Go.RowKit Go.Deep

section
variable {H : Type} {enc : TypeId × Value → H} {P : Program} {w : World} {base : Nat} {spare : Nat → Bool} {held : Bool}
/-- The slice's address a leads to len bools: the i-th is z i. -/
def FlagsAt (w : World) (a : Option Addr) (len : Nat) (z : Nat → Bool) : Prop :=
  0 < len → ∃ b o, a = some ⟨b, o, none⟩ ∧ ∀ i, i < len → w.cell? ⟨b, o + i, none⟩ = some (.bool (z i))
theorem FlagsAt.below {w w' : World} {a : Option Addr} {len B : Nat} {z : Nat → Bool} (h : FlagsAt w a len z) (hb : Below B w w') (hB : w.heap.size ≤ B) : FlagsAt w' a len z := fun h0 => by
  obtain ⟨b, o, e, hc⟩ := h h0
  exact ⟨b, o, e, fun i hi => (hb.cell (p := ⟨b, o + i, none⟩) (Nat.lt_of_lt_of_le (cell_lt (hc i hi)) hB)).trans (hc i hi)⟩
theorem open_flags {t e : TypeId} {a : Option Addr} {len cap : Nat} {d : DataW H} {ps : List MemPlace} (ht : P.underlying t = some (.slice e)) (he : P.underlying e = some .bool) (hc : P.cellsOf e = 1)
    (h : DataW.Trod enc P w 0 (fun _ => true) true t (.slice a len cap) d ps) : ∃ z, FlagsAt w a len z ∧ len ≤ cap ∧ cap ≤ maxLen := by
  obtain ⟨fuel, hf⟩ := h
  rcases open_slice ht hf with ⟨hcs, -⟩ | ⟨x, l, c, m, k, D, Pl, hcs, -, hl, hm, hmm, -, hi⟩
  · simp [Value.cells] at hcs
    obtain ⟨rfl, rfl, rfl⟩ := hcs
    exact ⟨fun _ => false, fun h => absurd h (by omega), by omega, by unfold maxLen; omega⟩
  · simp [Value.cells] at hcs
    obtain ⟨rfl, rfl, rfl⟩ := hcs
    simp only [if_true] at hmm
    subst hmm
    have each : ∀ i, i < len → ∃ z : Bool, w.cell? (x.add i) = some (.bool z) := by
      intro i h0
      obtain ⟨cs', h1, h2⟩ := hi i (by omega)
      rw [hc, Nat.mul_one] at h1
      obtain ⟨-, -, h5⟩ := World.cells?_some h1
      obtain ⟨z, e1, -⟩ := DataW.trod_bool he h2
      refine ⟨z, ?_⟩
      have h6 := h5 0 (by omega)
      rw [e1] at h6
      exact h6
    obtain ⟨f, hf⟩ := choose_lt each
    refine ⟨f, fun h0 => ?_, hl, hm⟩
    have hs := hf 0 h0
    have hx : x.spot = none := addr_plain (w := w) (x := x) hs
    obtain ⟨b, o, s⟩ := x
    simp only at hx
    subst hx
    refine ⟨b, o, rfl, fun i h1 => ?_⟩
    have := hf i h1
    rwa [show (⟨b, o, none⟩ : Addr).add i = ⟨b, o + i, none⟩ by unfold Addr.add; split <;> simp_all] at this
end
end Go.Proofs.Ytjmfhkpaloipkaa

/-
  A slice of integers of any kind that came in, read as a plain function. No program.
-/
import Derived.Test.YtijjhjlopfbeiaaDoorMem
namespace Go.Proofs.YtijjhjlopfbeiaaDoor
open Go.RowKit Go.Deep

/-- The slice's address a leads to n integers of the kind κ: the i-th is x i. -/
def NumsAt (κ : IntKind) (w : World) (a : Option Addr) (n : Nat) (x : Nat → Int) : Prop :=
  0 < n → ∃ b o, a = some ⟨b, o, none⟩ ∧ ∀ i, i < n → w.cell? ⟨b, o + i, none⟩ = some (.int κ (x i))
theorem NumsAt.below {κ : IntKind} {w w' : World} {a : Option Addr} {n B : Nat} {x : Nat → Int} (h : NumsAt κ w a n x) (hb : Below B w w') (hB : w.heap.size ≤ B) : NumsAt κ w' a n x := fun hn => by
  obtain ⟨b, o, e, hc⟩ := h hn
  exact ⟨b, o, e, fun i hi => (hb.cell (p := ⟨b, o + i, none⟩) (Nat.lt_of_lt_of_le (cell_lt (hc i hi)) hB)).trans (hc i hi)⟩
theorem nums_cell {κ : IntKind} {w : World} {b o n : Nat} {x : Nat → Int} (h : NumsAt κ w (some ⟨b, o, none⟩) n x) (i : Nat) (hi : i < n) : w.cell? ⟨b, o + i, none⟩ = some (.int κ (x i)) := by
  obtain ⟨b', o', e, hc⟩ := h (by omega)
  cases e
  exact hc i hi
/-- What the guide's shell tells of a slice of integers that came in. -/
def CameAs (κ : IntKind) (w : World) (a : Option Addr) (len cap : Nat) (zs : List Int) : Prop :=
  (a = none ∧ len = 0 ∧ cap = 0 ∧ zs = []) ∨
  ∃ x, a = some x ∧ len ≤ cap ∧ cap ≤ maxLen ∧ zs.length = cap ∧ (∀ i, i < zs.length → w.cell? (x.add i) = some (.int κ (zs.getD i 0))) ∧ ∀ n ∈ zs, (Lit.int κ n).wf = true
theorem CameAs.nums {κ : IntKind} {w : World} {a : Option Addr} {len cap : Nat} {zs : List Int} (h : CameAs κ w a len cap zs) :
    NumsAt κ w a len (fun i => zs[i]?.getD 0) ∧ ∀ n ∈ zs, (Lit.int κ n).wf = true := by
  rcases h with ⟨rfl, rfl, rfl, rfl⟩ | ⟨x, rfl, h1, h2, h3, h4, h5⟩
  · exact ⟨fun h => absurd h (by omega), fun n hn => by cases hn⟩
  · refine ⟨fun hn => ?_, h5⟩
    obtain ⟨b, o, s⟩ := x
    have hz := h4 0 (by omega)
    have e0 : (⟨b, o, s⟩ : Addr).add 0 = ⟨b, o, s⟩ := rfl
    rw [e0] at hz
    have hs : s = none := addr_plain hz
    subst hs
    refine ⟨b, o, rfl, fun i hi => ?_⟩
    have hc := h4 i (by omega)
    have ea : (⟨b, o, none⟩ : Addr).add i = ⟨b, o + i, none⟩ := by unfold Addr.add; split <;> simp_all
    rw [ea] at hc
    rw [hc]
    rfl
end Go.Proofs.YtijjhjlopfbeiaaDoor

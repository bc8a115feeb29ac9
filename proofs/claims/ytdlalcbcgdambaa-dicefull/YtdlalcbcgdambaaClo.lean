/-
  Small contracts of the standard library's rows of bytes that package basis leans on: Clone, Grow, Concat of two rows, IndexFunc for the first byte that is not 0.
-/
import Derived.Test.YtdlalcbcgdambaaStr
import Derived.Lib.AppendZeros
import Derived.Lib.SliceRun
import Derived.Deep.MidRow
namespace Go.Proofs.Ytdlalcbcgdambaa
open Go.RowKit Go.Deep

/-- The first k numbers of x, as cells. -/
def cellsAt (x : Nat → Nat) (o k : Nat) : List Value := (List.range k).map fun i => .int .u8 (x (o + i))
theorem cellsAt_len (x : Nat → Nat) (o k : Nat) : (cellsAt x o k).length = k := by simp [cellsAt]
theorem cellsAt_get (x : Nat → Nat) (o k j : Nat) (v : Value) (h : (cellsAt x o k)[j]? = some v) : j < k ∧ v = .int .u8 (x (o + j)) := by
  have hj : j < k := by have := (List.getElem?_eq_some_iff.1 h).1; rwa [cellsAt_len] at this
  refine ⟨hj, ?_⟩
  simp [cellsAt, hj] at h
  exact h.symm
theorem cellsAt_one (x : Nat → Nat) (o k : Nat) : ∀ u ∈ cellsAt x o k, u.oneCell' = true := by
  intro u hu
  obtain ⟨i, _, rfl⟩ := List.mem_map.1 hu
  rfl

/-- A row of the call's own, that is not nil, read as bytes. -/
theorem own_at {w : World} {base e : Nat} {v : Value} {n : Nat} {x : Nat → Nat} (h : w.ownsRow base e 1 v n (cellsAt x 0 n)) (hv : v ≠ .slice none 0 0) (hx : ∀ i, i < n → x i < 256) :
    ∃ g c, v = .slice (some ⟨g, 0, none⟩) n c ∧ base ≤ g ∧ n ≤ c ∧ BytesAt w (some ⟨g, 0, none⟩) n x ∧ g < w.heap.size := by
  obtain ⟨h1, h2⟩ := h
  rcases h2 with ⟨rfl, rfl⟩ | ⟨g, cap, cur, rfl, hb, hh, hle, hm, hs, ht⟩
  · exact absurd rfl hv
  · refine ⟨g, cap, rfl, hb, hle, ⟨fun _ => ⟨g, 0, rfl, fun i hi => ?_⟩, hx⟩, ?_⟩
    · have e : cur.toList[i]? = some (.int .u8 (x i)) := by
        have : (cur.toList.take (n * 1))[i]? = cur.toList[i]? := by rw [List.getElem?_take_of_lt (by omega)]
        rw [← this, ht]
        simp [cellsAt, hi]
      simp [World.cell?, hh]
      simpa using e
    · have := (Array.getElem?_eq_some_iff.1 hh).1
      exact this

/-- A new row of n bytes, the i-th x i, was made and answered. -/
def NewRow (w : World) (n : Nat) (x : Nat → Nat) (e : Ending) (w' : World) : Prop :=
  ∃ g c, e = .returned (.slice (some ⟨g, 0, none⟩) n c) ∧ w.heap.size ≤ g ∧ n ≤ c ∧ BytesAt w' (some ⟨g, 0, none⟩) n x ∧ Below w.heap.size w w'

end Go.Proofs.Ytdlalcbcgdambaa

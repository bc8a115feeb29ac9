/-
  slices.Grow of nil and slices.Concat of two rows, and the first byte that is not 0.
-/
import Derived.Test.YtdlalcbcgdambaaClo
namespace Go.Proofs.Ytdlalcbcgdambaa
open Go.RowKit Go.Deep

/-- A row without elements, with room, was made and answered. -/
def NewRoom (w : World) (e : Ending) (w' : World) : Prop :=
  ∃ v, e = .returned v ∧ v ≠ .slice none 0 0 ∧ w'.ownsRow w.heap.size 5 1 v 0 [] ∧ Below w.heap.size w w'

theorem slice_all (a : Option Addr) (len cap n : Nat) (w : World) (h : n ≤ cap) : (Instr.slice 24 (.slice a len cap) none (some (.int .i64 (n : Int))) none).run Try.prog w = .ok (.slice a n cap) w := slice_to a len cap n w h

/-- Two rows, one behind the other. -/
def cat (x y : Nat → Nat) (n : Nat) (i : Nat) : Nat := if i < n then x i else y (i - n)
theorem cat_cells (x y : Nat → Nat) (n m : Nat) : cellsAt x 0 n ++ cellsAt y 0 m = cellsAt (cat x y n) 0 (n + m) := by
  refine List.ext_getElem? fun i => ?_
  by_cases h : i < n
  · rw [List.getElem?_append_left (by rw [cellsAt_len]; exact h)]
    simp [cellsAt, h, show i < n + m by omega, cat]
  · rw [List.getElem?_append_right (by rw [cellsAt_len]; omega), cellsAt_len]
    by_cases g : i < n + m
    · simp [cellsAt, g, show i - n < m by omega, cat, h]
    · simp [cellsAt, g, show ¬ i - n < m by omega]

theorem bytes_some {w : World} {a : Option Addr} {n : Nat} {x : Nat → Nat} (h : BytesAt w a n x) (h0 : 0 < n) : ∃ b o, a = some ⟨b, o, none⟩ := by
  obtain ⟨b, o, e, -⟩ := h.cells h0
  exact ⟨b, o, e⟩
theorem bytes_cell {w : World} {b o n : Nat} {x : Nat → Nat} (h : BytesAt w (some ⟨b, o, none⟩) n x) (i : Nat) (hi : i < n) : w.cell? ⟨b, o + i, none⟩ = some (.int .u8 (x i)) := by
  obtain ⟨b', o', e, hc⟩ := h.cells (by omega)
  cases e
  exact hc i hi

theorem cat_lt {x y : Nat → Nat} {n m : Nat} (hx : ∀ i, i < n → x i < 256) (hy : ∀ i, i < m → y i < 256) : ∀ i, i < n + m → cat x y n i < 256 := by
  intro i hi
  unfold cat
  split
  · exact hx i (by omega)
  · exact hy _ (by omega)
theorem own_ge {w : World} {base e s : Nat} {v : Value} {n : Nat} {xs : List Value} (h : w.ownsRow base e s v n xs) : ∀ k, v.ownBlock = some k → base ≤ k := by
  intro k hk
  rcases h.2 with ⟨rfl, -⟩ | ⟨g, cap, cur, rfl, hb, -⟩
  · simp [Value.ownBlock] at hk
  · simp [Value.ownBlock] at hk; omega

/-- What 'lead' answers: the first place that is not 0, or -1. -/
def leadOf (x : Nat → Nat) : Nat → Nat → Int
  | 0, _ => -1
  | f + 1, i => if x i = 0 then leadOf x f (i + 1) else (i : Int)

end Go.Proofs.Ytdlalcbcgdambaa

/-
  A Basis's own block: how 766 cells of a field, a size and a room are read and laid at once.
-/
import Derived.Test.YtdlalcbcgdambaaCon
import Derived.Deep.MidRow
import Derived.Laws.Tables
namespace Go.Proofs.Ytdlalcbcgdambaa
open Go.RowKit Go.Deep

/-- The cells of a field with its tables. -/
def fieldCells : List Value := (List.range 510).map (fun i => Value.int .u8 (Gf.pw i)) ++ (List.range 256).map (fun a => Value.int .u8 (Gf.lg a))
theorem fieldCells_len : fieldCells.length = 766 := by simp [fieldCells]
theorem fieldCells_pw (i : Nat) (h : i < 510) : fieldCells[i]? = some (.int .u8 (Gf.pw i)) := by
  unfold fieldCells
  rw [List.getElem?_append_left (by simpa using h)]
  simp [h]
theorem fieldCells_lg (a : Nat) (h : a < 256) : fieldCells[510 + a]? = some (.int .u8 (Gf.lg a)) := by
  unfold fieldCells
  rw [List.getElem?_append_right (by simp)]
  simp [h]
theorem FieldAt.range {w : World} {p : Nat} (h : FieldAt w p) : w.rangeAt p 0 fieldCells := by
  intro j v hj
  have hl : j < 766 := by have := (List.getElem?_eq_some_iff.1 hj).1; rwa [fieldCells_len] at this
  rw [Nat.zero_add]
  by_cases g : j < 510
  · rw [fieldCells_pw j g] at hj
    rw [h.powers j g, hj]
  · obtain ⟨a, rfl⟩ : ∃ a, j = 510 + a := ⟨j - 510, by omega⟩
    rw [fieldCells_lg a (by omega)] at hj
    rw [h.logs a (by omega), hj]

/-- The cells of a Basis. -/
def basisCells (size : Int) (R k : Nat) : List Value := fieldCells ++ [.int .i64 size, .slice (some ⟨R, 0, none⟩) k k]

def basisZero : Array Value := Array.replicate 766 (.int .u8 0) ++ #[.int .i64 0, .slice none 0 0]
theorem fold_size (cs : List Value) : ∀ (s off : Nat) (a : Array Value), ((cs.zipIdx s).foldl (fun acc p => acc.setIfInBounds (off + p.2) p.1) a).size = a.size := by
  induction cs with
  | nil => intro s off a; rfl
  | cons c cs ih => intro s off a; rw [List.zipIdx_cons, List.foldl_cons, ih]; simp
theorem fold_get (cs : List Value) : ∀ (s off : Nat) (a : Array Value), off + s + cs.length ≤ a.size → ∀ i,
    ((cs.zipIdx s).foldl (fun acc p => acc.setIfInBounds (off + p.2) p.1) a)[i]? = if off + s ≤ i ∧ i < off + s + cs.length then cs[i - (off + s)]? else a[i]? := by
  induction cs with
  | nil => intro s off a _ i; simp; intro h1 h2; omega
  | cons c cs ih =>
    intro s off a h i
    simp only [List.length_cons] at h
    rw [List.zipIdx_cons, List.foldl_cons, ih (s + 1) off _ (by simp; omega) i]
    simp only [List.length_cons]
    by_cases h1 : off + (s + 1) ≤ i ∧ i < off + (s + 1) + cs.length
    · rw [if_pos h1, if_pos (by omega), show i - (off + s) = (i - (off + (s + 1))) + 1 by omega, List.getElem?_cons_succ]
    · rw [if_neg h1]
      by_cases h2 : i = off + s
      · subst h2
        rw [if_pos (by omega), Nat.sub_self, Array.getElem?_setIfInBounds, if_pos rfl, if_pos (by omega)]
        rfl
      · rw [if_neg (by omega), Array.getElem?_setIfInBounds, if_neg (by omega)]

/-- What a part of a struct leaves of the cells. -/
def laid (off : Nat) (cs : List Value) (a : Array Value) : Array Value := (cs.zipIdx 0).foldl (fun acc p => acc.setIfInBounds (off + p.2) p.1) a
theorem laid_eq (off : Nat) (cs : List Value) (a : Array Value) : cs.toArray.zipIdx.foldl (fun acc (c, j) => acc.setIfInBounds (off + j) c) a = laid off cs a := by
  unfold laid
  rw [← Array.foldl_toList]
  simp
theorem laid_size (off : Nat) (cs : List Value) (a : Array Value) : (laid off cs a).size = a.size := fold_size cs 0 off a
theorem laid_get (off : Nat) (cs : List Value) (a : Array Value) (h : off + cs.length ≤ a.size) (i : Nat) : (laid off cs a)[i]? = if off ≤ i ∧ i < off + cs.length then cs[i - off]? else a[i]? := by
  have := fold_get cs 0 off a (by omega) i
  simpa [laid] using this

theorem fill_step (place : Nat → Option (Nat × Nat)) (a : Array Value) (i off size : Nat) (v : Value) (cs : List Value) (rest : List (Nat × Value)) (hp : place i = some (off, size)) (hv : v.cells = cs.toArray) (hs : cs.length = size) (ho : off + size ≤ a.size) :
    Instr.fill place a ((i, v) :: rest) = Instr.fill place (laid off cs a) rest := by
  have h1 : ¬ (cs.toArray.size ≠ size || decide (off + cs.toArray.size > a.size)) = true := by
    simp [hs]; omega
  rw [Instr.fill, hp]
  simp only [hv]
  rw [if_neg h1, laid_eq]

end Go.Proofs.Ytdlalcbcgdambaa

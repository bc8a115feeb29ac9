/-
  What the statements on bytes that are handed in lean on: bytes lent with others behind them, and whether both are whole.
-/
import Derived.Test.YtdlalcbcgdambaaStr
namespace Go.Proofs.Ytdlalcbcgdambaa
open Go.RowKit Go.Deep

def behind : ByteArray := ⟨#[90, 165, 15, 240, 51]⟩
def behindAt (i : Nat) : Nat := ([90, 165, 15, 240, 51] : List Nat).getD i 0
/-- The bytes lent: n of x, and those behind them. -/
def lentOf (x : Nat → Nat) (n i : Nat) : Nat := if i < n then x i else behindAt (i - n)

theorem behindAt_lt (i : Nat) : behindAt i < 256 := by
  by_cases h : i < 5
  · have := Gf.all_of (n := 5) (p := fun i => decide (behindAt i < 256)) (by decide) i h
    simpa using this
  · unfold behindAt; rw [List.getD_eq_getElem?_getD, List.getElem?_eq_none (by simp; omega)]; decide


end Go.Proofs.Ytdlalcbcgdambaa

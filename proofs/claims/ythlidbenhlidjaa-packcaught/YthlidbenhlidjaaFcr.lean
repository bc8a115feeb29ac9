/-
  Package frame: whom a frame may hang on.
-/
import Derived.Test.YthlidbenhlidjaaFck
namespace Go.Proofs.Ythlidbenhlidjaa
open Go.RowKit Go.Deep

set_option maxRecDepth 100000 in
theorem uslice_to (a : Option Addr) (len cap n : Nat) (w : World) (h : n ≤ cap) : (Instr.slice 23 (.slice a len cap) none (some (.int .i64 (n : Int))) none).run Try.prog w = .ok (.slice a n cap) w := by
  have hz : ∀ x : Addr, x.add 0 = x := fun _ => rfl
  have e := run_slice_h (P := Try.prog) w 23 a len cap Try.underlying23 .i64 (n : Int) (by omega) (by omega)
  rw [e]
  simp [sliced, hz]
  have hs : (sizeOf (Try.prog.elem 23)).run Try.prog w = .ok 1 w := by kernel_rfl
  rw [hs]
  rfl
/-- The first of n places that has it, or -1. -/
def Finds (n : Nat) (p : Nat → Prop) (e : Ending) : Prop := (∃ j : Nat, j < n ∧ p j ∧ e = .returned (.int .i64 (j : Int))) ∨ ((∀ j, j < n → ¬ p j) ∧ e = .returned (.int .i64 (-1)))
/-- A bool that tells p. -/
def Tells (w : World) (p : Prop) (e : Ending) (w' : World) : Prop := Below w.heap.size w w' ∧ ∃ b : Bool, e = .returned (.bool b) ∧ (b = true ↔ p)

/-- The i-th that a frame hangs on is none of those ahead, and known. -/
def good (r : Nat → Int) (m : Nat) (K : Nat → Fr) (i : Nat) : Prop := (∀ j, j < i → r j ≠ r i) ∧ ∃ q, q < m ∧ ((K q).id : Int) = r i
/-- A frame that hangs on whom it may. -/
def Fr.refs (f : Fr) (r : Nat → Int) (m : Nat) (K : Nat → Fr) : Prop := (f.k = 1 ∧ f.n = 0) ∨ (f.k ≠ 1 ∧ 1 ≤ f.n ∧ f.n ≤ 4 ∧ ∀ i, i < f.n → good r m K i)
theorem NumsAt.take {κ : IntKind} {w : World} {a : Option Addr} {n k : Nat} {x : Nat → Int} (h : NumsAt κ w a n x) (hk : k ≤ n) : NumsAt κ w a k x := fun h0 => by
  obtain ⟨b, o, e, hc⟩ := h (by omega)
  exact ⟨b, o, e, fun i hi => hc i (by omega)⟩

end Go.Proofs.Ythlidbenhlidjaa

/-
  Keys of maps: numbers of 32 bits; a map that was written has as many blocks beside it as before.
-/
import Derived.Maps.OwnSet
import Derived.Test.YtjmfhkpaloipkaaMem
namespace Go.Proofs.Ytjmfhkpaloipkaa
open Go.RowKit Go.Deep Go.Maps

theorem u32_wf (x : Nat) (h : x < 4294967296) : (Lit.int .u32 (x : Int)).wf = true := WalkArith.wf_u32 (by omega)
theorem i64_wf (q : Nat) (h : q ≤ 1000000) : (Lit.int .i64 (q : Int)).wf = true := WalkArith.wf_i64 (by omega)
theorem Try.keyU32 : Keyed Try.prog 28 := int_keyed Try.underlying28
theorem key_u32 (x : Nat) (h : x < 4294967296) : keyOf Try.prog 28 (.int .u32 (x : Int)) = some (.int .u32 (x : Int)) := keyOf_int_mk Try.underlying28 (u32_wf x h)
theorem lit_ne {x y : Nat} (h : x ≠ y) : (Lit.int .u32 (x : Int)) ≠ .int .u32 (y : Int) := fun e => h (by injection e with _ e; omega)
theorem turned_size {w w' : World} {b : Nat} (h : w.mapTurned w' b) : w'.heap.size = w.heap.size := by
  obtain ⟨es, clock, es', clock', -, rfl⟩ := h
  show (Array.setIfInBounds _ _ _).size = _
  rw [Array.size_setIfInBounds]
end Go.Proofs.Ytjmfhkpaloipkaa

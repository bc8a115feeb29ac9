/-
  Package serial: how far numbers that go round are apart, and an Ext in memory, which makes numbers of them that don't.
-/
import Derived.Test.YtmgphmjfgoljcaaMem
namespace Go.Proofs.Ytmgphmjfgoljcaa
open Go.RowKit Go.Deep

namespace Ser
/-- How far b is behind a, with a sign. -/
def dif (a b : Nat) : Int := if ((b : Int) - a) % 65536 < 32768 then ((b : Int) - a) % 65536 else ((b : Int) - a) % 65536 - 65536
/-- The number that n stands for, t the greatest one so far (0: none). -/
def far (t n : Nat) : Nat := if t = 0 then 65536 + n else ((t : Int) + dif (t % 65536) n).toNat
/-- The greatest one behind it. -/
def top (t n : Nat) : Nat := max t (far t n)
theorem dif_range (a b : Nat) : -32768 ≤ dif a b ∧ dif a b < 32768 := by
  unfold dif
  split <;> omega
theorem wrap_i16 (n : Int) : IntKind.i16.wrap n = (n + 32768) % 65536 - 32768 := by simp [IntKind.wrap, IntKind.bits, IntKind.signed]; omega
theorem wrap_u64 (n : Int) : IntKind.u64.wrap n = n % 18446744073709551616 := by simp [IntKind.wrap, IntKind.bits, IntKind.signed]
theorem dif_run (a b : Nat) : wrap64 (IntKind.i16.wrap (IntKind.u16.wrap ((b : Int) - a))) = dif a b := by
  rw [wrap_i16, IntKind.wrap_u16]
  unfold wrap64 dif
  split <;> omega
theorem far_zero (n : Nat) : far 0 n = 65536 + n := rfl
theorem far_pos {t : Nat} (n : Nat) (h : 65536 ≤ t) : (far t n : Int) = (t : Int) + dif (t % 65536) n := by
  have := dif_range (t % 65536) n
  unfold far
  rw [if_neg (by omega)]
  omega
end Ser

/-- The block g holds an Ext whose greatest number is t (0: none). -/
structure ExtAt (w : World) (g t : Nat) : Prop where
  cell : w.cell? ⟨g, 0, none⟩ = some (.int .u64 (t : Int))
  thaw : w.frozen? ⟨g, 0, none⟩ = false
theorem ExtAt.same {w w' : World} {g t : Nat} (h : ExtAt w g t) (q : Same w w') : ExtAt w' g t := by
  obtain ⟨n, rfl⟩ := q
  exact ⟨h.cell, h.thaw⟩
theorem ExtAt.kept {w w' : World} {g t R : Nat} (h : ExtAt w g t) (q : Kept R w w') (hR : g ≠ R) : ExtAt w' g t :=
  ⟨q.cell h.cell hR, (World.frozen?_of_block (a := ⟨g, 0, none⟩) (q.block g (cell_lt h.cell) hR)).trans h.thaw⟩
theorem ExtAt.grew {w w' : World} {g t : Nat} (h : ExtAt w g t) (q : Below w.heap.size w w') : ExtAt w' g t :=
  h.kept (R := w.heap.size) (Kept.of_below q) (by have := cell_lt h.cell; omega)
theorem ExtAt.set {w : World} {g t : Nat} (h : ExtAt w g t) (u : Nat) : ExtAt (w.setCell ⟨g, 0, none⟩ (.int .u64 (u : Int))) g u ∧ Kept g w (w.setCell ⟨g, 0, none⟩ (.int .u64 (u : Int))) ∧ (w.setCell ⟨g, 0, none⟩ (.int .u64 (u : Int))).heap.size = w.heap.size := by
  refine ⟨⟨?_, ?_⟩, Kept.set w 0 _, by simp [World.setCell]⟩
  · rw [World.cell?_setCell_same _ _ _ h.cell]
  · have := h.thaw
    simpa using this

end Go.Proofs.Ytmgphmjfgoljcaa

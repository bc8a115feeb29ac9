/-
  What a call finds in the table of weights: 8, 4, 2, 1.
-/
import Derived.Test.YtijjhjlopfbeiaaDoorMem
import Derived.Lib.LaidTab
import Derived.LaidMore
import Derived.LaidHandle
import Derived.MakeChecks
-- LAIDFACT: Laid.find (by kernel_rfl) (by kernel_rfl) Tryd.underlying54 Tryd.underlying3 (by kernel_rfl) (by kernel_rfl) hL
namespace Go.Proofs.YtijjhjlopfbeiaaDoor
open Go.RowKit Go.Deep

/-- The weight at place i of the table. -/
def wtab (i : Nat) : Int := if i = 0 then 8 else if i = 1 then 4 else if i = 2 then 2 else 1
/-- The table lies in block 0. -/
structure Laid (w : World) : Prop where
  c0 : w.cell? ⟨0, 0, none⟩ = some (.int .i64 8)
  c1 : w.cell? ⟨0, 1, none⟩ = some (.int .i64 4)
  c2 : w.cell? ⟨0, 2, none⟩ = some (.int .i64 2)
  c3 : w.cell? ⟨0, 3, none⟩ = some (.int .i64 1)
theorem Laid.lt {w : World} (h : Laid w) : 0 < w.heap.size := cell_lt h.c0
theorem Laid.block {w w' : World} (h : Laid w) (e : w'.heap[0]? = w.heap[0]?) : Laid w' :=
  ⟨(World.cell?_of_block (a := ⟨0, 0, none⟩) e).trans h.c0, (World.cell?_of_block (a := ⟨0, 1, none⟩) e).trans h.c1, (World.cell?_of_block (a := ⟨0, 2, none⟩) e).trans h.c2, (World.cell?_of_block (a := ⟨0, 3, none⟩) e).trans h.c3⟩
theorem Laid.below {w w' : World} {B : Nat} (h : Laid w) (b : Below B w w') (hB : 0 < B) : Laid w' := h.block (b.block 0 hB)
theorem Laid.grew {w w' : World} (h : Laid w) (b : Below w.heap.size w w') : Laid w' := h.below b h.lt
theorem Laid.cell {w : World} (h : Laid w) (i : Nat) (hi : i < 4) : w.cell? ⟨0, i, none⟩ = some (.int .i64 (wtab i)) := by
  match i, hi with
  | 0, _ => exact h.c0
  | 1, _ => exact h.c1
  | 2, _ => exact h.c2
  | 3, _ => exact h.c3
theorem Laid.find {P : Program} {W : World} {rest : List (String × DataW Unit)} {nm : String} {t e : TypeId} (hg : P.globalNamed nm = some 0) (hty : (P.globals[0]?).map (·.type) = some t)
    (ht : P.underlying t = some (.array 4 e)) (he : P.underlying e = some (.int .i64)) (hce : P.cellsOf e = 1) (hct : P.cellsOf t = 4)
    (h : laidMet P ((nm, .agg [.lit (.int .i64 8), .lit (.int .i64 4), .lit (.int .i64 2), .lit (.int .i64 1)]) :: rest) W) : Laid W := by
  have hT := Go.Lib.tabIs_of_head (zs := [8, 4, 2, 1]) hg hty ht he hce hct h
  exact ⟨hT.cell hg 0 (by decide), hT.cell hg 1 (by decide), hT.cell hg 2 (by decide), hT.cell hg 3 (by decide)⟩

end Go.Proofs.YtijjhjlopfbeiaaDoor

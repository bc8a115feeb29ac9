/-
  Wants: in memory, one against another. No program.
-/
import Derived.Test.YtijjhjlopfbeiaaDoorMem
namespace Go.Proofs.YtijjhjlopfbeiaaDoor
open Go.RowKit Go.Deep

/-- A want: its ID, its rank, its bytes. -/
structure Wt where
  id : Int
  r : Int
  b : Int
def Wt.val (a : Wt) : Value := .agg #[.int .u32 a.id, .int .i64 a.r, .int .i64 a.b]
/-- Does a matter less than b? -/
def Wt.worse (a b : Wt) : Bool := decide (b.r < a.r) || (a.r == b.r && decide (b.id < a.id))
structure WtAt (w : World) (B : Nat) (a : Wt) : Prop where
  c0 : w.cell? ⟨B, 0, none⟩ = some (.int .u32 a.id)
  c1 : w.cell? ⟨B, 1, none⟩ = some (.int .i64 a.r)
  c2 : w.cell? ⟨B, 2, none⟩ = some (.int .i64 a.b)
theorem WtAt.made (w : World) (T : TypeId) (a : Wt) : WtAt (w.alloc (.cells #[.int .u32 a.id, .int .i64 a.r, .int .i64 a.b] T)) w.heap.size a :=
  ⟨by rw [World.cell?_alloc_at _ _ _ _ rfl]; rfl, by rw [World.cell?_alloc_at _ _ _ _ rfl]; rfl, by rw [World.cell?_alloc_at _ _ _ _ rfl]; rfl⟩
theorem WtAt.grew {w w' : World} {B : Nat} {a : Wt} (h : WtAt w B a) (hb : Below w.heap.size w w') : WtAt w' B a :=
  ⟨(hb.cell (p := ⟨B, 0, none⟩) (cell_lt h.c0)).trans h.c0, (hb.cell (p := ⟨B, 1, none⟩) (cell_lt h.c1)).trans h.c1, (hb.cell (p := ⟨B, 2, none⟩) (cell_lt h.c2)).trans h.c2⟩
end Go.Proofs.YtijjhjlopfbeiaaDoor

/-
  Package frame: its face, Check.
-/
import Derived.Test.YthlidbenhlidjaaFcr
namespace Go.Proofs.Ythlidbenhlidjaa
open Go.RowKit Go.Deep

theorem tmpsF (n : Nat) (a v2 v3 v4 v5 v6 v7 v8 : Value) : #[a] ++ (((((((Array.replicate (n + 7) undef).setIfInBounds 3 v5).setIfInBounds 4 v6).setIfInBounds 2 v4).setIfInBounds 5 v7).setIfInBounds 6 v8).setIfInBounds 0 v2).setIfInBounds 1 v3 = #[a, v2, v3, v4, v5, v6, v7, v8] ++ Array.replicate n undef := by
  apply Array.toList_inj.mp
  simp [List.replicate_succ]
/-- A frame's Refs, as they must be in memory. -/
structure RefsAt (w : World) (f : Fr) (r : Nat → Int) : Prop where
  nums : NumsAt .u32 w f.a f.n r
  cap : f.n ≤ f.c
  len : f.n ≤ 1000
theorem RefsAt.grew {w w' : World} {f : Fr} {r : Nat → Int} (h : RefsAt w f r) (hb : Below w.heap.size w w') : RefsAt w' f r := ⟨h.nums.grew hb, h.cap, h.len⟩

/-- The face's two variables: the frame, and what is told. -/
structure Fc (w : World) (B : Nat) (f : Fr) : Prop where
  fr : FrAt w B f
  res : w.cell? ⟨B + 1, 0, none⟩ = some (.int .i64 0)
  frz : w.frozen? ⟨B + 1, 0, none⟩ = false
theorem Fc.grew {w w' : World} {B : Nat} {f : Fr} (h : Fc w B f) (hb : Below w.heap.size w w') : Fc w' B f :=
  ⟨h.fr.grew hb, (hb.cell (p := ⟨B + 1, 0, none⟩) (cell_lt h.res)).trans h.res, (World.frozen?_of_block (a := ⟨B + 1, 0, none⟩) (hb.block (B + 1) (cell_lt h.res))).trans h.frz⟩
/-- A number, and nothing of what lay there turned. -/
def NumIs (w : World) (E : Int) (e : Ending) (w' : World) : Prop := e = .returned (.int .i64 E) ∧ Below w.heap.size w w'

end Go.Proofs.Ythlidbenhlidjaa

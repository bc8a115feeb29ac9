/-
  The document's Find and Check.
-/
import Derived.Test.YthlidbenhlidjaaFcf
import Derived.Test.YthlidbenhlidjaaRct
namespace Go.Proofs.Ythlidbenhlidjaa
open Go.RowKit Go.Deep

theorem FrAt.write {w : World} {B : Nat} {f : Fr} (h : FrAt w B f) (g : Fr) : FrAt ((((((w.setCell ⟨B, 0, none⟩ (.int .u32 (g.id : Int))).setCell ⟨B, 1, none⟩ (.int .i64 g.k)).setCell ⟨B, 2, none⟩ (.slice g.a g.n g.c)).setCell ⟨B, 3, none⟩ (.int .i64 g.s)).setCell ⟨B, 4, none⟩ (.int .i64 g.p)).setCell ⟨B, 5, none⟩ (.int .i64 g.d)) B g := by
  have s0 := World.cell?_setCell_same w ⟨B, 0, none⟩ (.int .u32 (g.id : Int)) h.c0
  have o : ∀ (w : World) (i j : Nat) (v x : Value), i ≠ j → w.cell? ⟨B, j, none⟩ = some x → (w.setCell ⟨B, i, none⟩ v).cell? ⟨B, j, none⟩ = some x := fun w i j v x hij hx => (World.cell?_setCell_other _ _ _ _ (fun e => hij (Addr.mk.inj e).2.1)).trans hx
  have t : ∀ (w : World) (i : Nat) (v x : Value), w.cell? ⟨B, i, none⟩ = some x → (w.setCell ⟨B, i, none⟩ v).cell? ⟨B, i, none⟩ = some v := fun w i v x hx => World.cell?_setCell_same _ _ _ hx
  refine ⟨?_, ?_, ?_, ?_, ?_, ?_, fun i => by simp only [World.frozen?_setCell]; exact h.frz i⟩
  · exact o _ 5 0 _ _ (by decide) (o _ 4 0 _ _ (by decide) (o _ 3 0 _ _ (by decide) (o _ 2 0 _ _ (by decide) (o _ 1 0 _ _ (by decide) (t _ 0 _ _ h.c0)))))
  · exact o _ 5 1 _ _ (by decide) (o _ 4 1 _ _ (by decide) (o _ 3 1 _ _ (by decide) (o _ 2 1 _ _ (by decide) (t _ 1 _ _ (o _ 0 1 _ _ (by decide) h.c1)))))
  · exact o _ 5 2 _ _ (by decide) (o _ 4 2 _ _ (by decide) (o _ 3 2 _ _ (by decide) (t _ 2 _ _ (o _ 1 2 _ _ (by decide) (o _ 0 2 _ _ (by decide) h.c2)))))
  · exact o _ 5 3 _ _ (by decide) (o _ 4 3 _ _ (by decide) (t _ 3 _ _ (o _ 2 3 _ _ (by decide) (o _ 1 3 _ _ (by decide) (o _ 0 3 _ _ (by decide) h.c3)))))
  · exact o _ 5 4 _ _ (by decide) (t _ 4 _ _ (o _ 3 4 _ _ (by decide) (o _ 2 4 _ _ (by decide) (o _ 1 4 _ _ (by decide) (o _ 0 4 _ _ (by decide) h.c4)))))
  · exact t _ 5 _ _ (o _ 4 5 _ _ (by decide) (o _ 3 5 _ _ (by decide) (o _ 2 5 _ _ (by decide) (o _ 1 5 _ _ (by decide) (o _ 0 5 _ _ (by decide) h.c5)))))
theorem below_write {w w' : World} {B G : Nat} (h : Below G w w') (hG : G ≤ B) (g : Fr) : Below G w ((((((w'.setCell ⟨B, 0, none⟩ (.int .u32 (g.id : Int))).setCell ⟨B, 1, none⟩ (.int .i64 g.k)).setCell ⟨B, 2, none⟩ (.slice g.a g.n g.c)).setCell ⟨B, 3, none⟩ (.int .i64 g.s)).setCell ⟨B, 4, none⟩ (.int .i64 g.p)).setCell ⟨B, 5, none⟩ (.int .i64 g.d)) :=
  (((((h.setCell (p := ⟨B, 0, none⟩) hG _).setCell (p := ⟨B, 1, none⟩) hG _).setCell (p := ⟨B, 2, none⟩) hG _).setCell (p := ⟨B, 3, none⟩) hG _).setCell (p := ⟨B, 4, none⟩) hG _).setCell (p := ⟨B, 5, none⟩) hG _
/-- What Find answers. -/
def FindIs (w : World) (m : Nat) (K : Nat → Fr) (v : Int) (e : Ending) (w' : World) : Prop :=
  Below w.heap.size w w' ∧ ∃ (g : Fr) (b : Bool), e = .returned (.tuple #[g.val, .bool b]) ∧ ((b = true ∧ ∃ j, j < m ∧ ((K j).id : Int) = v ∧ g = K j ∧ ∀ q, q < j → ((K q).id : Int) ≠ v) ∨ (b = false ∧ ∀ j, j < m → ((K j).id : Int) ≠ v))
theorem FindIs.mk {w w' : World} {m : Nat} {K : Nat → Fr} {v : Int} {g : Fr} {b : Bool} (hb : Below w.heap.size w w') (h : (b = true ∧ ∃ j, j < m ∧ ((K j).id : Int) = v ∧ g = K j ∧ ∀ q, q < j → ((K q).id : Int) ≠ v) ∨ (b = false ∧ ∀ j, j < m → ((K j).id : Int) ≠ v)) :
    FindIs w m K v (.returned (.tuple #[.agg #[.int .u32 (g.id : Int), .int .i64 g.k, .slice g.a g.n g.c, .int .i64 g.s, .int .i64 g.p, .int .i64 g.d], .bool b])) w' := ⟨hb, g, b, rfl, h⟩
def Fr.zero : Fr := ⟨0, 0, none, 0, 0, 0, 0, 0⟩

end Go.Proofs.Ythlidbenhlidjaa

/-
  Many wants in a row, a row of ints that may be written. No program.
-/
import Derived.Test.YtijjhjlopfbeiaaDoorWnt
namespace Go.Proofs.YtijjhjlopfbeiaaDoor
open Go.RowKit Go.Deep

instance : Inhabited Wt := ⟨⟨0, 0, 0⟩⟩
/-- The slice's address a leads to m wants: the i-th is K i. -/
def WtsAt (w : World) (a : Option Addr) (m : Nat) (K : Nat → Wt) : Prop :=
  0 < m → ∃ b o, a = some ⟨b, o, none⟩ ∧ ∀ i, i < m → w.cell? ⟨b, o + i * 3, none⟩ = some (.int .u32 (K i).id) ∧ w.cell? ⟨b, o + i * 3 + 1, none⟩ = some (.int .i64 (K i).r) ∧ w.cell? ⟨b, o + i * 3 + 2, none⟩ = some (.int .i64 (K i).b)
theorem WtsAt.nil (w : World) (a : Option Addr) (K : Nat → Wt) : WtsAt w a 0 K := fun h => absurd h (by omega)
theorem WtsAt.addr {w : World} {a : Option Addr} {m : Nat} {K : Nat → Wt} (h : WtsAt w a m K) (h0 : 0 < m) : ∃ b o, a = some ⟨b, o, none⟩ := by
  obtain ⟨b, o, e, -⟩ := h h0
  exact ⟨b, o, e⟩
theorem WtsAt.at {w : World} {b o m : Nat} {K : Nat → Wt} (h : WtsAt w (some ⟨b, o, none⟩) m K) (i : Nat) (hi : i < m) : w.cell? ⟨b, o + i * 3, none⟩ = some (.int .u32 (K i).id) ∧ w.cell? ⟨b, o + i * 3 + 1, none⟩ = some (.int .i64 (K i).r) ∧ w.cell? ⟨b, o + i * 3 + 2, none⟩ = some (.int .i64 (K i).b) := by
  obtain ⟨b', o', e, hc⟩ := h (by omega)
  cases e
  exact hc i hi
theorem WtsAt.block {w w' : World} {a : Option Addr} {m : Nat} {K : Nat → Wt} (h : WtsAt w a m K) (hb : ∀ b o, a = some ⟨b, o, none⟩ → b < w.heap.size → w'.heap[b]? = w.heap[b]?) : WtsAt w' a m K := fun h0 => by
  obtain ⟨b, o, e, hc⟩ := h h0
  have hl := hb b o e (cell_lt (hc 0 h0).1)
  have q : ∀ j, w'.cell? ⟨b, j, none⟩ = w.cell? ⟨b, j, none⟩ := fun j => World.cell?_of_block (a := ⟨b, j, none⟩) hl
  refine ⟨b, o, e, fun i hi => ?_⟩
  rw [q, q, q]
  exact hc i hi
theorem WtsAt.below {w w' : World} {a : Option Addr} {m B : Nat} {K : Nat → Wt} (h : WtsAt w a m K) (hb : Below B w w') (hB : w.heap.size ≤ B) : WtsAt w' a m K :=
  h.block fun b _ _ hl => hb.block b (Nat.lt_of_lt_of_le hl hB)
theorem WtsAt.grew {w w' : World} {a : Option Addr} {m : Nat} {K : Nat → Wt} (h : WtsAt w a m K) (hb : Below w.heap.size w w') : WtsAt w' a m K := h.below hb (Nat.le_refl _)
theorem WtsAt.trans {w w' x : World} {a : Option Addr} {m : Nat} {K : Nat → Wt} (h : WtsAt w a m K) (b : Below w.heap.size w x) (e : Below w.heap.size x w') : WtsAt w' a m K := h.grew (b.trans e)

/-- The block G holds n ints, the i-th x i, and may be written. -/
structure IRow (w : World) (G n : Nat) (x : Nat → Int) : Prop where
  cell : ∀ i, i < n → w.cell? ⟨G, i, none⟩ = some (.int .i64 (x i))
  thaw : ∀ i, w.frozen? ⟨G, i, none⟩ = false
theorem IRow.block {w w' : World} {G n : Nat} {x : Nat → Int} (h : IRow w G n x) (e : w'.heap[G]? = w.heap[G]?) : IRow w' G n x :=
  ⟨fun i hi => (World.cell?_of_block (a := ⟨G, i, none⟩) e).trans (h.cell i hi), fun i => (World.frozen?_of_block (a := ⟨G, i, none⟩) e).trans (h.thaw i)⟩
theorem IRow.below {w w' : World} {G n B : Nat} {x : Nat → Int} (h : IRow w G n x) (b : Below B w w') (hG : G < B) : IRow w' G n x := h.block (b.block G hG)
theorem IRow.other {w : World} {G n R i : Nat} {x : Nat → Int} {v : Value} (h : IRow w G n x) (hne : G ≠ R) : IRow (w.setCell ⟨R, i, none⟩ v) G n x := h.block (Below.heap_setCell w ⟨R, i, none⟩ v G hne)
theorem IRow.put {w : World} {G n i : Nat} {x x' : Nat → Int} {v : Int} (h : IRow w G n x) (hi : i < n) (hx : ∀ j, j < n → x' j = if j = i then v else x j) : IRow (w.setCell ⟨G, i, none⟩ (.int .i64 v)) G n x' := by
  refine ⟨fun j hj => ?_, fun j => by rw [World.frozen?_setCell]; exact h.thaw j⟩
  rw [hx j hj]
  by_cases e : j = i
  · rw [if_pos e, e, World.cell?_setCell_same _ _ _ (h.cell i hi)]
  · rw [if_neg e, World.cell?_setCell_other _ _ _ _ (fun q => e (Addr.mk.inj q).2.1.symm)]
    exact h.cell j hj
theorem IRow.congr {w : World} {G n : Nat} {x y : Nat → Int} (h : IRow w G n x) (e : ∀ i, i < n → x i = y i) : IRow w G n y := ⟨fun i hi => by rw [← e i hi]; exact h.cell i hi, h.thaw⟩
end Go.Proofs.YtijjhjlopfbeiaaDoor

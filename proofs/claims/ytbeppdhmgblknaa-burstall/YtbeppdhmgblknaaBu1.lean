/-
  The document's Burst in memory, and its Add.
-/
import Derived.Test.YtbeppdhmgblknaaBu0
namespace Go.Proofs.Ytbeppdhmgblknaa
open Go.RowKit Go.Deep

/-- The block g holds a Burst of the document's. -/
structure RBuAt (w : World) (g : Nat) (t : Bool) (v : Nat) : Prop where
  tell : w.cell? ⟨g, 0, none⟩ = some (.bool t)
  cell : w.cell? ⟨g, 1, none⟩ = some (.int .i64 (v : Int))
  thaw : ∀ i, w.frozen? ⟨g, i, none⟩ = false
theorem RBuAt.block {w w' : World} {g v : Nat} {t : Bool} (h : RBuAt w g t v) (e : w'.heap[g]? = w.heap[g]?) : RBuAt w' g t v :=
  ⟨(World.cell?_of_block e).trans h.tell, (World.cell?_of_block e).trans h.cell, fun i => (World.frozen?_of_block (a := ⟨g, i, none⟩) e).trans (h.thaw i)⟩
theorem RBuAt.same {w w' : World} {g v : Nat} {t : Bool} (h : RBuAt w g t v) (q : Same w w') : RBuAt w' g t v := by
  obtain ⟨n, rfl⟩ := q
  exact h.block rfl
theorem RBuAt.kept {w w' : World} {g v R : Nat} {t : Bool} (h : RBuAt w g t v) (q : Kept R w w') (hR : g ≠ R) : RBuAt w' g t v := h.block (q.block g (cell_lt h.cell) hR)
theorem RBuAt.made (w : World) (T : TypeId) : RBuAt (w.alloc (.cells #[.bool false, .int .i64 0] T)) w.heap.size false 0 :=
  ⟨by rw [World.cell?_alloc_at _ _ _ _ rfl]; rfl, by rw [World.cell?_alloc_at _ _ _ _ rfl]; rfl, fun i => frozen_of_row _ w.heap.size i _ T (heap_alloc_new w _)⟩
theorem RBuAt.set {w : World} {g v : Nat} {t : Bool} (h : RBuAt w g t v) (u : Nat) : RBuAt ((w.setCell ⟨g, 0, none⟩ (.bool true)).setCell ⟨g, 1, none⟩ (.int .i64 (u : Int))) g true u ∧ Kept g w ((w.setCell ⟨g, 0, none⟩ (.bool true)).setCell ⟨g, 1, none⟩ (.int .i64 (u : Int))) ∧ ((w.setCell ⟨g, 0, none⟩ (.bool true)).setCell ⟨g, 1, none⟩ (.int .i64 (u : Int))).heap.size = w.heap.size := by
  have e : (w.setCell ⟨g, 0, none⟩ (.bool true)).cell? ⟨g, 1, none⟩ = some (.int .i64 (v : Int)) := by
    rw [World.cell?_setCell_other _ _ _ _ (by intro q; cases q)]; exact h.cell
  refine ⟨⟨?_, ?_, fun i => ?_⟩, (Kept.set w 0 _).trans (Kept.set _ 1 _), by simp [World.setCell]⟩
  · rw [World.cell?_setCell_other _ _ _ _ (by intro q; cases q), World.cell?_setCell_same _ _ _ h.tell]
  · rw [World.cell?_setCell_same _ _ _ e]
  · rw [World.frozen?_setCell, World.frozen?_setCell]; exact h.thaw i

set_option maxRecDepth 100000 in
set_option maxHeartbeats 1000000 in
theorem rbadd_any (g v n : Nat) (t : Bool) (w : World) (h : RBuAt w g t v) (hv : v ≤ 1048560) (hn : n < 65536) :
    Calls Try.prog 9 #[.pointer (some ⟨g, 0, none⟩), .int .u16 (n : Int)] w fun e w' => e = .returned (.tuple #[]) ∧ RBuAt w' g true (Bu.val t v n) ∧ Kept g w w' ∧ w'.heap.size = w.heap.size := by
  obtain ⟨V, hV⟩ : ∃ V, Bu.val t v n = V := ⟨_, rfl⟩
  rw [hV]
  obtain ⟨P, hP, e1, e2, e3, e4⟩ := look_run hn
  obtain ⟨W1, hW1⟩ : ∃ W1, w.setCell ⟨g, 0, none⟩ (.bool true) = W1 := ⟨_, rfl⟩
  obtain ⟨W2, hW2⟩ : ∃ W2, W1.setCell ⟨g, 1, none⟩ (.int .i64 (V : Int)) = W2 := ⟨_, rfl⟩
  have END : Hid (RBuAt W2 g true V ∧ Kept g w W2 ∧ W2.heap.size = w.heap.size) := by
    have := h.set V
    rw [hW1, hW2] at this
    exact this
  have c0 := h.cell
  have c1 := h.tell
  have f0 := h.thaw 0
  have f1 : W1.frozen? ⟨g, 1, none⟩ = false := by rw [← hW1, World.frozen?_setCell]; exact h.thaw 1
  have c2 : W1.cell? ⟨g, 1, none⟩ = some (.int .i64 (v : Int)) := by
    rw [← hW1, World.cell?_setCell_other _ _ _ _ (by intro q; cases q)]; exact c0
  cases t
  · have HV : Hid (P = V) := by rw [← hV, Bu.val_first]; exact hP
    clear hV h hv hn hP
    obtain rfl := HV.out
    clear HV
    go_enter Try.func9, Try.ntmps9
    go_wp2
    exact bodyPost_end (results_none Try.results9 _ _ _) rfl ⟨rfl, END.out⟩
  · obtain ⟨A, B, U, hU, d1, d2, d3, d4, d5, d6, d7, d8⟩ := next_run hv (P := P) (by omega)
    have HV : Hid (U = V) := by rw [← hV, Bu.val_next, hU, hP]; rfl
    clear hV h hv hn hP hU
    obtain rfl := HV.out
    clear HV
    go_enter Try.func9, Try.ntmps9
    go_wp2
    exact bodyPost_end (results_none Try.results9 _ _ _) rfl ⟨rfl, END.out⟩
end Go.Proofs.Ytbeppdhmgblknaa

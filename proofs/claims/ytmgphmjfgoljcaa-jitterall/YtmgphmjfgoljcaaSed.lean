/-
  The document's serial numbers: how far two are apart, and its Ext in memory.
-/
import Derived.Test.YtmgphmjfgoljcaaSer
namespace Go.Proofs.Ytmgphmjfgoljcaa
open Go.RowKit Go.Deep

set_option maxRecDepth 100000 in
set_option maxHeartbeats 400000 in
theorem rdiff_any (a b : Nat) (w : World) (ha : a < 65536) (hb : b < 65536) :
    Calls Try.prog 14 #[.int .u16 (a : Int), .int .u16 (b : Int)] w fun e w' => e = .returned (.int .i64 (Ser.dif a b)) ∧ w' = w := by
  have h0 : 0 ≤ (b : Int) - a + 65536 := by omega
  go_enter Try.func14, Try.ntmps14
  go_wp2
  all_goals (rename_i hq; go_ret; refine ⟨ret_int ?_, rfl⟩; unfold Ser.dif; split <;> omega)

/-- The block g holds an Ext of the document's whose greatest number is t (0: none). -/
structure RExtAt (w : World) (g t : Nat) : Prop where
  any : w.cell? ⟨g, 0, none⟩ = some (.bool (decide (t ≠ 0)))
  cell : w.cell? ⟨g, 1, none⟩ = some (.int .u64 (t : Int))
  thaw0 : w.frozen? ⟨g, 0, none⟩ = false
  thaw1 : w.frozen? ⟨g, 1, none⟩ = false
theorem RExtAt.same {w w' : World} {g t : Nat} (h : RExtAt w g t) (q : Same w w') : RExtAt w' g t := by
  obtain ⟨n, rfl⟩ := q
  exact ⟨h.any, h.cell, h.thaw0, h.thaw1⟩
theorem RExtAt.kept {w w' : World} {g t R : Nat} (h : RExtAt w g t) (q : Kept R w w') (hR : g ≠ R) : RExtAt w' g t :=
  ⟨q.cell h.any hR, q.cell h.cell hR, (World.frozen?_of_block (a := ⟨g, 0, none⟩) (q.block g (cell_lt h.cell) hR)).trans h.thaw0, (World.frozen?_of_block (a := ⟨g, 1, none⟩) (q.block g (cell_lt h.cell) hR)).trans h.thaw1⟩
theorem RExtAt.set {w : World} {g t : Nat} (h : RExtAt w g t) (u : Nat) (ht : t ≠ 0) (hu : u ≠ 0) : RExtAt (w.setCell ⟨g, 1, none⟩ (.int .u64 (u : Int))) g u := by
  refine ⟨?_, ?_, ?_, ?_⟩
  · rw [World.cell?_setCell_other _ _ _ _ (fun e => by cases e), h.any, decide_eq_true ht, decide_eq_true hu]
  · rw [World.cell?_setCell_same _ _ _ h.cell]
  · have := h.thaw0
    simpa using this
  · have := h.thaw1
    simpa using this
theorem RExtAt.first {w : World} {g : Nat} (h : RExtAt w g 0) (u : Nat) (hu : u ≠ 0) : RExtAt ((w.setCell ⟨g, 0, none⟩ (.bool true)).setCell ⟨g, 1, none⟩ (.int .u64 (u : Int))) g u := by
  have c1 : (w.setCell ⟨g, 0, none⟩ (.bool true)).cell? ⟨g, 1, none⟩ = some (.int .u64 ((0 : Nat) : Int)) := by rw [World.cell?_setCell_other _ _ _ _ (fun e => by cases e), h.cell]
  refine ⟨?_, ?_, ?_, ?_⟩
  · rw [World.cell?_setCell_other _ _ _ _ (fun e => by cases e), World.cell?_setCell_same _ _ _ h.any, decide_eq_true hu]
  · rw [World.cell?_setCell_same _ _ _ c1]
  · have := h.thaw0
    simpa using this
  · have := h.thaw1
    simpa using this

end Go.Proofs.Ytmgphmjfgoljcaa

/-
  The document's serial numbers: how far two are apart, and its Ext in memory.
-/
import Derived.Test.YtclgoaimbdaehaaSer
namespace Go.Proofs.Ytclgoaimbdaehaa
open Go.RowKit Go.Deep

set_option maxRecDepth 100000 in
set_option maxHeartbeats 400000 in
theorem rdiff_any (a b : Nat) (w : World) (ha : a < 65536) (hb : b < 65536) :
    Calls Try.prog 15 #[.int .u16 (a : Int), .int .u16 (b : Int)] w fun e w' => e = .returned (.int .i64 (Ser.dif a b)) ∧ w' = w := by
  have h0 : 0 ≤ (b : Int) - a + 65536 := by omega
  go_enter Try.func15, Try.ntmps15
  go_wp2
  all_goals (rename_i hq; go_ret; refine ⟨ret_int ?_, rfl⟩; unfold Ser.dif; split <;> omega)

set_option maxRecDepth 100000 in
set_option maxHeartbeats 400000 in
theorem rless_any (a b : Nat) (w : World) (ha : a < 65536) (hb : b < 65536) :
    Calls Try.prog 13 #[.int .u16 (a : Int), .int .u16 (b : Int)] w fun e w' => e = .returned (.bool (decide (0 < Ser.dif a b))) ∧ w' = w := by
  go_enter Try.func13, Try.ntmps13
  go_wp2_with fail
  refine (rdiff_any a b _ ha hb).mono ?_
  rintro e w1 ⟨rfl, rfl⟩
  go_wp2
  go_ret
  exact ⟨rfl, rfl⟩

/-- The block g holds an Ext of the document's whose greatest number is t (0: none). -/
structure RExtAt (w : World) (g t : Nat) : Prop where
  any : w.cell? ⟨g, 0, none⟩ = some (.bool (decide (t ≠ 0)))
  cell : w.cell? ⟨g, 1, none⟩ = some (.int .u64 (t : Int))
  thaw0 : w.frozen? ⟨g, 0, none⟩ = false
  thaw1 : w.frozen? ⟨g, 1, none⟩ = false
theorem RExtAt.same {w w' : World} {g t : Nat} (h : RExtAt w g t) (q : Same w w') : RExtAt w' g t := by
  obtain ⟨n, rfl⟩ := q
  exact ⟨h.any, h.cell, h.thaw0, h.thaw1⟩
theorem RExtAt.kept {w w' : World} {g t R : Nat} (h : RExtAt w g t) (q : Kept R w w') (hR : g ≠ R) : RExtAt w' g t :=
  ⟨q.cell h.any hR, q.cell h.cell hR, (World.frozen?_of_block (a := ⟨g, 0, none⟩) (q.block g (cell_lt h.cell) hR)).trans h.thaw0, (World.frozen?_of_block (a := ⟨g, 1, none⟩) (q.block g (cell_lt h.cell) hR)).trans h.thaw1⟩
theorem RExtAt.set {w : World} {g t : Nat} (h : RExtAt w g t) (u : Nat) (ht : t ≠ 0) (hu : u ≠ 0) : RExtAt (w.setCell ⟨g, 1, none⟩ (.int .u64 (u : Int))) g u := by
  refine ⟨?_, ?_, ?_, ?_⟩
  · rw [World.cell?_setCell_other _ _ _ _ (fun e => by cases e), h.any, decide_eq_true ht, decide_eq_true hu]
  · rw [World.cell?_setCell_same _ _ _ h.cell]
  · have := h.thaw0
    simpa using this
  · have := h.thaw1
    simpa using this
theorem RExtAt.first {w : World} {g : Nat} (h : RExtAt w g 0) (u : Nat) (hu : u ≠ 0) : RExtAt ((w.setCell ⟨g, 0, none⟩ (.bool true)).setCell ⟨g, 1, none⟩ (.int .u64 (u : Int))) g u := by
  have c1 : (w.setCell ⟨g, 0, none⟩ (.bool true)).cell? ⟨g, 1, none⟩ = some (.int .u64 ((0 : Nat) : Int)) := by rw [World.cell?_setCell_other _ _ _ _ (fun e => by cases e), h.cell]
  refine ⟨?_, ?_, ?_, ?_⟩
  · rw [World.cell?_setCell_other _ _ _ _ (fun e => by cases e), World.cell?_setCell_same _ _ _ h.any, decide_eq_true hu]
  · rw [World.cell?_setCell_same _ _ _ c1]
  · have := h.thaw0
    simpa using this
  · have := h.thaw1
    simpa using this

set_option maxRecDepth 100000 in
set_option maxHeartbeats 400000 in
theorem rextend_any (g t n : Nat) (w : World) (h : RExtAt w g t) (hn : n < 65536) (ht : t = 0 ∨ 65536 ≤ t) (hT : t ≤ 1000000000000) :
    Calls Try.prog 10 #[.pointer (some ⟨g, 0, none⟩), .int .u16 (n : Int)] w fun e w' => e = .returned (.int .u64 (Ser.far t n : Int)) ∧ RExtAt w' g (Ser.top t n) ∧ Kept g w w' ∧ w'.heap.size = w.heap.size := by
  rcases ht with rfl | ht
  · have h1 := h.first (65536 + n) (by omega)
    have k1 : Kept g w ((w.setCell ⟨g, 0, none⟩ (.bool true)).setCell ⟨g, 1, none⟩ (.int .u64 ((65536 + n : Nat) : Int))) := (Kept.set w 0 _).trans (Kept.set _ 1 _)
    have c0 : w.cell? ⟨g, 0, none⟩ = some (.bool false) := h.any
    have c1 := h.cell
    have f0 := h.thaw0
    have f1 := h.thaw1
    have c2 := h1.cell
    rw [show ((65536 + n : Nat) : Int) = 65536 + (n : Int) by omega] at *
    go_enter Try.func10, Try.ntmps10
    go_wp2
    go_ret
    exact ⟨ret_int (by rw [Ser.far_zero]; omega), by rw [show Ser.top 0 n = 65536 + n by unfold Ser.top; rw [Ser.far_zero]; omega]; exact h1, k1, by simp [World.setCell]⟩
  · have c0 : w.cell? ⟨g, 0, none⟩ = some (.bool true) := by rw [h.any, decide_eq_true (by omega)]
    have c1 := h.cell
    go_enter Try.func10, Try.ntmps10
    go_wp2_with fail
    go_quiet ((go_at_call 15; exact Calls.quiet_of_same (rdiff_any (t % 65536) n _ (by omega) hn)))
    have e1 : IntKind.u64.wrap (wrap64 ((t : Int) + Ser.dif (t % 65536) n)) = (Ser.far t n : Int) := by
      have := Ser.dif_range (t % 65536) n
      rw [Ser.far_pos n ht, Ser.wrap_u64]
      unfold wrap64
      omega
    rw [e1]
    have h1 : RExtAt (w.drewN nq) g t := h.same ⟨_, rfl⟩
    have k1 : Kept g w (w.drewN nq) := Kept.of_same ⟨_, rfl⟩
    have z1 : (w.drewN nq).heap.size = w.heap.size := rfl
    clear e1 c0 c1 h
    generalize w.drewN nq = w1 at *
    have c1 := h1.cell
    have f1 := h1.thaw1
    have p1 := h1.set (Ser.far t n) (by omega) (by have := Ser.far_pos n ht; have := Ser.dif_range (t % 65536) n; omega)
    have p2 := h1.set t (by omega) (by omega)
    go_wp2
    · go_ret
      exact ⟨rfl, by rw [Ser.top, Nat.max_eq_right (by omega)]; exact p1, k1.trans (Kept.set _ 1 _), by simp [World.setCell, z1]⟩
    · go_ret
      exact ⟨rfl, by rw [Ser.top, Nat.max_eq_left (by omega)]; exact p2, k1.trans (Kept.set _ 1 _), by simp [World.setCell, z1]⟩
end Go.Proofs.Ytclgoaimbdaehaa

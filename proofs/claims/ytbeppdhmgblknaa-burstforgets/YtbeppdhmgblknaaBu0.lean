/-
  Package burst: one look, what the value is behind it, and a Burst in memory.
-/
import Derived.Test.YtbeppdhmgblknaaMem
namespace Go.Proofs.Ytbeppdhmgblknaa
open Go.RowKit Go.Deep

namespace Bu
/-- The value behind one more look. -/
def val (t : Bool) (v n : Nat) : Nat := if t then (3 * v + 16 * n) / 4 else 16 * n
theorem val_first (v n : Nat) : val false v n = 16 * n := rfl
theorem val_next (v n : Nat) : val true v n = (3 * v + 16 * n) / 4 := rfl
theorem val_le {v n : Nat} (h : v ≤ 1048560) (hn : n < 65536) (t : Bool) : val t v n ≤ 1048560 := by
  cases t
  · rw [val_first]; omega
  · rw [val_next]; omega
end Bu

/-- The block g holds a Burst: its value v, and whether it has looked. -/
structure BuAt (w : World) (g : Nat) (t : Bool) (v : Nat) : Prop where
  cell : w.cell? ⟨g, 0, none⟩ = some (.int .i64 (v : Int))
  tell : w.cell? ⟨g, 1, none⟩ = some (.bool t)
  thaw : ∀ i, w.frozen? ⟨g, i, none⟩ = false
theorem BuAt.block {w w' : World} {g v : Nat} {t : Bool} (h : BuAt w g t v) (e : w'.heap[g]? = w.heap[g]?) : BuAt w' g t v :=
  ⟨(World.cell?_of_block e).trans h.cell, (World.cell?_of_block e).trans h.tell, fun i => (World.frozen?_of_block (a := ⟨g, i, none⟩) e).trans (h.thaw i)⟩
theorem BuAt.same {w w' : World} {g v : Nat} {t : Bool} (h : BuAt w g t v) (q : Same w w') : BuAt w' g t v := by
  obtain ⟨n, rfl⟩ := q
  exact h.block rfl
theorem BuAt.kept {w w' : World} {g v R : Nat} {t : Bool} (h : BuAt w g t v) (q : Kept R w w') (hR : g ≠ R) : BuAt w' g t v := h.block (q.block g (cell_lt h.cell) hR)
theorem BuAt.grew {w w' : World} {g v : Nat} {t : Bool} (h : BuAt w g t v) (q : Below w.heap.size w w') : BuAt w' g t v := h.block (q.block _ (cell_lt h.cell))
theorem BuAt.made (w : World) (T : TypeId) : BuAt (w.alloc (.cells #[.int .i64 0, .bool false] T)) w.heap.size false 0 :=
  ⟨by rw [World.cell?_alloc_at _ _ _ _ rfl]; rfl, by rw [World.cell?_alloc_at _ _ _ _ rfl]; rfl, fun i => frozen_of_row _ w.heap.size i _ T (heap_alloc_new w _)⟩
theorem BuAt.set {w : World} {g v : Nat} {t : Bool} (h : BuAt w g t v) (u : Nat) : BuAt ((w.setCell ⟨g, 0, none⟩ (.int .i64 (u : Int))).setCell ⟨g, 1, none⟩ (.bool true)) g true u ∧ Kept g w ((w.setCell ⟨g, 0, none⟩ (.int .i64 (u : Int))).setCell ⟨g, 1, none⟩ (.bool true)) ∧ ((w.setCell ⟨g, 0, none⟩ (.int .i64 (u : Int))).setCell ⟨g, 1, none⟩ (.bool true)).heap.size = w.heap.size := by
  have e : (w.setCell ⟨g, 0, none⟩ (.int .i64 (u : Int))).cell? ⟨g, 1, none⟩ = some (.bool t) := by
    rw [World.cell?_setCell_other _ _ _ _ (by intro q; cases q)]; exact h.tell
  refine ⟨⟨?_, ?_, fun i => ?_⟩, (Kept.set w 0 _).trans (Kept.set _ 1 _), by simp [World.setCell]⟩
  · rw [World.cell?_setCell_other _ _ _ _ (by intro q; cases q), World.cell?_setCell_same _ _ _ h.cell]
  · rw [World.cell?_setCell_same _ _ _ e]
  · rw [World.frozen?_setCell, World.frozen?_setCell]; exact h.thaw i

set_option maxRecDepth 100000 in
set_option maxHeartbeats 400000 in
theorem burst_new (w : World) :
    Calls Try.prog 7 #[] w fun e w' => e = .returned (.pointer (some ⟨w.heap.size, 0, none⟩)) ∧ BuAt w' w.heap.size false 0 ∧ Below w.heap.size w w' ∧ w'.heap.size = w.heap.size + 1 := by
  go_enter Try.func7, Try.ntmps7
  go_wp2
  go_ret
  exact ⟨rfl, BuAt.made w 36, (Below.refl _ _).alloc (Nat.le_refl _) _, by simp⟩

/-- What the number of one look comes to. -/
theorem look_run {n : Nat} (hn : n < 65536) :
    ∃ P : Nat, P = 16 * n ∧ IntKind.i64.wrap (n : Int) = n ∧ (n : Int) * 16 = (P : Int) ∧ 16 * (n : Int) = (P : Int) ∧ IntKind.i64.wrap (P : Int) = P := by
  refine ⟨_, rfl, ?_, by omega, by omega, ?_⟩
  · simp [IntKind.wrap, IntKind.bits, IntKind.signed]; omega
  · simp only [IntKind.wrap, IntKind.bits, IntKind.signed]; simp; omega
/-- What three times a value and a look come to. -/
theorem next_run {v P : Nat} (hv : v ≤ 1048560) (hP : P ≤ 1048560) :
    ∃ A B V : Nat, V = (3 * v + P) / 4 ∧ 3 * (v : Int) = (A : Int) ∧ (v : Int) * 3 = (A : Int) ∧ IntKind.i64.wrap (A : Int) = A ∧ (A : Int) + (P : Int) = (B : Int) ∧ IntKind.i64.wrap (B : Int) = B ∧ (B : Int).tdiv 4 = (V : Int) ∧ (B : Int) / 4 = (V : Int) ∧ IntKind.i64.wrap (V : Int) = V := by
  refine ⟨3 * v, 3 * v + P, _, rfl, by omega, by omega, ?_, by omega, ?_, ?_, by omega, ?_⟩
  · simp only [IntKind.wrap, IntKind.bits, IntKind.signed]; simp; omega
  · simp only [IntKind.wrap, IntKind.bits, IntKind.signed]; simp; omega
  · rw [Int.tdiv_eq_ediv_of_nonneg (by omega)]; omega
  · simp only [IntKind.wrap, IntKind.bits, IntKind.signed]; simp; omega

set_option maxRecDepth 100000 in
set_option maxHeartbeats 400000 in
theorem badd_nil (a : Value) (w : World) :
    Calls Try.prog 8 #[.pointer none, a] w fun e w' => e = .returned (.tuple #[]) ∧ w' = w := by
  go_enter Try.func8, Try.ntmps8
  go_wp2
  exact bodyPost_ret (results_none Try.results8 _ _ _) rfl ⟨rfl, rfl⟩
set_option maxRecDepth 100000 in
set_option maxHeartbeats 400000 in
theorem bval_nil (w : World) :
    Calls Try.prog 10 #[.pointer none] w fun e w' => e = .returned (.int .i64 0) ∧ w' = w := by
  go_enter Try.func10, Try.ntmps10
  go_wp2
  go_ret
  exact ⟨rfl, rfl⟩
set_option maxRecDepth 100000 in
set_option maxHeartbeats 400000 in
theorem bval_any (g v : Nat) (t : Bool) (w : World) (h : BuAt w g t v) :
    Calls Try.prog 10 #[.pointer (some ⟨g, 0, none⟩)] w fun e w' => e = .returned (.int .i64 (v : Int)) ∧ w' = w := by
  have hc := h.cell
  go_enter Try.func10, Try.ntmps10
  go_wp2
  go_ret
  exact ⟨rfl, rfl⟩
set_option maxRecDepth 100000 in
set_option maxHeartbeats 1000000 in
theorem badd_any (g v n : Nat) (t : Bool) (w : World) (h : BuAt w g t v) (hv : v ≤ 1048560) (hn : n < 65536) :
    Calls Try.prog 8 #[.pointer (some ⟨g, 0, none⟩), .int .u16 (n : Int)] w fun e w' => e = .returned (.tuple #[]) ∧ BuAt w' g true (Bu.val t v n) ∧ Kept g w w' ∧ w'.heap.size = w.heap.size := by
  obtain ⟨V, hV⟩ : ∃ V, Bu.val t v n = V := ⟨_, rfl⟩
  rw [hV]
  obtain ⟨P, hP, e1, e2, e3, e4⟩ := look_run hn
  obtain ⟨W1, hW1⟩ : ∃ W1, w.setCell ⟨g, 0, none⟩ (.int .i64 (V : Int)) = W1 := ⟨_, rfl⟩
  obtain ⟨W2, hW2⟩ : ∃ W2, W1.setCell ⟨g, 1, none⟩ (.bool true) = W2 := ⟨_, rfl⟩
  have END : Hid (BuAt W2 g true V ∧ Kept g w W2 ∧ W2.heap.size = w.heap.size) := by
    have := h.set V
    rw [hW1, hW2] at this
    exact this
  have c0 := h.cell
  have c1 := h.tell
  have f0 := h.thaw 0
  have f1 : W1.frozen? ⟨g, 1, none⟩ = false := by rw [← hW1, World.frozen?_setCell]; exact h.thaw 1
  have c2 : W1.cell? ⟨g, 1, none⟩ = some (.bool t) := by
    rw [← hW1, World.cell?_setCell_other _ _ _ _ (by intro q; cases q)]; exact c1
  cases t
  · have HV : Hid (P = V) := by rw [← hV, Bu.val_first]; exact hP
    clear hV h hv hn hP
    obtain rfl := HV.out
    clear HV
    go_enter Try.func8, Try.ntmps8
    go_wp2
    exact bodyPost_end (results_none Try.results8 _ _ _) rfl ⟨rfl, END.out⟩
  · obtain ⟨A, B, U, hU, d1, d2, d3, d4, d5, d6, d7, d8⟩ := next_run hv (P := P) (by omega)
    have HV : Hid (U = V) := by rw [← hV, Bu.val_next, hU, hP]; rfl
    clear hV h hv hn hP hU
    obtain rfl := HV.out
    clear HV
    go_enter Try.func8, Try.ntmps8
    go_wp2
    exact bodyPost_end (results_none Try.results8 _ _ _) rfl ⟨rfl, END.out⟩
end Go.Proofs.Ytbeppdhmgblknaa

/-
  The document's Mean in memory, and its Add.
-/
import Derived.Test.YtmogplpljinloaaMn0
namespace Go.Proofs.Ytmogplpljinloaa
open Go.RowKit Go.Deep

/-- The block g holds a Mean of the document's. -/
structure RMnAt (w : World) (g : Nat) (t : Bool) (v : Nat) : Prop where
  tell : w.cell? ⟨g, 0, none⟩ = some (.bool t)
  cell : w.cell? ⟨g, 1, none⟩ = some (.int .i64 (v : Int))
  thaw : ∀ i, w.frozen? ⟨g, i, none⟩ = false
theorem RMnAt.block {w w' : World} {g v : Nat} {t : Bool} (h : RMnAt w g t v) (e : w'.heap[g]? = w.heap[g]?) : RMnAt w' g t v :=
  ⟨(World.cell?_of_block e).trans h.tell, (World.cell?_of_block e).trans h.cell, fun i => (World.frozen?_of_block (a := ⟨g, i, none⟩) e).trans (h.thaw i)⟩
theorem RMnAt.same {w w' : World} {g v : Nat} {t : Bool} (h : RMnAt w g t v) (q : Same w w') : RMnAt w' g t v := by
  obtain ⟨n, rfl⟩ := q
  exact h.block rfl
theorem RMnAt.kept {w w' : World} {g v R : Nat} {t : Bool} (h : RMnAt w g t v) (q : Kept R w w') (hR : g ≠ R) : RMnAt w' g t v := h.block (q.block g (cell_lt h.cell) hR)
theorem RMnAt.made (w : World) (T : TypeId) : RMnAt (w.alloc (.cells #[.bool false, .int .i64 0] T)) w.heap.size false 0 :=
  ⟨by rw [World.cell?_alloc_at _ _ _ _ rfl]; rfl, by rw [World.cell?_alloc_at _ _ _ _ rfl]; rfl, fun i => frozen_of_row _ w.heap.size i _ T (heap_alloc_new w _)⟩
theorem RMnAt.set {w : World} {g v : Nat} {t : Bool} (h : RMnAt w g t v) (u : Nat) : RMnAt ((w.setCell ⟨g, 0, none⟩ (.bool true)).setCell ⟨g, 1, none⟩ (.int .i64 (u : Int))) g true u ∧ Kept g w ((w.setCell ⟨g, 0, none⟩ (.bool true)).setCell ⟨g, 1, none⟩ (.int .i64 (u : Int))) ∧ ((w.setCell ⟨g, 0, none⟩ (.bool true)).setCell ⟨g, 1, none⟩ (.int .i64 (u : Int))).heap.size = w.heap.size := by
  have e : (w.setCell ⟨g, 0, none⟩ (.bool true)).cell? ⟨g, 1, none⟩ = some (.int .i64 (v : Int)) := by
    rw [World.cell?_setCell_other _ _ _ _ (by intro q; cases q)]; exact h.cell
  refine ⟨⟨?_, ?_, fun i => ?_⟩, (Kept.set w 0 _).trans (Kept.set _ 1 _), by simp [World.setCell]⟩
  · rw [World.cell?_setCell_other _ _ _ _ (by intro q; cases q), World.cell?_setCell_same _ _ _ h.tell]
  · rw [World.cell?_setCell_same _ _ _ e]
  · rw [World.frozen?_setCell, World.frozen?_setCell]; exact h.thaw i

set_option maxRecDepth 100000 in
set_option maxHeartbeats 1000000 in
theorem rmadd_any (g v l k : Nat) (t : Bool) (w : World) (h : RMnAt w g t v) (hv : v ≤ 65536) (hl : l < 4294967296) (hk : k < 4294967296) :
    Calls Try.prog 10 #[.pointer (some ⟨g, 0, none⟩), .int .u32 (l : Int), .int .u32 (k : Int)] w fun e w' => e = .returned (.tuple #[]) ∧ RMnAt w' g (Mn.any t l k) (Mn.val t v l k) ∧ Kept g w w' ∧ w'.heap.size = w.heap.size := by
  obtain ⟨P, S, Q, hP, hS, hQ, hq, -, e1, e2, e3, e4, e5, e6, e7, e8, e9, e10⟩ := look_run hl hk
  by_cases h0 : l + k = 0
  · have e0 : S = 0 := by omega
    rw [Mn.val_none h0, Mn.any_none h0]
    have HM : Hid (RMnAt w g t v) := h
    clear h hP hS hQ hl hk h0 hv hq e3 e4 e7 e8 e9 e10
    subst e0
    go_enter Try.func10, Try.ntmps10
    go_wp2
    exact bodyPost_ret (results_none Try.results10 _ _ _) rfl ⟨rfl, HM.out, Kept.refl _ _, rfl⟩
  · have h1 : 0 < l + k := by omega
    have e0 : ¬ S = 0 := by omega
    rw [Mn.any_some h1]
    obtain ⟨V, hV⟩ : ∃ V, Mn.val t v l k = V := ⟨_, rfl⟩
    rw [hV]
    obtain ⟨W1, hW1⟩ : ∃ W1, w.setCell ⟨g, 0, none⟩ (.bool true) = W1 := ⟨_, rfl⟩
    obtain ⟨W2, hW2⟩ : ∃ W2, W1.setCell ⟨g, 1, none⟩ (.int .i64 (V : Int)) = W2 := ⟨_, rfl⟩
    have END : Hid (RMnAt W2 g true V ∧ Kept g w W2 ∧ W2.heap.size = w.heap.size) := by
      have := h.set V
      rw [hW1, hW2] at this
      exact this
    have c0 := h.tell
    have c1 := h.cell
    have f0 := h.thaw 0
    have f1 : W1.frozen? ⟨g, 1, none⟩ = false := by rw [← hW1, World.frozen?_setCell]; exact h.thaw 1
    have c2 : W1.cell? ⟨g, 1, none⟩ = some (.int .i64 (v : Int)) := by
      rw [← hW1, World.cell?_setCell_other _ _ _ _ (by intro q; cases q)]; exact c1
    cases t
    · have HV : Hid (Q = V) := by rw [← hV, Mn.val_first h1]; exact hQ
      clear hV h h0 hk hl h1 hP hS hQ
      obtain rfl := HV.out
      clear HV
      go_enter Try.func10, Try.ntmps10
      go_wp2
      exact bodyPost_end (results_none Try.results10 _ _ _) rfl ⟨rfl, END.out⟩
    · have HV : Hid ((7 * v + Q) / 8 = V) := by rw [← hV, Mn.val_next h1, hQ]; rfl
      clear hV h h0 hk hl h1 hP hS hQ
      obtain ⟨A, hA⟩ : ∃ A, A = 7 * v := ⟨_, rfl⟩
      obtain ⟨B, hB⟩ : ∃ B, B = A + Q := ⟨_, rfl⟩
      have hVB : B / 8 = V := by rw [hB, hA]; exact HV.out
      have d1 : 7 * (v : Int) = (A : Int) := by omega
      have d2 : IntKind.i64.wrap (A : Int) = A := by simp [IntKind.wrap, IntKind.bits, IntKind.signed]; omega
      have d3 : (A : Int) + (Q : Int) = (B : Int) := by omega
      have d4 : IntKind.i64.wrap (B : Int) = B := by simp [IntKind.wrap, IntKind.bits, IntKind.signed]; omega
      have d6 : (B : Int) / 8 = (V : Int) := by omega
      have d5 : (B : Int).tdiv 8 = (V : Int) := by rw [Int.tdiv_eq_ediv_of_nonneg (by omega)]; exact d6
      have d7 : IntKind.i64.wrap (V : Int) = V := by simp [IntKind.wrap, IntKind.bits, IntKind.signed]; omega
      clear HV hA hB hVB hv hq
      go_enter Try.func10, Try.ntmps10
      go_wp2
      exact bodyPost_end (results_none Try.results10 _ _ _) rfl ⟨rfl, END.out⟩
end Go.Proofs.Ytmogplpljinloaa

/-
  Package mean: one look, what the value is behind it, and a Mean in memory.
-/
import Derived.Test.YtmogplpljinloaaMem
namespace Go.Proofs.Ytmogplpljinloaa
open Go.RowKit Go.Deep

namespace Mn
/-- One look: which part of all was lost, of 65536. -/
def look (l g : Nat) : Nat := l * 65536 / (l + g)
/-- Whether there was a look, behind one more. -/
def any (t : Bool) (l g : Nat) : Bool := t || decide (0 < l + g)
/-- The value behind one more look. -/
def val (t : Bool) (v l g : Nat) : Nat := if l + g = 0 then v else if t then (7 * v + look l g) / 8 else look l g
theorem look_le (l g : Nat) : look l g ≤ 65536 := by
  unfold look
  by_cases h : l + g = 0
  · rw [h, Nat.div_zero]; omega
  · exact Nat.div_le_of_le_mul (by rw [Nat.add_mul]; omega)
theorem val_le {v : Nat} (h : v ≤ 65536) (t : Bool) (l g : Nat) : val t v l g ≤ 65536 := by
  unfold val
  have := look_le l g
  split
  · exact h
  · split <;> omega
theorem val_none {l g : Nat} (h : l + g = 0) (t : Bool) (v : Nat) : val t v l g = v := by unfold val; rw [if_pos h]
theorem val_first {l g : Nat} (h : 0 < l + g) (v : Nat) : val false v l g = look l g := by unfold val; rw [if_neg (by omega)]; rfl
theorem val_next {l g : Nat} (h : 0 < l + g) (v : Nat) : val true v l g = (7 * v + look l g) / 8 := by unfold val; rw [if_neg (by omega), if_pos rfl]
theorem any_none {l g : Nat} (h : l + g = 0) (t : Bool) : any t l g = t := by unfold any; rw [h]; cases t <;> rfl
theorem any_some {l g : Nat} (h : 0 < l + g) (t : Bool) : any t l g = true := by unfold any; rw [decide_eq_true h]; cases t <;> rfl
end Mn

/-- The block g holds a Mean: its value v, and whether it has looked. -/
structure MnAt (w : World) (g : Nat) (t : Bool) (v : Nat) : Prop where
  cell : w.cell? ⟨g, 0, none⟩ = some (.int .u64 (v : Int))
  tell : w.cell? ⟨g, 1, none⟩ = some (.bool t)
  thaw : ∀ i, w.frozen? ⟨g, i, none⟩ = false
theorem MnAt.block {w w' : World} {g v : Nat} {t : Bool} (h : MnAt w g t v) (e : w'.heap[g]? = w.heap[g]?) : MnAt w' g t v :=
  ⟨(World.cell?_of_block e).trans h.cell, (World.cell?_of_block e).trans h.tell, fun i => (World.frozen?_of_block (a := ⟨g, i, none⟩) e).trans (h.thaw i)⟩
theorem MnAt.same {w w' : World} {g v : Nat} {t : Bool} (h : MnAt w g t v) (q : Same w w') : MnAt w' g t v := by
  obtain ⟨n, rfl⟩ := q
  exact h.block rfl
theorem MnAt.kept {w w' : World} {g v R : Nat} {t : Bool} (h : MnAt w g t v) (q : Kept R w w') (hR : g ≠ R) : MnAt w' g t v := h.block (q.block g (cell_lt h.cell) hR)
theorem MnAt.grew {w w' : World} {g v : Nat} {t : Bool} (h : MnAt w g t v) (q : Below w.heap.size w w') : MnAt w' g t v := h.block (q.block _ (cell_lt h.cell))
theorem MnAt.made (w : World) (T : TypeId) : MnAt (w.alloc (.cells #[.int .u64 0, .bool false] T)) w.heap.size false 0 :=
  ⟨by rw [World.cell?_alloc_at _ _ _ _ rfl]; rfl, by rw [World.cell?_alloc_at _ _ _ _ rfl]; rfl, fun i => frozen_of_row _ w.heap.size i _ T (heap_alloc_new w _)⟩
theorem MnAt.set {w : World} {g v : Nat} {t : Bool} (h : MnAt w g t v) (u : Nat) : MnAt ((w.setCell ⟨g, 0, none⟩ (.int .u64 (u : Int))).setCell ⟨g, 1, none⟩ (.bool true)) g true u ∧ Kept g w ((w.setCell ⟨g, 0, none⟩ (.int .u64 (u : Int))).setCell ⟨g, 1, none⟩ (.bool true)) ∧ ((w.setCell ⟨g, 0, none⟩ (.int .u64 (u : Int))).setCell ⟨g, 1, none⟩ (.bool true)).heap.size = w.heap.size := by
  have e : (w.setCell ⟨g, 0, none⟩ (.int .u64 (u : Int))).cell? ⟨g, 1, none⟩ = some (.bool t) := by
    rw [World.cell?_setCell_other _ _ _ _ (by intro q; cases q)]; exact h.tell
  refine ⟨⟨?_, ?_, fun i => ?_⟩, (Kept.set w 0 _).trans (Kept.set _ 1 _), by simp [World.setCell]⟩
  · rw [World.cell?_setCell_other _ _ _ _ (by intro q; cases q), World.cell?_setCell_same _ _ _ h.cell]
  · rw [World.cell?_setCell_same _ _ _ e]
  · rw [World.frozen?_setCell, World.frozen?_setCell]; exact h.thaw i

set_option maxRecDepth 100000 in
set_option maxHeartbeats 400000 in
theorem mean_new (w : World) :
    Calls Try.prog 8 #[] w fun e w' => e = .returned (.pointer (some ⟨w.heap.size, 0, none⟩)) ∧ MnAt w' w.heap.size false 0 ∧ Below w.heap.size w w' ∧ w'.heap.size = w.heap.size + 1 := by
  go_enter Try.func8, Try.ntmps8
  go_wp2
  go_ret
  exact ⟨rfl, MnAt.made w 40, (Below.refl _ _).alloc (Nat.le_refl _) _, by simp⟩

/-- What the numbers of one look come to. -/
theorem look_run {l g : Nat} (hl : l < 4294967296) (hg : g < 4294967296) :
    ∃ P S Q : Nat, P = l * 65536 ∧ S = l + g ∧ Q = Mn.look l g ∧ Q ≤ 65536 ∧ S ≤ 8589934590 ∧ IntKind.u64.wrap (l : Int) = l ∧ IntKind.u64.wrap (g : Int) = g ∧ (l : Int) * 65536 = (P : Int) ∧ IntKind.u64.wrap (P : Int) = P ∧ (l : Int) + (g : Int) = (S : Int) ∧ IntKind.u64.wrap (S : Int) = S ∧ (P : Int).tdiv (S : Int) = Q ∧ (P : Int) / (S : Int) = Q ∧ IntKind.u64.wrap (Q : Int) = Q ∧ IntKind.i64.wrap (Q : Int) = Q := by
  have hq := Mn.look_le l g
  have hd : ((l * 65536 : Nat) : Int) / ((l + g : Nat) : Int) = (Mn.look l g : Int) := (Int.natCast_ediv _ _).symm
  refine ⟨_, _, _, rfl, rfl, rfl, hq, by omega, ?_, ?_, by omega, ?_, by omega, ?_, ?_, hd, ?_, ?_⟩
  · simp [IntKind.wrap, IntKind.bits, IntKind.signed]; omega
  · simp [IntKind.wrap, IntKind.bits, IntKind.signed]; omega
  · simp only [IntKind.wrap, IntKind.bits, IntKind.signed]; simp; omega
  · simp only [IntKind.wrap, IntKind.bits, IntKind.signed]; simp; omega
  · rw [Int.tdiv_eq_ediv_of_nonneg (by omega)]; exact hd
  · simp [IntKind.wrap, IntKind.bits, IntKind.signed]; omega
  · simp [IntKind.wrap, IntKind.bits, IntKind.signed]; omega

set_option maxRecDepth 100000 in
set_option maxHeartbeats 400000 in
theorem look_any (l g : Nat) (w : World) (hl : l < 4294967296) (hg : g < 4294967296) (h : 0 < l + g) :
    Calls Try.prog 12 #[.int .u32 (l : Int), .int .u32 (g : Int)] w fun e w' => e = .returned (.int .u64 (Mn.look l g : Int)) ∧ w' = w := by
  obtain ⟨P, S, Q, hP, hS, hQ, -, -, e1, e2, e3, e4, e5, e6, e7, e8, e9, -⟩ := look_run hl hg
  have e0 : ¬ S = 0 := by omega
  have HQ : Hid (Q = Mn.look l g) := hQ
  clear hP hS hQ hl hg h
  go_enter Try.func12, Try.ntmps12
  go_wp2
  go_ret
  exact ⟨by rw [← HQ.out]; rfl, rfl⟩

set_option maxRecDepth 100000 in
set_option maxHeartbeats 400000 in
theorem madd_nil (a b : Value) (w : World) :
    Calls Try.prog 9 #[.pointer none, a, b] w fun e w' => e = .returned (.tuple #[]) ∧ w' = w := by
  go_enter Try.func9, Try.ntmps9
  go_wp2
  exact bodyPost_ret (results_none Try.results9 _ _ _) rfl ⟨rfl, rfl⟩
set_option maxRecDepth 100000 in
set_option maxHeartbeats 400000 in
theorem mval_nil (w : World) :
    Calls Try.prog 11 #[.pointer none] w fun e w' => e = .returned (.int .i64 0) ∧ w' = w := by
  go_enter Try.func11, Try.ntmps11
  go_wp2
  go_ret
  exact ⟨rfl, rfl⟩
set_option maxRecDepth 100000 in
set_option maxHeartbeats 400000 in
theorem mval_any (g v : Nat) (t : Bool) (w : World) (h : MnAt w g t v) (hv : v ≤ 65536) :
    Calls Try.prog 11 #[.pointer (some ⟨g, 0, none⟩)] w fun e w' => e = .returned (.int .i64 (v : Int)) ∧ w' = w := by
  have hc := h.cell
  have e1 : IntKind.i64.wrap (v : Int) = v := by simp [IntKind.wrap, IntKind.bits, IntKind.signed]; omega
  go_enter Try.func11, Try.ntmps11
  go_wp2
  go_ret
  exact ⟨rfl, rfl⟩
set_option maxRecDepth 100000 in
set_option maxHeartbeats 1000000 in
theorem madd_any (g v l k : Nat) (t : Bool) (w : World) (h : MnAt w g t v) (hv : v ≤ 65536) (hl : l < 4294967296) (hk : k < 4294967296) :
    Calls Try.prog 9 #[.pointer (some ⟨g, 0, none⟩), .int .u32 (l : Int), .int .u32 (k : Int)] w fun e w' => e = .returned (.tuple #[]) ∧ MnAt w' g (Mn.any t l k) (Mn.val t v l k) ∧ Kept g w w' ∧ w'.heap.size = w.heap.size := by
  by_cases h0 : l + k = 0
  · obtain rfl : l = 0 := by omega
    obtain rfl : k = 0 := by omega
    rw [Mn.val_none h0, Mn.any_none h0]
    have HM : Hid (MnAt w g t v) := h
    clear h
    go_enter Try.func9, Try.ntmps9
    go_wp2
    exact bodyPost_ret (results_none Try.results9 _ _ _) rfl ⟨rfl, HM.out, Kept.refl _ _, rfl⟩
  · have h1 : 0 < l + k := by omega
    have hL : ∀ W, Hid (Calls Try.prog 12 #[.int .u32 (l : Int), .int .u32 (k : Int)] W fun e w' => e = .returned (.int .u64 (Mn.look l k : Int)) ∧ w' = W) := fun W => look_any l k W hl hk h1
    have hq := Mn.look_le l k
    rw [Mn.any_some h1]
    obtain ⟨V, hV⟩ : ∃ V, Mn.val t v l k = V := ⟨_, rfl⟩
    rw [hV]
    obtain ⟨W1, hW1⟩ : ∃ W1, w.setCell ⟨g, 0, none⟩ (.int .u64 (V : Int)) = W1 := ⟨_, rfl⟩
    obtain ⟨W2, hW2⟩ : ∃ W2, W1.setCell ⟨g, 1, none⟩ (.bool true) = W2 := ⟨_, rfl⟩
    have END : Hid (MnAt W2 g true V ∧ Kept g w W2 ∧ W2.heap.size = w.heap.size) := by
      have := h.set V
      rw [hW1, hW2] at this
      exact this
    have c0 := h.cell
    have c1 := h.tell
    have f0 := h.thaw 0
    have f1 : W1.frozen? ⟨g, 1, none⟩ = false := by rw [← hW1, World.frozen?_setCell]; exact h.thaw 1
    have c2 : W1.cell? ⟨g, 1, none⟩ = some (.bool t) := by
      rw [← hW1, World.cell?_setCell_other _ _ _ _ (by intro q; cases q)]; exact c1
    have hz : ((l : Int) == 0) = false ∨ ((l : Int) == 0) = true ∧ ((k : Int) == 0) = false := by
      by_cases hl0 : l = 0
      · exact Or.inr ⟨by simp; omega, by simp; omega⟩
      · exact Or.inl (by simp; omega)
    cases t
    · have HV : Hid (Mn.look l k = V) := by rw [← hV, Mn.val_first h1]; rfl
      clear hV h h0 hk hl h1
      generalize Mn.look l k = q at *
      obtain rfl := HV.out
      clear HV
      rcases hz with z1 | ⟨z1, z2⟩
      · go_enter Try.func9, Try.ntmps9
        go_wp2_with fail
        refine (hL w).out.mono ?_
        rintro e w1 ⟨rfl, rfl⟩
        go_wp2
        exact bodyPost_end (results_none Try.results9 _ _ _) rfl ⟨rfl, END.out⟩
      · go_enter Try.func9, Try.ntmps9
        go_wp2_with fail
        refine (hL w).out.mono ?_
        rintro e w1 ⟨rfl, rfl⟩
        go_wp2
        exact bodyPost_end (results_none Try.results9 _ _ _) rfl ⟨rfl, END.out⟩
    · have HV : Hid ((7 * v + Mn.look l k) / 8 = V) := by rw [← hV, Mn.val_next h1]; rfl
      clear hV h h0 hk hl h1
      generalize Mn.look l k = q at *
      obtain ⟨A, hA⟩ : ∃ A, A = 7 * v := ⟨_, rfl⟩
      obtain ⟨B, hB⟩ : ∃ B, B = A + q := ⟨_, rfl⟩
      have hVB : B / 8 = V := by rw [hB, hA]; exact HV.out
      have e1 : 7 * (v : Int) = (A : Int) := by omega
      have e2 : IntKind.u64.wrap (A : Int) = A := by simp [IntKind.wrap, IntKind.bits, IntKind.signed]; omega
      have e3 : (A : Int) + (q : Int) = (B : Int) := by omega
      have e4 : IntKind.u64.wrap (B : Int) = B := by simp [IntKind.wrap, IntKind.bits, IntKind.signed]; omega
      have e6 : (B : Int) / 8 = (V : Int) := by omega
      have e5 : (B : Int).tdiv 8 = (V : Int) := by rw [Int.tdiv_eq_ediv_of_nonneg (by omega)]; exact e6
      have e7 : IntKind.u64.wrap (V : Int) = V := by simp [IntKind.wrap, IntKind.bits, IntKind.signed]; omega
      clear HV hA hB hVB hv hq
      rcases hz with z1 | ⟨z1, z2⟩
      · go_enter Try.func9, Try.ntmps9
        go_wp2_with fail
        refine (hL w).out.mono ?_
        rintro e w1 ⟨rfl, rfl⟩
        go_wp2
        exact bodyPost_end (results_none Try.results9 _ _ _) rfl ⟨rfl, END.out⟩
      · go_enter Try.func9, Try.ntmps9
        go_wp2_with fail
        refine (hL w).out.mono ?_
        rintro e w1 ⟨rfl, rfl⟩
        go_wp2
        exact bodyPost_end (results_none Try.results9 _ _ _) rfl ⟨rfl, END.out⟩
end Go.Proofs.Ytmogplpljinloaa

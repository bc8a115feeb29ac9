/-
  Package jitter: a packet's way, how far two ways are apart, what the sum is behind it, and a Jitter in memory.
-/
import Derived.Test.YtmgphmjfgoljcaaSer
namespace Go.Proofs.Ytmgphmjfgoljcaa
open Go.RowKit Go.Deep

namespace Ji
/-- A packet's way: the clock's last 16 bits less its stamp. -/
def way (z : Int) (s : Nat) : Nat := ((z - s) % 65536).toNat
/-- How far two ways are apart. -/
def far (a b : Nat) : Nat := (Ser.dif a b).natAbs
/-- The sum behind one more packet. -/
def sum (t : Bool) (v d : Nat) : Nat := if t then v + d - (v + 8) / 16 else v
theorem sum_first (v d : Nat) : sum false v d = v := rfl
theorem sum_next (v d : Nat) : sum true v d = v + d - (v + 8) / 16 := rfl
theorem way_lt (z : Int) (s : Nat) : way z s < 65536 := by unfold way; omega
theorem far_le (a b : Nat) : far a b ≤ 32768 := by
  have := Ser.dif_range a b
  unfold far
  omega
/-- The sum is at most 16 times the greatest distance, and 7 more. -/
theorem sum_le {v d m : Nat} (h : v ≤ 16 * m + 7) (hd : d ≤ m) (t : Bool) : sum t v d ≤ 16 * m + 7 := by
  cases t
  · rw [sum_first]; exact h
  · rw [sum_next]; omega
theorem way_run (z : Int) {s : Nat} (_hs : s < 65536) : ∃ A q : Nat, way z s = q ∧ A < 65536 ∧ IntKind.u16.wrap z = (A : Int) ∧ IntKind.u16.wrap ((A : Int) - (s : Int)) = (q : Int) := by
  refine ⟨(z % 65536).toNat, _, rfl, by omega, ?_, ?_⟩
  · rw [IntKind.wrap_u16]; omega
  · rw [IntKind.wrap_u16]; unfold way; omega
end Ji

/-- The block g holds a Jitter: its sum v, the last way q, and whether a packet came. -/
structure JiAt (w : World) (g : Nat) (t : Bool) (q v : Nat) : Prop where
  cell : w.cell? ⟨g, 0, none⟩ = some (.int .i64 (v : Int))
  way : w.cell? ⟨g, 1, none⟩ = some (.int .u16 (q : Int))
  tell : w.cell? ⟨g, 2, none⟩ = some (.bool t)
  thaw : ∀ i, w.frozen? ⟨g, i, none⟩ = false
theorem JiAt.block {w w' : World} {g q v : Nat} {t : Bool} (h : JiAt w g t q v) (e : w'.heap[g]? = w.heap[g]?) : JiAt w' g t q v :=
  ⟨(World.cell?_of_block e).trans h.cell, (World.cell?_of_block e).trans h.way, (World.cell?_of_block e).trans h.tell, fun i => (World.frozen?_of_block (a := ⟨g, i, none⟩) e).trans (h.thaw i)⟩
theorem JiAt.same {w w' : World} {g q v : Nat} {t : Bool} (h : JiAt w g t q v) (s : Same w w') : JiAt w' g t q v := by
  obtain ⟨n, rfl⟩ := s
  exact h.block rfl
theorem JiAt.kept {w w' : World} {g q v R : Nat} {t : Bool} (h : JiAt w g t q v) (k : Kept R w w') (hR : g ≠ R) : JiAt w' g t q v := h.block (k.block g (cell_lt h.cell) hR)
theorem JiAt.grew {w w' : World} {g q v : Nat} {t : Bool} (h : JiAt w g t q v) (b : Below w.heap.size w w') : JiAt w' g t q v := h.block (b.block _ (cell_lt h.cell))
theorem JiAt.made (w : World) (T : TypeId) : JiAt (w.alloc (.cells #[.int .i64 0, .int .u16 0, .bool false] T)) w.heap.size false 0 0 :=
  ⟨by rw [World.cell?_alloc_at _ _ _ _ rfl]; rfl, by rw [World.cell?_alloc_at _ _ _ _ rfl]; rfl, by rw [World.cell?_alloc_at _ _ _ _ rfl]; rfl, fun i => frozen_of_row _ w.heap.size i _ T (heap_alloc_new w _)⟩
theorem JiAt.put {w : World} {g q v : Nat} {t : Bool} (h : JiAt w g t q v) (u : Nat) : JiAt (w.setCell ⟨g, 0, none⟩ (.int .i64 (u : Int))) g t q u := by
  refine ⟨?_, ?_, ?_, fun i => ?_⟩
  · rw [World.cell?_setCell_same _ _ _ h.cell]
  · rw [World.cell?_setCell_other _ _ _ _ (by intro e; cases e)]; exact h.way
  · rw [World.cell?_setCell_other _ _ _ _ (by intro e; cases e)]; exact h.tell
  · rw [World.frozen?_setCell]; exact h.thaw i
theorem JiAt.step {w : World} {g q v : Nat} {t : Bool} (h : JiAt w g t q v) (p : Nat) : JiAt (w.setCell ⟨g, 1, none⟩ (.int .u16 (p : Int))) g t p v := by
  refine ⟨?_, ?_, ?_, fun i => ?_⟩
  · rw [World.cell?_setCell_other _ _ _ _ (by intro e; cases e)]; exact h.cell
  · rw [World.cell?_setCell_same _ _ _ h.way]
  · rw [World.cell?_setCell_other _ _ _ _ (by intro e; cases e)]; exact h.tell
  · rw [World.frozen?_setCell]; exact h.thaw i
theorem JiAt.came {w : World} {g q v : Nat} {t : Bool} (h : JiAt w g t q v) : JiAt (w.setCell ⟨g, 2, none⟩ (.bool true)) g true q v := by
  refine ⟨?_, ?_, ?_, fun i => ?_⟩
  · rw [World.cell?_setCell_other _ _ _ _ (by intro e; cases e)]; exact h.cell
  · rw [World.cell?_setCell_other _ _ _ _ (by intro e; cases e)]; exact h.way
  · rw [World.cell?_setCell_same _ _ _ h.tell]
  · rw [World.frozen?_setCell]; exact h.thaw i

set_option maxRecDepth 100000 in
set_option maxHeartbeats 400000 in
theorem jitter_new (w : World) :
    Calls Try.prog 8 #[] w fun e w' => e = .returned (.pointer (some ⟨w.heap.size, 0, none⟩)) ∧ JiAt w' w.heap.size false 0 0 ∧ Below w.heap.size w w' ∧ w'.heap.size = w.heap.size + 1 := by
  go_enter Try.func8, Try.ntmps8
  go_wp2
  go_ret
  exact ⟨rfl, JiAt.made w 40, (Below.refl _ _).alloc (Nat.le_refl _) _, by simp⟩

set_option maxRecDepth 100000 in
set_option maxHeartbeats 400000 in
theorem jadd_nil (a b : Value) (w : World) :
    Calls Try.prog 9 #[.pointer none, a, b] w fun e w' => e = .returned (.tuple #[]) ∧ w' = w := by
  go_enter Try.func9, Try.ntmps9
  go_wp2
  exact bodyPost_ret (results_none Try.results9 _ _ _) rfl ⟨rfl, rfl⟩
set_option maxRecDepth 100000 in
set_option maxHeartbeats 400000 in
theorem jval_nil (w : World) :
    Calls Try.prog 11 #[.pointer none] w fun e w' => e = .returned (.int .u16 0) ∧ w' = w := by
  go_enter Try.func11, Try.ntmps11
  go_wp2
  go_ret
  exact ⟨rfl, rfl⟩

/-- What a sixteenth of the sum comes to. -/
theorem part_run {v : Nat} (hv : v ≤ 524295) : ∃ V : Nat, v / 16 = V ∧ (v : Int).tdiv 16 = (V : Int) ∧ (v : Int) / 16 = (V : Int) ∧ IntKind.i64.wrap (V : Int) = V ∧ IntKind.u16.wrap (V : Int) = V ∧ V ≤ 32768 := by
  refine ⟨_, rfl, ?_, by omega, ?_, ?_, by omega⟩
  · rw [Int.tdiv_eq_ediv_of_nonneg (by omega)]; omega
  · simp only [IntKind.wrap, IntKind.bits, IntKind.signed]; simp; omega
  · rw [IntKind.wrap_u16]; omega
set_option maxRecDepth 100000 in
set_option maxHeartbeats 400000 in
theorem jval_any (g q v : Nat) (t : Bool) (w : World) (h : JiAt w g t q v) (hv : v ≤ 524295) :
    Calls Try.prog 11 #[.pointer (some ⟨g, 0, none⟩)] w fun e w' => e = .returned (.int .u16 ((v / 16 : Nat) : Int)) ∧ w' = w := by
  have hc := h.cell
  obtain ⟨V, hV, e1, e2, e3, e4, -⟩ := part_run hv
  rw [hV]
  clear hV
  go_enter Try.func11, Try.ntmps11
  go_wp2
  go_ret
  exact ⟨rfl, rfl⟩

theorem max_sign (ts : Array TypeId) (t : TypeId) (D E : Int) (f : Nat) (w : World) (h : -D = E) (hf : D.natAbs = f) : (Builtin.max_ ts t #[.int .i64 D, .int .i64 E]).run Try.prog w = .ok (.int .i64 (f : Int)) w := by
  subst h hf
  simp [Builtin.max_, Builtin.max2]
  split <;> omega
set_option maxRecDepth 100000 in
set_option maxHeartbeats 400000 in
theorem dist_any (a b : Nat) (w : World) :
    Calls Try.prog 13 #[.int .u16 (a : Int), .int .u16 (b : Int)] w fun e w' => e = .returned (.int .i64 (Ji.far a b : Int)) ∧ w' = w := by
  obtain ⟨D, hD⟩ : ∃ D, Ser.dif a b = D := ⟨_, rfl⟩
  obtain ⟨f, hf⟩ : ∃ f, Ji.far a b = f := ⟨_, rfl⟩
  obtain ⟨E, hE⟩ : ∃ E, -D = E := ⟨_, rfl⟩
  have hr := Ser.dif_range a b
  have e1 := Ser.dif_run a b
  rw [hD] at hr e1
  have e2 : wrap64 D = D := by unfold wrap64; omega
  have e3 : wrap64 E = E := by unfold wrap64; omega
  have e4 : IntKind.i64.wrap D = D := by simp [IntKind.wrap, IntKind.bits, IntKind.signed]; omega
  have e5 : IntKind.i64.wrap E = E := by simp [IntKind.wrap, IntKind.bits, IntKind.signed]; omega
  have r1 := fun ts ty W => max_sign ts ty D E f W hE (by rw [← hf, ← hD]; rfl)
  rw [hf]
  clear hf hD hr
  go_enter Try.func13, Try.ntmps13
  go_wp2
  go_ret
  exact ⟨rfl, rfl⟩

/-- What a sum and a distance come to. -/
theorem next_run {v d : Nat} (hv : v ≤ 524295) (hd : d ≤ 32768) :
    ∃ (B C : Nat) (D : Int) (V : Nat), V = v + d - (v + 8) / 16 ∧ (v : Int) + 8 = (B : Int) ∧ IntKind.i64.wrap (B : Int) = B ∧ (B : Int).tdiv 16 = (C : Int) ∧ (B : Int) / 16 = (C : Int) ∧ IntKind.i64.wrap (C : Int) = C ∧ (d : Int) - (C : Int) = D ∧ IntKind.i64.wrap D = D ∧ (v : Int) + D = (V : Int) ∧ IntKind.i64.wrap (V : Int) = V := by
  refine ⟨v + 8, (v + 8) / 16, _, _, rfl, by omega, ?_, ?_, by omega, ?_, rfl, ?_, by omega, ?_⟩
  · simp only [IntKind.wrap, IntKind.bits, IntKind.signed]; simp; omega
  · rw [Int.tdiv_eq_ediv_of_nonneg (by omega)]; omega
  · simp only [IntKind.wrap, IntKind.bits, IntKind.signed]; simp; omega
  · simp only [IntKind.wrap, IntKind.bits, IntKind.signed]; simp; omega
  · simp only [IntKind.wrap, IntKind.bits, IntKind.signed]; simp; omega

set_option maxRecDepth 100000 in
set_option maxHeartbeats 1000000 in
theorem jadd_any (g q v s : Nat) (z : Int) (t : Bool) (w : World) (h : JiAt w g t q v) (hv : v ≤ 524295) (hs : s < 65536) :
    Calls Try.prog 9 #[.pointer (some ⟨g, 0, none⟩), .int .u16 (s : Int), .int .i64 z] w fun e w' => e = .returned (.tuple #[]) ∧ JiAt w' g true (Ji.way z s) (Ji.sum t v (Ji.far q (Ji.way z s))) ∧ Kept g w w' ∧ w'.heap.size = w.heap.size := by
  obtain ⟨A, p, hp, -, e1, e2⟩ := Ji.way_run z hs
  rw [hp]
  clear hp hs
  have c0 := h.cell
  have c1 := h.way
  have c2 := h.tell
  cases t
  · rw [Ji.sum_first]
    obtain ⟨W1, hW1⟩ : ∃ W1, w.setCell ⟨g, 1, none⟩ (.int .u16 (p : Int)) = W1 := ⟨_, rfl⟩
    obtain ⟨W2, hW2⟩ : ∃ W2, W1.setCell ⟨g, 2, none⟩ (.bool true) = W2 := ⟨_, rfl⟩
    have J1 : JiAt W1 g false p v := hW1 ▸ h.step p
    have END : Hid (JiAt W2 g true p v ∧ Kept g w W2 ∧ W2.heap.size = w.heap.size) := by
      refine ⟨hW2 ▸ J1.came, ?_, ?_⟩
      · rw [← hW2, ← hW1]; exact (Kept.set w 1 _).trans (Kept.set _ 2 _)
      · rw [← hW2, ← hW1]; simp [World.setCell]
    have f1 := h.thaw 1
    have f2 := J1.thaw 2
    have c3 := J1.tell
    clear h J1 hv
    go_enter Try.func9, Try.ntmps9
    go_wp2
    exact bodyPost_end (results_none Try.results9 _ _ _) rfl ⟨rfl, END.out⟩
  · rw [Ji.sum_next]
    obtain ⟨d, hd⟩ : ∃ d, Ji.far q p = d := ⟨_, rfl⟩
    have hd' : d ≤ 32768 := hd ▸ Ji.far_le q p
    rw [hd]
    have hC : ∀ W, Hid (Calls Try.prog 13 #[.int .u16 (q : Int), .int .u16 (p : Int)] W fun e w' => e = .returned (.int .i64 (d : Int)) ∧ w' = W) := fun W => hd ▸ dist_any q p W
    obtain ⟨B, C, D, V, hV, d1, d2, d3, d4, d5, d6, d7, d8, d9⟩ := next_run hv hd'
    rw [← hV]
    obtain ⟨W0, hW0⟩ : ∃ W0, w.drew.setCell ⟨g, 0, none⟩ (.int .i64 (V : Int)) = W0 := ⟨_, rfl⟩
    obtain ⟨W1, hW1⟩ : ∃ W1, W0.setCell ⟨g, 1, none⟩ (.int .u16 (p : Int)) = W1 := ⟨_, rfl⟩
    obtain ⟨W2, hW2⟩ : ∃ W2, W1.setCell ⟨g, 2, none⟩ (.bool true) = W2 := ⟨_, rfl⟩
    have hd0 : JiAt w.drew g true q v := h.same ⟨1, rfl⟩
    have J0 : JiAt W0 g true q V := hW0 ▸ hd0.put V
    have J1 : JiAt W1 g true p V := hW1 ▸ J0.step p
    have END : Hid (JiAt W2 g true p V ∧ Kept g w W2 ∧ W2.heap.size = w.heap.size) := by
      refine ⟨hW2 ▸ J1.came, ?_, ?_⟩
      · rw [← hW2, ← hW1, ← hW0]; exact (((Kept.of_same (w' := w.drew) ⟨1, rfl⟩).trans (Kept.set _ 0 _)).trans (Kept.set _ 1 _)).trans (Kept.set _ 2 _)
      · rw [← hW2, ← hW1, ← hW0]; simp [World.setCell]
    have f0 := hd0.thaw 0
    have f1 := J0.thaw 1
    have f2 := J1.thaw 2
    have c3 := J0.way
    have c4 := J1.tell
    have c5 := hd0.cell
    have c6 := hd0.way
    clear h J1 J0 hd0 hv hd hd' hV
    go_enter Try.func9, Try.ntmps9
    go_wp2_with fail
    go_region_with (refine ((hC _).out).mono ?_; rintro e w6 ⟨rfl, rfl⟩)
    all_goals
      go_wp2
      exact bodyPost_end (results_none Try.results9 _ _ _) rfl ⟨rfl, END.out⟩
end Go.Proofs.Ytmgphmjfgoljcaa

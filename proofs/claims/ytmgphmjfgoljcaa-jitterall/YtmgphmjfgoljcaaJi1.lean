/-
  The document's Jitter in memory, its Add and its Value.
-/
import Derived.Test.YtmgphmjfgoljcaaJi0
import Derived.Test.YtmgphmjfgoljcaaSed
namespace Go.Proofs.Ytmgphmjfgoljcaa
open Go.RowKit Go.Deep

/-- The block g holds a Jitter of the document's. -/
structure RJiAt (w : World) (g : Nat) (t : Bool) (q v : Nat) : Prop where
  tell : w.cell? ⟨g, 0, none⟩ = some (.bool t)
  way : w.cell? ⟨g, 1, none⟩ = some (.int .u16 (q : Int))
  cell : w.cell? ⟨g, 2, none⟩ = some (.int .i64 (v : Int))
  thaw : ∀ i, w.frozen? ⟨g, i, none⟩ = false
theorem RJiAt.block {w w' : World} {g q v : Nat} {t : Bool} (h : RJiAt w g t q v) (e : w'.heap[g]? = w.heap[g]?) : RJiAt w' g t q v :=
  ⟨(World.cell?_of_block e).trans h.tell, (World.cell?_of_block e).trans h.way, (World.cell?_of_block e).trans h.cell, fun i => (World.frozen?_of_block (a := ⟨g, i, none⟩) e).trans (h.thaw i)⟩
theorem RJiAt.same {w w' : World} {g q v : Nat} {t : Bool} (h : RJiAt w g t q v) (s : Same w w') : RJiAt w' g t q v := by
  obtain ⟨n, rfl⟩ := s
  exact h.block rfl
theorem RJiAt.kept {w w' : World} {g q v R : Nat} {t : Bool} (h : RJiAt w g t q v) (k : Kept R w w') (hR : g ≠ R) : RJiAt w' g t q v := h.block (k.block g (cell_lt h.cell) hR)
theorem RJiAt.made (w : World) (T : TypeId) : RJiAt (w.alloc (.cells #[.bool false, .int .u16 0, .int .i64 0] T)) w.heap.size false 0 0 :=
  ⟨by rw [World.cell?_alloc_at _ _ _ _ rfl]; rfl, by rw [World.cell?_alloc_at _ _ _ _ rfl]; rfl, by rw [World.cell?_alloc_at _ _ _ _ rfl]; rfl, fun i => frozen_of_row _ w.heap.size i _ T (heap_alloc_new w _)⟩
theorem RJiAt.put {w : World} {g q v : Nat} {t : Bool} (h : RJiAt w g t q v) (u : Nat) : RJiAt (w.setCell ⟨g, 2, none⟩ (.int .i64 (u : Int))) g t q u := by
  refine ⟨?_, ?_, ?_, fun i => ?_⟩
  · rw [World.cell?_setCell_other _ _ _ _ (by intro e; cases e)]; exact h.tell
  · rw [World.cell?_setCell_other _ _ _ _ (by intro e; cases e)]; exact h.way
  · rw [World.cell?_setCell_same _ _ _ h.cell]
  · rw [World.frozen?_setCell]; exact h.thaw i
theorem RJiAt.step {w : World} {g q v : Nat} {t : Bool} (h : RJiAt w g t q v) (p : Nat) : RJiAt (w.setCell ⟨g, 1, none⟩ (.int .u16 (p : Int))) g t p v := by
  refine ⟨?_, ?_, ?_, fun i => ?_⟩
  · rw [World.cell?_setCell_other _ _ _ _ (by intro e; cases e)]; exact h.tell
  · rw [World.cell?_setCell_same _ _ _ h.way]
  · rw [World.cell?_setCell_other _ _ _ _ (by intro e; cases e)]; exact h.cell
  · rw [World.frozen?_setCell]; exact h.thaw i
theorem RJiAt.came {w : World} {g q v : Nat} {t : Bool} (h : RJiAt w g t q v) : RJiAt (w.setCell ⟨g, 0, none⟩ (.bool true)) g true q v := by
  refine ⟨?_, ?_, ?_, fun i => ?_⟩
  · rw [World.cell?_setCell_same _ _ _ h.tell]
  · rw [World.cell?_setCell_other _ _ _ _ (by intro e; cases e)]; exact h.way
  · rw [World.cell?_setCell_other _ _ _ _ (by intro e; cases e)]; exact h.cell
  · rw [World.frozen?_setCell]; exact h.thaw i

theorem min_cap (ts : Array TypeId) (t : TypeId) (V : Nat) (w : World) (h : V ≤ 32768) : (Builtin.min_ ts t #[.int .i64 (V : Int), .int .i64 65535]).run Try.prog w = .ok (.int .i64 (V : Int)) w := by
  simp [Builtin.min_, Builtin.min2]
  omega
set_option maxRecDepth 100000 in
set_option maxHeartbeats 400000 in
theorem rjval_any (g q v : Nat) (t : Bool) (w : World) (h : RJiAt w g t q v) (hv : v ≤ 524295) :
    Calls Try.prog 12 #[.pointer (some ⟨g, 0, none⟩)] w fun e w' => e = .returned (.int .u16 ((v / 16 : Nat) : Int)) ∧ w' = w := by
  have hc := h.cell
  obtain ⟨V, hV, e1, e2, e3, e4, e5⟩ := part_run hv
  have r1 := fun ts ty W => min_cap ts ty V W e5
  rw [hV]
  clear hV e5
  go_enter Try.func12, Try.ntmps12
  go_wp2
  go_ret
  exact ⟨rfl, rfl⟩

/-- What the document's way comes to: the clock's rest is below nought, or it is not. -/
theorem rway_run (z : Int) {s : Nat} (hs : s < 65536) :
    ∃ (R : Int) (n B C p : Nat) (A : Int), Ji.way z s = p ∧ z.tmod 65536 = R ∧ IntKind.i64.wrap R = R ∧ (decide (R < 0) = true ∧ R + 65536 = (n : Int) ∨ decide (R < 0) = false ∧ R = (n : Int)) ∧ IntKind.i64.wrap (n : Int) = n ∧ IntKind.i64.wrap (s : Int) = s ∧ (n : Int) - (s : Int) = A ∧ IntKind.i64.wrap A = A ∧ A + 65536 = (B : Int) ∧ IntKind.i64.wrap (B : Int) = B ∧ (B : Int).tmod 65536 = (C : Int) ∧ (B : Int) % 65536 = (C : Int) ∧ IntKind.i64.wrap (C : Int) = C ∧ IntKind.u16.wrap (C : Int) = (p : Int) := by
  have w64 : ∀ x : Int, -9223372036854775808 ≤ x → x < 9223372036854775808 → IntKind.i64.wrap x = x := fun x h1 h2 => by
    simp only [IntKind.wrap, IntKind.bits, IntKind.signed]; simp; omega
  have hR : -65536 < z.tmod 65536 ∧ z.tmod 65536 < 65536 ∧ (z - z.tmod 65536) % 65536 = 0 := by
    rw [Int.tmod_eq_emod]
    split <;> omega
  obtain ⟨R, hR'⟩ : ∃ R, z.tmod 65536 = R := ⟨_, rfl⟩
  rw [hR'] at hR
  obtain ⟨h1, h2, h3⟩ := hR
  obtain ⟨n, hn, hn1, hn2⟩ : ∃ n : Nat, (decide (R < 0) = true ∧ R + 65536 = (n : Int) ∨ decide (R < 0) = false ∧ R = (n : Int)) ∧ n < 65536 ∧ (n : Int) = z % 65536 := by
    by_cases h0 : R < 0
    · exact ⟨(R + 65536).toNat, .inl ⟨decide_eq_true h0, by omega⟩, by omega, by omega⟩
    · exact ⟨R.toNat, .inr ⟨decide_eq_false h0, by omega⟩, by omega, by omega⟩
  refine ⟨R, n, n + 65536 - s, (n + 65536 - s) % 65536, _, _, rfl, hR', w64 R (by omega) (by omega), hn, w64 _ (by omega) (by omega), w64 _ (by omega) (by omega), rfl, w64 _ (by omega) (by omega), by omega, w64 _ (by omega) (by omega), ?_, by omega, w64 _ (by omega) (by omega), ?_⟩
  · rw [Int.tmod_eq_emod_of_nonneg (by omega)]; omega
  · rw [IntKind.wrap_u16]; unfold Ji.way; omega
/-- What a sum, a distance and the sum's part come to, as the document has it. -/
theorem rnext_run {v d : Nat} (hv : v ≤ 524295) (hd : d ≤ 32768) :
    ∃ B C S V : Nat, V = v + d - (v + 8) / 16 ∧ (v : Int) + 8 = (B : Int) ∧ IntKind.i64.wrap (B : Int) = B ∧ (B : Int).tdiv 16 = (C : Int) ∧ (B : Int) / 16 = (C : Int) ∧ IntKind.i64.wrap (C : Int) = C ∧ (v : Int) + (d : Int) = (S : Int) ∧ IntKind.i64.wrap (S : Int) = S ∧ (S : Int) - (C : Int) = (V : Int) ∧ IntKind.i64.wrap (V : Int) = V := by
  have w64 : ∀ x : Int, -9223372036854775808 ≤ x → x < 9223372036854775808 → IntKind.i64.wrap x = x := fun x h1 h2 => by
    simp only [IntKind.wrap, IntKind.bits, IntKind.signed]; simp; omega
  refine ⟨v + 8, (v + 8) / 16, v + d, _, rfl, by omega, w64 _ (by omega) (by omega), ?_, by omega, w64 _ (by omega) (by omega), by omega, w64 _ (by omega) (by omega), by omega, w64 _ (by omega) (by omega)⟩
  rw [Int.tdiv_eq_ediv_of_nonneg (by omega)]; omega

set_option maxRecDepth 100000 in
set_option maxHeartbeats 2000000 in
theorem rjadd_any (g q v s : Nat) (z : Int) (t : Bool) (w : World) (h : RJiAt w g t q v) (hv : v ≤ 524295) (hq : q < 65536) (hs : s < 65536) :
    Calls Try.prog 10 #[.pointer (some ⟨g, 0, none⟩), .int .u16 (s : Int), .int .i64 z] w fun e w' => e = .returned (.tuple #[]) ∧ RJiAt w' g true (Ji.way z s) (Ji.sum t v (Ji.far q (Ji.way z s))) ∧ Kept g w w' ∧ w'.heap.size = w.heap.size := by
  have hp' := Ji.way_lt z s
  obtain ⟨R, n, B, C, p, A, hp, e1, e2, hR, e3, e4, e5, e6, e7, e8, e9, e10, e11, e12⟩ := rway_run z hs
  rw [hp] at hp' ⊢
  clear hp hs
  have c0 := h.tell
  have c1 := h.way
  have c2 := h.cell
  cases t
  · rw [Ji.sum_first]
    obtain ⟨W1, hW1⟩ : ∃ W1, w.setCell ⟨g, 0, none⟩ (.bool true) = W1 := ⟨_, rfl⟩
    obtain ⟨W2, hW2⟩ : ∃ W2, W1.setCell ⟨g, 1, none⟩ (.int .u16 (p : Int)) = W2 := ⟨_, rfl⟩
    have J1 : RJiAt W1 g true q v := hW1 ▸ h.came
    have END : Hid (RJiAt W2 g true p v ∧ Kept g w W2 ∧ W2.heap.size = w.heap.size) := by
      refine ⟨hW2 ▸ J1.step p, ?_, ?_⟩
      · rw [← hW2, ← hW1]; exact (Kept.set w 0 _).trans (Kept.set _ 1 _)
      · rw [← hW2, ← hW1]; simp [World.setCell]
    have f1 := h.thaw 0
    have f2 := J1.thaw 1
    have c3 := J1.way
    clear h J1 hv hp' hq
    rcases hR with ⟨i1, i2⟩ | ⟨i1, rfl⟩
    all_goals
      go_enter Try.func10, Try.ntmps10
      go_wp2
      exact bodyPost_end (results_none Try.results10 _ _ _) rfl ⟨rfl, END.out⟩
  · rw [Ji.sum_next]
    obtain ⟨d, hd⟩ : ∃ d, Ji.far q p = d := ⟨_, rfl⟩
    have hd' : d ≤ 32768 := hd ▸ Ji.far_le q p
    rw [hd]
    obtain ⟨D, hD⟩ : ∃ D, Ser.dif q p = D := ⟨_, rfl⟩
    have hDd : decide (D < 0) = true ∧ -D = (d : Int) ∨ decide (D < 0) = false ∧ D = (d : Int) := by
      have : D.natAbs = d := hD ▸ hd
      by_cases h0 : D < 0
      · exact .inl ⟨decide_eq_true h0, by omega⟩
      · exact .inr ⟨decide_eq_false h0, by omega⟩
    have g0 : IntKind.i64.wrap (d : Int) = d := by simp only [IntKind.wrap, IntKind.bits, IntKind.signed]; simp; omega
    have hC : ∀ W, Hid (Calls Try.prog 14 #[.int .u16 (q : Int), .int .u16 (p : Int)] W fun e w' => e = .returned (.int .i64 D) ∧ w' = W) := fun W => hD ▸ rdiff_any q p W hq hp'
    obtain ⟨B2, C2, S, V, hV, d1, d2, d3, d4, d5, d6, d7, d8, d9⟩ := rnext_run hv hd'
    rw [← hV]
    obtain ⟨W0, hW0⟩ : ∃ W0, w.drew.setCell ⟨g, 2, none⟩ (.int .i64 (V : Int)) = W0 := ⟨_, rfl⟩
    obtain ⟨W1, hW1⟩ : ∃ W1, W0.setCell ⟨g, 0, none⟩ (.bool true) = W1 := ⟨_, rfl⟩
    obtain ⟨W2, hW2⟩ : ∃ W2, W1.setCell ⟨g, 1, none⟩ (.int .u16 (p : Int)) = W2 := ⟨_, rfl⟩
    have hd0 : RJiAt w.drew g true q v := h.same ⟨1, rfl⟩
    have J0 : RJiAt W0 g true q V := hW0 ▸ hd0.put V
    have J1 : RJiAt W1 g true q V := hW1 ▸ J0.came
    have END : Hid (RJiAt W2 g true p V ∧ Kept g w W2 ∧ W2.heap.size = w.heap.size) := by
      refine ⟨hW2 ▸ J1.step p, ?_, ?_⟩
      · rw [← hW2, ← hW1, ← hW0]; exact (((Kept.of_same (w' := w.drew) ⟨1, rfl⟩).trans (Kept.set _ 2 _)).trans (Kept.set _ 0 _)).trans (Kept.set _ 1 _)
      · rw [← hW2, ← hW1, ← hW0]; simp [World.setCell]
    have f0 := hd0.thaw 2
    have f1 := J0.thaw 0
    have f2 := J1.thaw 1
    have c3 := J0.tell
    have c4 := J1.way
    have c5 := hd0.cell
    clear h J1 J0 hd0 hv hd hd' hV hq hp' hD
    rcases hR with ⟨i1, i2⟩ | ⟨i1, rfl⟩ <;> rcases hDd with ⟨j1, j2⟩ | ⟨j1, rfl⟩
    all_goals
      go_enter Try.func10, Try.ntmps10
      go_wp2_with fail
      refine ((hC _).out).mono ?_
      rintro e w6 ⟨rfl, rfl⟩
      go_wp2_with fail
      go_region
      go_wp2
      exact bodyPost_end (results_none Try.results10 _ _ _) rfl ⟨rfl, END.out⟩
end Go.Proofs.Ytmgphmjfgoljcaa

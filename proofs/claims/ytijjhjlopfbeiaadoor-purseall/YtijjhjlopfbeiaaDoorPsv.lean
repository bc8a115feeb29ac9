/-
  Package purse: weight, part, rest; serve, by what is left and by parts.
-/
import Derived.Test.YtijjhjlopfbeiaaDoorPtn
import Derived.Test.YtijjhjlopfbeiaaDoorLad
namespace Go.Proofs.YtijjhjlopfbeiaaDoor
open Go.RowKit Go.Deep

/-- The block P holds a purse: what there was, what is left, the weights together, and the row of what each has got. -/
structure PurAt (w : World) (P : Nat) (B L V : Int) (G n : Nat) : Prop where
  c0 : w.cell? ⟨P, 0, none⟩ = some (.int .i64 B)
  c1 : w.cell? ⟨P, 1, none⟩ = some (.int .i64 L)
  c2 : w.cell? ⟨P, 2, none⟩ = some (.int .i64 V)
  c3 : w.cell? ⟨P, 3, none⟩ = some (.slice (some ⟨G, 0, none⟩) n n)
  thaw : ∀ i, w.frozen? ⟨P, i, none⟩ = false
theorem PurAt.lt {w : World} {P G n : Nat} {B L V : Int} (h : PurAt w P B L V G n) : P < w.heap.size := cell_lt h.c0
theorem PurAt.block {w w' : World} {P G n : Nat} {B L V : Int} (h : PurAt w P B L V G n) (e : w'.heap[P]? = w.heap[P]?) : PurAt w' P B L V G n :=
  ⟨(World.cell?_of_block (a := ⟨P, 0, none⟩) e).trans h.c0, (World.cell?_of_block (a := ⟨P, 1, none⟩) e).trans h.c1, (World.cell?_of_block (a := ⟨P, 2, none⟩) e).trans h.c2, (World.cell?_of_block (a := ⟨P, 3, none⟩) e).trans h.c3, fun i => (World.frozen?_of_block (a := ⟨P, i, none⟩) e).trans (h.thaw i)⟩
theorem PurAt.grew {w w' : World} {P G n : Nat} {B L V : Int} (h : PurAt w P B L V G n) (b : Below w.heap.size w w') : PurAt w' P B L V G n := h.block (b.block P h.lt)
theorem PurAt.other {w : World} {P G n R i : Nat} {B L V : Int} {v : Value} (h : PurAt w P B L V G n) (hne : P ≠ R) : PurAt (w.setCell ⟨R, i, none⟩ v) P B L V G n := h.block (Below.heap_setCell w ⟨R, i, none⟩ v P hne)
theorem PurAt.left {w : World} {P G n : Nat} {B L V : Int} (h : PurAt w P B L V G n) (M : Int) : PurAt (w.setCell ⟨P, 1, none⟩ (.int .i64 M)) P B M V G n := by
  refine ⟨?_, ?_, ?_, ?_, fun i => by rw [World.frozen?_setCell]; exact h.thaw i⟩
  · rw [World.cell?_setCell_other _ _ _ _ (by intro e; cases e)]; exact h.c0
  · rw [World.cell?_setCell_same _ _ _ h.c1]
  · rw [World.cell?_setCell_other _ _ _ _ (by intro e; cases e)]; exact h.c2
  · rw [World.cell?_setCell_other _ _ _ _ (by intro e; cases e)]; exact h.c3
theorem PurAt.weight {w : World} {P G n : Nat} {B L V : Int} (h : PurAt w P B L V G n) (M : Int) : PurAt (w.setCell ⟨P, 2, none⟩ (.int .i64 M)) P B L M G n := by
  refine ⟨?_, ?_, ?_, ?_, fun i => by rw [World.frozen?_setCell]; exact h.thaw i⟩
  · rw [World.cell?_setCell_other _ _ _ _ (by intro e; cases e)]; exact h.c0
  · rw [World.cell?_setCell_other _ _ _ _ (by intro e; cases e)]; exact h.c1
  · rw [World.cell?_setCell_same _ _ _ h.c2]
  · rw [World.cell?_setCell_other _ _ _ _ (by intro e; cases e)]; exact h.c3
theorem IRow.grew {w w' : World} {G n : Nat} {x : Nat → Int} (h : IRow w G n x) (b : Below w.heap.size w w') (hG : G < w.heap.size) : IRow w' G n x := h.below b hG
theorem ClmAt.new (w : World) (i r b p : Int) : ClmAt (w.alloc (.cells #[.int .u32 i, .int .i64 r, .int .i64 b, .int .i64 p] 43)) w.heap.size i r b p := ClmAt.made w _ i r b p
theorem ClmAt.other {w : World} {H R j : Nat} {i r b p : Int} {v : Value} (h : ClmAt w H i r b p) (hne : H ≠ R) : ClmAt (w.setCell ⟨R, j, none⟩ v) H i r b p := h.block (Below.heap_setCell w ⟨R, j, none⟩ v H hne)

set_option maxRecDepth 100000 in
set_option maxHeartbeats 1000000 in
theorem bounded_any (x : Int) (w : World) : Calls Tryd.prog 11 #[.int .i64 x] w fun e w' => e = .returned (.int .i64 (Pu.bnd x)) ∧ w' = w := by
  obtain ⟨m, hm⟩ : ∃ m, max x 0 = m := ⟨_, rfl⟩
  obtain ⟨q, hq⟩ : ∃ q, min m 65536 = q := ⟨_, rfl⟩
  have r1 := fun ts ty W => max_run ts ty x 0 m W hm
  have r2 := fun ts ty W => min_run ts ty m 65536 q W hq
  have e : Pu.bnd x = q := by unfold Pu.bnd; rw [hm, hq]
  rw [e]
  clear hm hq e
  go_enter Tryd.func11, Tryd.ntmps11
  go_wp2
  go_ret
  exact ⟨rfl, rfl⟩

theorem wgt_at (r : Int) : ∃ (m : Int) (q : Nat), max r 0 = m ∧ min m 3 = (q : Int) ∧ q < 4 ∧ wtab q = Pu.wgt r := by
  refine ⟨_, (min (max r 0) 3).toNat, rfl, by omega, by omega, ?_⟩
  unfold wtab Pu.wgt
  repeat' split
  all_goals omega

set_option maxRecDepth 100000 in
set_option maxHeartbeats 1000000 in
theorem weight_any (i r b p : Int) (w : World) (hL : Laid w) :
    Calls Tryd.prog 13 #[.agg #[.int .u32 i, .int .i64 r, .int .i64 b, .int .i64 p]] w fun e w' => e = .returned (.int .i64 (Pu.wgt r)) ∧ Below w.heap.size w w' := by
  obtain ⟨m, q, hm, hq, h4, hw⟩ := wgt_at r
  have r1 := fun ts ty W => max_run ts ty r 0 m W hm
  have r2 := fun ts ty W => min_run ts ty m 3 (q : Int) W hq
  obtain ⟨G, hG⟩ : ∃ G, w.heap.size = G := ⟨_, rfl⟩
  obtain ⟨x0, e0⟩ : ∃ x, w.alloc (.cells #[.int .u32 i, .int .i64 r, .int .i64 b, .int .i64 p] 43) = x := ⟨_, rfl⟩
  have B0 : Below w.heap.size w x0 := by rw [← e0]; exact (Below.refl _ _).alloc (Nat.le_refl _) _
  have HB : Hid (Below w.heap.size w x0) := B0
  have A0 : ClmAt x0 G i r b p := by rw [← e0, ← hG]; exact ClmAt.new w i r b p
  have c1 := A0.c1
  have ct := (hL.grew B0).cell q h4
  rw [← hw]
  generalize wtab q = v at *
  clear hm hq hw B0 A0
  go_enter Tryd.func13, Tryd.ntmps13
  go_wp2
  go_ret
  exact ⟨rfl, HB.out⟩

theorem part_run {B V r Q : Int} (h0 : 0 ≤ B) (h1 : B ≤ 65536) (hV : 0 < V) (hQ : B * Pu.wgt r / V = Q) :
    ∃ M : Int, B * Pu.wgt r = M ∧ IntKind.i64.wrap M = M ∧ wrap64 M = M ∧ M.tdiv V = Q ∧ M / V = Q ∧ IntKind.i64.wrap Q = Q ∧ wrap64 Q = Q ∧ ¬ V = 0 ∧ (V == 0) = false ∧ 0 ≤ Q ∧ Q ≤ 524288 := by
  have a := Pu.wgt_range r
  have b : 0 ≤ B * Pu.wgt r := Int.mul_nonneg h0 (by omega)
  have c : B * Pu.wgt r ≤ 65536 * 8 := Int.mul_le_mul h1 a.2 (by omega) (by omega)
  have d : 0 ≤ B * Pu.wgt r / V := Int.ediv_nonneg b (by omega)
  have e : B * Pu.wgt r / V ≤ B * Pu.wgt r := Int.ediv_le_self _ b
  refine ⟨_, rfl, w64 _ (by omega) (by omega), by unfold wrap64; omega, ?_, hQ, w64 _ (by omega) (by omega), by unfold wrap64; omega, by omega, by simp; omega, by omega, by omega⟩
  rw [Int.tdiv_eq_ediv_of_nonneg b, hQ]
/-- What part looks at. -/
structure Part1 (w : World) (P H : Nat) (B L V : Int) (G n : Nat) (i r b p : Int) (W : World) : Prop where
  a : PurAt W P B L V G n
  c : ClmAt W H i r b p
  d : Laid W
  e : Below w.heap.size w W
set_option maxRecDepth 100000 in
set_option maxHeartbeats 1000000 in
theorem part_any (P G n : Nat) (B L V i r b p Q : Int) (w : World) (hP : PurAt w P B L V G n) (hL : Laid w) (h0 : 0 ≤ B) (h1 : B ≤ 65536) (hV : 0 < V) (hQ : B * Pu.wgt r / V = Q) :
    Calls Tryd.prog 15 #[.pointer (some ⟨P, 0, none⟩), .agg #[.int .u32 i, .int .i64 r, .int .i64 b, .int .i64 p]] w fun e w' => e = .returned (.int .i64 Q) ∧ Below w.heap.size w w' := by
  obtain ⟨H, hH⟩ : ∃ H, w.heap.size = H := ⟨_, rfl⟩
  obtain ⟨x0, e0⟩ : ∃ x, w.alloc (.cells #[.int .u32 i, .int .i64 r, .int .i64 b, .int .i64 p] 43) = x := ⟨_, rfl⟩
  have B0 : Below w.heap.size w x0 := by rw [← e0]; exact (Below.refl _ _).alloc (Nat.le_refl _) _
  have A0 : ClmAt x0 H i r b p := by rw [← e0, ← hH]; exact ClmAt.new w i r b p
  have HS : Hid (Part1 w P H B L V G n i r b p x0) := ⟨hP.grew B0, A0, hL.grew B0, B0⟩
  obtain ⟨M, m1, m2, m3, m4, m5, m6, m7, m8, m9, -, -⟩ := part_run h0 h1 hV hQ
  have HW : ∀ W, Hid (Laid W → Calls Tryd.prog 13 #[.agg #[.int .u32 i, .int .i64 r, .int .i64 b, .int .i64 p]] W fun e w' => e = .returned (.int .i64 (Pu.wgt r)) ∧ Below W.heap.size W w') := fun W h => weight_any i r b p W h
  generalize Pu.wgt r = T at *
  clear hP hL h0 h1 hV hQ B0 A0
  go_enter Tryd.func15, Tryd.ntmps15
  go_wp2_with fail
  refine wp_region_held (S := Part1 w P H B L V G n i r b p) (by kernel_rfl) ?_
  change wpAnyH _ _ _ _ _ _ _ _ x0.drew
  have hr : Part1 w P H B L V G n i r b p x0.drew := ⟨HS.out.a.grew (below_drews 1), HS.out.c.grew (below_drews 1), HS.out.d.grew (below_drews 1), HS.out.e.drew⟩
  clear HS e0 hH
  generalize x0.drew = x1 at *
  refine wpAnyH_take (i := 0) (v := .pointer (some ⟨P, 0, none⟩)) rfl (by kernel_rfl) (by kernel_rfl) (by kernel_rfl) (fun _ _ _ h => h) (Yields.yieldsIf (Or.inl ⟨by kernel_rfl, fun _ => by kernel_rfl⟩)) hr ?_
  refine wpAnyH_take (i := 1) (v := .pointer (some ⟨P, 0, none⟩)) rfl (by kernel_rfl) (by kernel_rfl) (by kernel_rfl) (fun _ _ _ h => h) (Yields.yieldsIf (Or.inl ⟨by kernel_rfl, fun _ => by go_simp⟩)) hr ?_
  refine wpAnyH_take (i := 2) (v := .pointer (some ⟨P, 0, none⟩)) rfl (by kernel_rfl) (by kernel_rfl) (by kernel_rfl) (fun _ _ _ h => h) (Yields.yieldsIf (Or.inl ⟨by kernel_rfl, fun _ => by go_simp⟩)) hr ?_
  refine wpAnyH_take (i := 3) (v := .int .i64 B) rfl (by kernel_rfl) (by kernel_rfl) (by kernel_rfl) (fun _ _ _ h => h) (Or.inl ⟨by kernel_rfl, fun W hW => by have g := hW.a.c0; go_simp⟩) hr ?_
  refine wpAnyH_take (i := 4) (v := .agg #[.int .u32 i, .int .i64 r, .int .i64 b, .int .i64 p]) rfl (by kernel_rfl) (by kernel_rfl) (by kernel_rfl) (fun _ _ _ h => h) (Or.inl ⟨by kernel_rfl, fun W hW => by have g0 := hW.c.c0; have g1 := hW.c.c1; have g2 := hW.c.c2; have g3 := hW.c.c3; go_simp⟩) hr ?_
  refine wpAnyH_take (i := 7) (v := .pointer (some ⟨P, 0, none⟩)) rfl (by kernel_rfl) (by kernel_rfl) (by kernel_rfl) (fun _ _ _ h => h) (Yields.yieldsIf (Or.inl ⟨by kernel_rfl, fun _ => by kernel_rfl⟩)) hr ?_
  refine wpAnyH_take (i := 8) (v := .pointer (some ⟨P, 0, none⟩)) rfl (by kernel_rfl) (by kernel_rfl) (by kernel_rfl) (fun _ _ _ h => h) (Yields.yieldsIf (Or.inl ⟨by kernel_rfl, fun _ => by go_simp⟩)) hr ?_
  refine wpAnyH_take (i := 9) (v := .pointer (some ⟨P, 2, none⟩)) rfl (by kernel_rfl) (by kernel_rfl) (by kernel_rfl) (fun _ _ _ h => h) (Yields.yieldsIf (Or.inl ⟨by kernel_rfl, fun _ => by go_simp⟩)) hr ?_
  refine wpAnyH_take (i := 10) (v := .int .i64 V) rfl (by kernel_rfl) (by kernel_rfl) (by kernel_rfl) (fun _ _ _ h => h) (Or.inl ⟨by kernel_rfl, fun W hW => by have g := hW.a.c2; go_simp⟩) hr ?_
  refine wpAnyH_ready (rs := [5]) (by kernel_rfl) (by simp) ?_
  refine AllReadyH.cons rfl (fun K2 hK2 => ?_) AllReadyH.nil
  go_simp
  refine ((HW x1).out hr.d).mono ?_
  rintro e x2 ⟨rfl, b2⟩
  have hr : Part1 w P H B L V G n i r b p x2 := ⟨hr.a.grew b2, hr.c.grew b2, hr.d.grew b2, hr.e.trans (b2.mono hr.e.size)⟩
  clear b2
  refine hK2.out _ _ hr (fun hr => ?_)
  clear hK2 K2
  refine wpAnyH_take (i := 6) (v := .int .i64 M) rfl (by kernel_rfl) (by kernel_rfl) (by kernel_rfl) (fun _ _ _ h => h) (Yields.yieldsIf (Or.inl ⟨by kernel_rfl, fun _ => by go_simp⟩)) hr ?_
  refine wpAnyH_ready (rs := [11]) (by kernel_rfl) (by simp) ?_
  refine AllReadyH.cons rfl (fun K2 hK2 => ?_) AllReadyH.nil
  go_simp
  refine hK2.out _ _ hr (fun hr => ?_)
  clear hK2 K2
  refine wpAnyH_take (i := 12) (v := .int .i64 Q) rfl (by kernel_rfl) (by kernel_rfl) (by kernel_rfl) (fun _ _ _ h => h) (Yields.yieldsIf (Or.inl ⟨by kernel_rfl, fun _ => by kernel_rfl⟩)) hr ?_
  refine wpAnyH_done (by kernel_rfl) ?_ _
  have HE : Hid (Below w.heap.size w x2) := hr.e
  clear hr
  go_wp2
  go_ret
  exact ⟨rfl, HE.out⟩

set_option maxRecDepth 100000 in
set_option maxHeartbeats 1000000 in
theorem rest_any (P G n : Nat) (B L V i r b p Q : Int) (w : World) (hP : PurAt w P B L V G n) (hQ : L = Q) :
    Calls Tryd.prog 16 #[.pointer (some ⟨P, 0, none⟩), .agg #[.int .u32 i, .int .i64 r, .int .i64 b, .int .i64 p]] w fun e w' => e = .returned (.int .i64 Q) ∧ Below w.heap.size w w' := by
  subst hQ
  obtain ⟨H, hH⟩ : ∃ H, w.heap.size = H := ⟨_, rfl⟩
  obtain ⟨x0, e0⟩ : ∃ x, w.alloc (.cells #[.int .u32 i, .int .i64 r, .int .i64 b, .int .i64 p] 43) = x := ⟨_, rfl⟩
  have B0 : Below w.heap.size w x0 := by rw [← e0]; exact (Below.refl _ _).alloc (Nat.le_refl _) _
  have HB : Hid (Below w.heap.size w x0) := B0
  have c1 := (hP.grew B0).c1
  clear hP B0
  go_enter Tryd.func16, Tryd.ntmps16
  go_wp2
  go_ret
  exact ⟨rfl, HB.out⟩

/-- What one round of serve looks at. -/
structure Srv (w : World) (S P H C : Nat) (B L V : Int) (G n : Nat) (g : Nat → Int) (K : Nat → Wt) (o : Nat → Nat) (i r b p : Int) (W : World) : Prop where
  a : PurAt W P B L V G n
  c : ClmAt W H i r b p
  d : Laid W
  e : Below S w W
  f : IRow W G n g
  k : ClsAt W C n K o
  l : S ≤ P ∧ S ≤ G ∧ S ≤ H ∧ 0 < S ∧ G < W.heap.size ∧ C < W.heap.size ∧ P ≠ G ∧ C ≠ P ∧ C ≠ G ∧ H ≠ P ∧ H ≠ G
theorem Srv.sz {w : World} {S P H C : Nat} {B L V : Int} {G n : Nat} {g : Nat → Int} {K : Nat → Wt} {o : Nat → Nat} {i r b p : Int} {W : World} (h : Srv w S P H C B L V G n g K o i r b p W) : S ≤ W.heap.size := Nat.le_trans h.l.2.2.1 (Nat.le_of_lt (cell_lt h.c.c0))
theorem Srv.grew {w : World} {S P H C : Nat} {B L V : Int} {G n : Nat} {g : Nat → Int} {K : Nat → Wt} {o : Nat → Nat} {i r b p : Int} {W W' : World} (h : Srv w S P H C B L V G n g K o i r b p W) (q : Below W.heap.size W W') : Srv w S P H C B L V G n g K o i r b p W' :=
  ⟨h.a.grew q, h.c.grew q, h.d.grew q, h.e.trans (q.mono h.sz), h.f.grew q h.l.2.2.2.2.1, h.k.block (q.block C h.l.2.2.2.2.2.1), h.l.1, h.l.2.1, h.l.2.2.1, h.l.2.2.2.1, Nat.lt_of_lt_of_le h.l.2.2.2.2.1 q.size, Nat.lt_of_lt_of_le h.l.2.2.2.2.2.1 q.size, h.l.2.2.2.2.2.2⟩
theorem Srv.got {w : World} {S P H C : Nat} {B L V : Int} {G n : Nat} {g g' : Nat → Int} {K : Nat → Wt} {o : Nat → Nat} {i r b p : Int} {W : World} (h : Srv w S P H C B L V G n g K o i r b p W) {q : Nat} {v : Int} (hq : q < n) (hg : ∀ j, j < n → g' j = if j = q then v else g j) :
    Srv w S P H C B L V G n g' K o i r b p (W.setCell ⟨G, q, none⟩ (.int .i64 v)) := by
  obtain ⟨l1, l2, l3, l4, l5, l6, l7, l8, l9, l10, l11⟩ := h.l
  exact ⟨h.a.other l7, h.c.other l11, h.d.block (Below.heap_setCell W ⟨G, q, none⟩ _ 0 (by show (0 : Nat) ≠ G; omega)), h.e.setCell (p := ⟨G, q, none⟩) l2 _, h.f.put hq hg, h.k.block (Below.heap_setCell W ⟨G, q, none⟩ _ C l9), l1, l2, l3, l4, by simpa [World.setCell] using l5, by simpa [World.setCell] using l6, l7, l8, l9, l10, l11⟩
theorem Srv.gave {w : World} {S P H C : Nat} {B L V : Int} {G n : Nat} {g : Nat → Int} {K : Nat → Wt} {o : Nat → Nat} {i r b p : Int} {W : World} (h : Srv w S P H C B L V G n g K o i r b p W) (M : Int) :
    Srv w S P H C B M V G n g K o i r b p (W.setCell ⟨P, 1, none⟩ (.int .i64 M)) := by
  obtain ⟨l1, l2, l3, l4, l5, l6, l7, l8, l9, l10, l11⟩ := h.l
  exact ⟨h.a.left M, h.c.other l10, h.d.block (Below.heap_setCell W ⟨P, 1, none⟩ _ 0 (by show (0 : Nat) ≠ P; omega)), h.e.setCell (p := ⟨P, 1, none⟩) l1 _, h.f.other (fun q => l7 q.symm), h.k.block (Below.heap_setCell W ⟨P, 1, none⟩ _ C l8), l1, l2, l3, l4, by simpa [World.setCell] using l5, by simpa [World.setCell] using l6, l7, l8, l9, l10, l11⟩
/-- How serve stands, ahead of its next round. -/
def Stood (w : World) (S P C : Nat) (B V : Int) (G n : Nat) (s : Pu.St) (K : Nat → Wt) (o : Nat → Nat) (W : World) : Prop :=
  PurAt W P B s.l V G n ∧ Laid W ∧ Below S w W ∧ IRow W G n s.g ∧ ClsAt W C n K o ∧ S ≤ P ∧ S ≤ G ∧ 0 < S ∧ G < W.heap.size ∧ C < W.heap.size ∧ P ≠ G ∧ C ≠ P ∧ C ≠ G
theorem Stood.srv {w : World} {S P C : Nat} {B V : Int} {G n : Nat} {s : Pu.St} {K : Nat → Wt} {o : Nat → Nat} {W : World} (h : Stood w S P C B V G n s K o W) (i r b p : Int) :
    Srv w S P W.heap.size C B s.l V G n s.g K o i r b p (W.alloc (.cells #[.int .u32 i, .int .i64 r, .int .i64 b, .int .i64 p] 43)) := by
  obtain ⟨a, d, e, f, k, l1, l2, l4, l5, l6, l7, l8, l9⟩ := h
  have q : Below W.heap.size W (W.alloc (.cells #[.int .u32 i, .int .i64 r, .int .i64 b, .int .i64 p] 43)) := (Below.refl _ _).alloc (Nat.le_refl _) _
  have := a.lt
  exact ⟨a.grew q, ClmAt.new W i r b p, d.grew q, e.trans (q.mono (by omega)), f.grew q l5, k.block (q.block C l6), l1, l2, by omega, l4, Nat.lt_of_lt_of_le l5 q.size, Nat.lt_of_lt_of_le l6 q.size, l7, l8, l9, by omega, by omega⟩
theorem Srv.stood {w : World} {S P H C : Nat} {B L V : Int} {G n : Nat} {g : Nat → Int} {K : Nat → Wt} {o : Nat → Nat} {i r b p : Int} {W : World} (h : Srv w S P H C B L V G n g K o i r b p W) (s : Pu.St) (hs : s = ⟨g, L⟩) : Stood w S P C B V G n s K o W := by
  subst hs
  obtain ⟨l1, l2, l3, l4, l5, l6, l7, l8, l9, -, -⟩ := h.l
  exact ⟨h.a, h.d, h.e, h.f, h.k, l1, l2, l4, l5, l6, l7, l8, l9⟩
theorem give_step (s : Pu.St) (p : Nat) (m x : Int) (hx : s.g p + m = x) : ∀ j, (Pu.give s p m).g j = if j = p then x else s.g j := fun j => by
  show (if j = p then s.g j + m else s.g j) = _
  by_cases e : j = p
  · rw [if_pos e, if_pos e, e, hx]
  · rw [if_neg e, if_neg e]
set_option maxRecDepth 100000 in
set_option maxHeartbeats 1000000 in
theorem serve_parts (P G C n : Nat) (B V : Int) (s : Pu.St) (K : Nat → Wt) (o : Nat → Nat) (S : Nat) (w : World) (h : Stood w S P C B V G n s K o w) (hn : n ≤ 1000) (ho : ∀ t, t < n → o t < n) (h0 : 0 ≤ B) (h1 : B ≤ 65536) (hV : V = Pu.weigh K n)
    (hb : ∀ t, t ≤ n → (∀ j, j < n → 0 ≤ (Pu.serve K (Pu.parts K n B) o s t).g j ∧ (Pu.serve K (Pu.parts K n B) o s t).g j ≤ 65536) ∧ -100000000 ≤ (Pu.serve K (Pu.parts K n B) o s t).l ∧ (Pu.serve K (Pu.parts K n B) o s t).l ≤ 100000000) :
    Calls Tryd.prog 14 #[.pointer (some ⟨P, 0, none⟩), .slice (some ⟨C, 0, none⟩) n n, .func (.func 15) #[] #[]] w fun e w' => e = .returned (.tuple #[]) ∧ Stood w S P C B V G n (Pu.serve K (Pu.parts K n B) o s n) K o w' := by
  have H0 : Hid (Stood w S P C B V G n s K o w) := h
  have HO : Hid (∀ t, t < n → o t < n) := ho
  have HD : Hid (∀ t, t ≤ n → (∀ j, j < n → 0 ≤ (Pu.serve K (Pu.parts K n B) o s t).g j ∧ (Pu.serve K (Pu.parts K n B) o s t).g j ≤ 65536) ∧ -100000000 ≤ (Pu.serve K (Pu.parts K n B) o s t).l ∧ (Pu.serve K (Pu.parts K n B) o s t).l ≤ 100000000) := hb
  have Hh : Hid (0 ≤ B ∧ B ≤ 65536 ∧ V = Pu.weigh K n) := ⟨h0, h1, hV⟩
  clear h0 h1 hV
  clear h ho hb
  go_enter Tryd.func14, Tryd.ntmps14
  go_wp2
  go_loopw [11] (fun i wr => ∃ k : Nat, k ≤ n ∧ i = .int .i64 (k : Int) ∧ Hid (Stood w S P C B V G n (Pu.serve K (Pu.parts K n B) o s k) K o wr)) (fun i _ => n - (intOf i).toNat)
  case atStart => exact ⟨0, Nat.zero_le _, rfl, H0⟩
  case round =>
    obtain ⟨k, hk, rfl, hs⟩ := hrel
    clear H0
    by_cases h : k < n
    · have i1 : (k : Int) < (n : Int) := by omega
      obtain ⟨u, hu⟩ : ∃ u, Pu.serve K (Pu.parts K n B) o s k = u := ⟨_, rfl⟩
      obtain ⟨p, hp⟩ : ∃ p, o k = p := ⟨_, rfl⟩
      have hpn : p < n := by rw [← hp]; exact HO.out k h
      obtain ⟨d1, d2, d3⟩ := HD.out k hk
      obtain ⟨f1, f2, f3⟩ := HD.out (k + 1) h
      have f1 := f1 p hpn
      have hstep : Pu.serve K (Pu.parts K n B) o s (k + 1) = Pu.give u p (Pu.more K u p ((Pu.parts K n B) u p)) := by rw [← hu, ← hp]; rfl
      rw [hstep] at f1 f2 f3
      rw [hu] at d1 d2 d3 hs
      obtain ⟨q, hq⟩ : ∃ q, (Pu.parts K n B) u p = q := ⟨_, rfl⟩
      obtain ⟨bb, hbb⟩ : ∃ x, Pu.bnd (K p).b = x := ⟨_, rfl⟩
      obtain ⟨y, hy⟩ : ∃ y, u.g p = y := ⟨_, rfl⟩
      obtain ⟨D, hD⟩ : ∃ D, bb - y = D := ⟨_, rfl⟩
      obtain ⟨m, hm⟩ : ∃ m, min q D = m := ⟨_, rfl⟩
      have em : Pu.more K u p q = m := by unfold Pu.more; rw [hbb, hy, hD, hm]
      rw [hq, em] at hstep f1 f2 f3
      obtain ⟨x, hx⟩ : ∃ x, y + m = x := ⟨_, rfl⟩
      obtain ⟨Z, hZ⟩ : ∃ Z, u.l - m = Z := ⟨_, rfl⟩
      have gx : (Pu.give u p m).g p = x := by rw [Pu.give_same, hy, hx]
      have gz : (Pu.give u p m).l = Z := hZ
      rw [gx] at f1
      rw [gz] at f2 f3
      have dy := d1 p hpn
      rw [hy] at dy
      have db := Pu.bnd_range (K p).b
      rw [hbb] at db
      have HM : Hid (Pu.serve K (Pu.parts K n B) o s (k + 1) = Pu.give u p m) := hstep
      have HX : Hid (u.g p + m = x) := by rw [hy]; exact hx
      have e1 : IntKind.i64.wrap D = D := w64 _ (by omega) (by omega)
      have e2 : IntKind.i64.wrap x = x := w64 _ (by omega) (by omega)
      have e3 : IntKind.i64.wrap Z = Z := w64 _ (by omega) (by omega)
      have r1 := fun ts ty W => min_run ts ty q D m W hm
      have HBB : ∀ W, Hid (Calls Tryd.prog 11 #[.int .i64 (K p).b] W fun e w' => e = .returned (.int .i64 bb) ∧ w' = W) := fun W => by
        have := bounded_any (K p).b W
        rwa [hbb] at this
      have HQ : Hid ((Pu.parts K n B) u p = q) := hq
      have HY : Hid (u.g p = y) := hy
      have hpi : (p : Int) < (n : Int) := by omega
      clear d1 d2 d3 f1 f2 f3 hstep em gx gz hm hbb hq hy dy db
      obtain ⟨c0, c1, c2, c3⟩ := hs.out.2.2.2.2.1 k h
      rw [hp] at c0 c1 c2 c3
      obtain ⟨i, hi⟩ : ∃ i, (K p).id = i := ⟨_, rfl⟩
      obtain ⟨r, hr0⟩ : ∃ r, (K p).r = r := ⟨_, rfl⟩
      obtain ⟨b, hb0⟩ : ∃ b, (K p).b = b := ⟨_, rfl⟩
      have HR : Hid ((K p).r = r) := hr0
      rw [hi] at c0
      rw [hr0] at c1
      rw [hb0] at c2 HBB
      clear hi hr0 hb0 hu hp
      obtain ⟨H, hH⟩ : ∃ H, wr.heap.size = H := ⟨_, rfl⟩
      obtain ⟨x0, e0⟩ : ∃ x, wr.alloc (.cells #[.int .u32 i, .int .i64 r, .int .i64 b, .int .i64 (p : Int)] 43) = x := ⟨_, rfl⟩
      have HV : Hid (Srv w S P H C B u.l V G n u.g K o i r b (p : Int) x0) := by rw [← e0, ← hH]; exact hs.out.srv i r b (p : Int)
      have HUL : Hid (u.l - m = Z) := hZ
      obtain ⟨L, hL⟩ : ∃ L, u.l = L := ⟨_, rfl⟩
      rw [hL] at HV hZ
      have HLL : Hid (u.l = L) := hL
      clear hL hs
      go_wp2_with fail
      refine wp_region_held (S := Srv w S P H C B L V G n u.g K o i r b (p : Int)) (by kernel_rfl) ?_
      change wpAnyH _ _ _ _ _ _ _ _ x0.drew
      have hr : Srv w S P H C B L V G n u.g K o i r b (p : Int) x0.drew := HV.out.grew (below_drews 1)
      clear HV e0 hH c0 c1 c2 c3
      generalize x0.drew = x1 at *
      refine wpAnyH_take (i := 0) (v := .func (.func 15) #[] #[]) rfl (by kernel_rfl) (by kernel_rfl) (by kernel_rfl) (fun _ _ _ h => h) (Yields.yieldsIf (Or.inl ⟨by kernel_rfl, fun _ => by kernel_rfl⟩)) hr ?_
      refine wpAnyH_take (i := 1) (v := .pointer (some ⟨P, 0, none⟩)) rfl (by kernel_rfl) (by kernel_rfl) (by kernel_rfl) (fun _ _ _ h => h) (Yields.yieldsIf (Or.inl ⟨by kernel_rfl, fun _ => by kernel_rfl⟩)) hr ?_
      refine wpAnyH_take (i := 2) (v := .agg #[.int .u32 i, .int .i64 r, .int .i64 b, .int .i64 (p : Int)]) rfl (by kernel_rfl) (by kernel_rfl) (by kernel_rfl) (fun _ _ _ h => h) (Or.inl ⟨by kernel_rfl, fun W hW => by have g0 := hW.c.c0; have g1 := hW.c.c1; have g2 := hW.c.c2; have g3 := hW.c.c3; go_simp⟩) hr ?_
      refine wpAnyH_take (i := 4) (v := .pointer (some ⟨H, 0, none⟩)) rfl (by kernel_rfl) (by kernel_rfl) (by kernel_rfl) (fun _ _ _ h => h) (Yields.yieldsIf (Or.inl ⟨by kernel_rfl, fun _ => by go_simp⟩)) hr ?_
      refine wpAnyH_take (i := 5) (v := .pointer (some ⟨H, 2, none⟩)) rfl (by kernel_rfl) (by kernel_rfl) (by kernel_rfl) (fun _ _ _ h => h) (Yields.yieldsIf (Or.inl ⟨by kernel_rfl, fun _ => by go_simp⟩)) hr ?_
      refine wpAnyH_take (i := 6) (v := .int .i64 b) rfl (by kernel_rfl) (by kernel_rfl) (by kernel_rfl) (fun _ _ _ h => h) (Or.inl ⟨by kernel_rfl, fun W hW => by have g := hW.c.c2; go_simp⟩) hr ?_
      refine wpAnyH_take (i := 8) (v := .pointer (some ⟨P, 0, none⟩)) rfl (by kernel_rfl) (by kernel_rfl) (by kernel_rfl) (fun _ _ _ h => h) (Yields.yieldsIf (Or.inl ⟨by kernel_rfl, fun _ => by kernel_rfl⟩)) hr ?_
      refine wpAnyH_take (i := 9) (v := .pointer (some ⟨P, 0, none⟩)) rfl (by kernel_rfl) (by kernel_rfl) (by kernel_rfl) (fun _ _ _ h => h) (Yields.yieldsIf (Or.inl ⟨by kernel_rfl, fun _ => by go_simp⟩)) hr ?_
      refine wpAnyH_take (i := 10) (v := .pointer (some ⟨P, 3, none⟩)) rfl (by kernel_rfl) (by kernel_rfl) (by kernel_rfl) (fun _ _ _ h => h) (Yields.yieldsIf (Or.inl ⟨by kernel_rfl, fun _ => by go_simp⟩)) hr ?_
      refine wpAnyH_take (i := 11) (v := .slice (some ⟨G, 0, none⟩) n n) rfl (by kernel_rfl) (by kernel_rfl) (by kernel_rfl) (fun _ _ _ h => h) (Or.inl ⟨by kernel_rfl, fun W hW => by have g := hW.a.c3; go_simp⟩) hr ?_
      refine wpAnyH_take (i := 12) (v := .pointer (some ⟨H, 3, none⟩)) rfl (by kernel_rfl) (by kernel_rfl) (by kernel_rfl) (fun _ _ _ h => h) (Yields.yieldsIf (Or.inl ⟨by kernel_rfl, fun _ => by go_simp⟩)) hr ?_
      refine wpAnyH_take (i := 13) (v := .int .i64 (p : Int)) rfl (by kernel_rfl) (by kernel_rfl) (by kernel_rfl) (fun _ _ _ h => h) (Or.inl ⟨by kernel_rfl, fun W hW => by have g := hW.c.c3; go_simp⟩) hr ?_
      refine wpAnyH_take (i := 14) (v := .pointer (some ⟨G, p, none⟩)) rfl (by kernel_rfl) (by kernel_rfl) (by kernel_rfl) (fun _ _ _ h => h) (Yields.yieldsIf (Or.inl ⟨by kernel_rfl, fun _ => by go_simp⟩)) hr ?_
      refine wpAnyH_take (i := 15) (v := .int .i64 y) rfl (by kernel_rfl) (by kernel_rfl) (by kernel_rfl) (fun _ _ _ h => h) (Or.inl ⟨by kernel_rfl, fun W hW => by have g := hW.f.cell p hpn; rw [HY.out] at g; go_simp⟩) hr ?_
      refine wpAnyH_ready (rs := [3]) (by kernel_rfl) (by simp) ?_
      refine AllReadyH.cons rfl (fun K2 hK2 => ?_) AllReadyH.nil
      go_simp
      refine Calls.mono (part_any P G n B L V i r b (p : Int) q x1 hr.a hr.d Hh.out.1 Hh.out.2.1 (by have := Pu.weigh_range K n; have := Hh.out.2.2; omega) (by rw [← HQ.out, ← HR.out, Hh.out.2.2]; rfl)) ?_
      rintro e x2 ⟨rfl, b2⟩
      have hr := hr.grew b2
      clear b2
      refine hK2.out _ _ hr (fun hr => ?_)
      clear hK2 K2
      refine wpAnyH_ready (rs := [7]) (by kernel_rfl) (by simp) ?_
      refine AllReadyH.cons rfl (fun K2 hK2 => ?_) AllReadyH.nil
      go_simp
      refine ((HBB x2).out).mono ?_
      rintro e w' ⟨rfl, hw⟩
      subst w'
      refine hK2.out _ _ hr (fun hr => ?_)
      clear hK2 K2
      refine wpAnyH_take (i := 16) (v := .int .i64 D) rfl (by kernel_rfl) (by kernel_rfl) (by kernel_rfl) (fun _ _ _ h => h) (Yields.yieldsIf (Or.inl ⟨by kernel_rfl, fun _ => by go_simp⟩)) hr ?_
      refine wpAnyH_ready (rs := [17]) (by kernel_rfl) (by simp) ?_
      refine AllReadyH.cons rfl (fun K2 hK2 => ?_) AllReadyH.nil
      go_simp
      refine hK2.out _ _ hr (fun hr => ?_)
      clear hK2 K2
      refine wpAnyH_take (i := 18) (v := .int .i64 m) rfl (by kernel_rfl) (by kernel_rfl) (by kernel_rfl) (fun _ _ _ h => h) (Yields.yieldsIf (Or.inl ⟨by kernel_rfl, fun _ => by kernel_rfl⟩)) hr ?_
      refine wpAnyH_done (by kernel_rfl) ?_ _
      have HV : Hid (Srv w S P H C B L V G n u.g K o i r b (p : Int) x2) := hr
      clear hr HBB
      obtain ⟨x3, e3'⟩ : ∃ x, x2.drew = x := ⟨_, rfl⟩
      have HV3 : Hid (Srv w S P H C B L V G n u.g K o i r b (p : Int) x3) := by rw [← e3']; exact HV.out.grew (below_drews 1)
      obtain ⟨x4, e4⟩ : ∃ x4, x3.setCell ⟨G, p, none⟩ (.int .i64 x) = x4 := ⟨_, rfl⟩
      have HV4 : Hid (Srv w S P H C B L V G n (Pu.give u p m).g K o i r b (p : Int) x4) := by rw [← e4]; exact HV3.out.got hpn (fun j _ => give_step u p m x HX.out j)
      obtain ⟨x5, e5⟩ : ∃ x5, x4.setCell ⟨P, 1, none⟩ (.int .i64 Z) = x5 := ⟨_, rfl⟩
      have HE : Hid (Stood w S P C B V G n (Pu.serve K (Pu.parts K n B) o s (k + 1)) K o x5) := by
        rw [← e5]
        exact (HV4.out.gave Z).stood _ (by rw [HM.out]; show Pu.St.mk _ _ = _; rw [HUL.out]; rfl)
      have p3 := HV3.out.a.c3
      have q3 := HV3.out.c.c3
      have g1 := HV3.out.f.cell p hpn
      rw [HY.out] at g1
      have g2 := HV3.out.f.thaw p
      have p1 := HV4.out.a.c1
      have p2 := HV4.out.a.thaw 1
      clear HV HV3 HV4
      go_wp2_with fail
      go_region
      try rw [e3']
      go_wp2_with fail
      go_roundw
      case rel => exact ⟨k + 1, by omega, by go_num, HE⟩
      case measure => simp [intOf]; omega
      case roundEnd => exact ⟨⟨k + 1, by omega, by go_num, HE⟩, by simp [intOf]; omega⟩
    · obtain rfl : k = n := by omega
      have i1 : decide ((k : Int) < (k : Int)) = false := by simp
      clear h
      go_wp2_with fail
      exact bodyPost_end (results_none Tryd.results14 _ _ _) rfl ⟨rfl, hs.out⟩
set_option maxRecDepth 100000 in
set_option maxHeartbeats 1000000 in
theorem serve_rest (P G C n : Nat) (B V : Int) (s : Pu.St) (K : Nat → Wt) (o : Nat → Nat) (S : Nat) (w : World) (h : Stood w S P C B V G n s K o w) (hn : n ≤ 1000) (ho : ∀ t, t < n → o t < n) 
    (hb : ∀ t, t ≤ n → (∀ j, j < n → 0 ≤ (Pu.serve K Pu.rest o s t).g j ∧ (Pu.serve K Pu.rest o s t).g j ≤ 65536) ∧ -100000000 ≤ (Pu.serve K Pu.rest o s t).l ∧ (Pu.serve K Pu.rest o s t).l ≤ 100000000) :
    Calls Tryd.prog 14 #[.pointer (some ⟨P, 0, none⟩), .slice (some ⟨C, 0, none⟩) n n, .func (.func 16) #[] #[]] w fun e w' => e = .returned (.tuple #[]) ∧ Stood w S P C B V G n (Pu.serve K Pu.rest o s n) K o w' := by
  have H0 : Hid (Stood w S P C B V G n s K o w) := h
  have HO : Hid (∀ t, t < n → o t < n) := ho
  have HD : Hid (∀ t, t ≤ n → (∀ j, j < n → 0 ≤ (Pu.serve K Pu.rest o s t).g j ∧ (Pu.serve K Pu.rest o s t).g j ≤ 65536) ∧ -100000000 ≤ (Pu.serve K Pu.rest o s t).l ∧ (Pu.serve K Pu.rest o s t).l ≤ 100000000) := hb
  clear h ho hb
  go_enter Tryd.func14, Tryd.ntmps14
  go_wp2
  go_loopw [11] (fun i wr => ∃ k : Nat, k ≤ n ∧ i = .int .i64 (k : Int) ∧ Hid (Stood w S P C B V G n (Pu.serve K Pu.rest o s k) K o wr)) (fun i _ => n - (intOf i).toNat)
  case atStart => exact ⟨0, Nat.zero_le _, rfl, H0⟩
  case round =>
    obtain ⟨k, hk, rfl, hs⟩ := hrel
    clear H0
    by_cases h : k < n
    · have i1 : (k : Int) < (n : Int) := by omega
      obtain ⟨u, hu⟩ : ∃ u, Pu.serve K Pu.rest o s k = u := ⟨_, rfl⟩
      obtain ⟨p, hp⟩ : ∃ p, o k = p := ⟨_, rfl⟩
      have hpn : p < n := by rw [← hp]; exact HO.out k h
      obtain ⟨d1, d2, d3⟩ := HD.out k hk
      obtain ⟨f1, f2, f3⟩ := HD.out (k + 1) h
      have f1 := f1 p hpn
      have hstep : Pu.serve K Pu.rest o s (k + 1) = Pu.give u p (Pu.more K u p (Pu.rest u p)) := by rw [← hu, ← hp]; rfl
      rw [hstep] at f1 f2 f3
      rw [hu] at d1 d2 d3 hs
      obtain ⟨q, hq⟩ : ∃ q, Pu.rest u p = q := ⟨_, rfl⟩
      obtain ⟨bb, hbb⟩ : ∃ x, Pu.bnd (K p).b = x := ⟨_, rfl⟩
      obtain ⟨y, hy⟩ : ∃ y, u.g p = y := ⟨_, rfl⟩
      obtain ⟨D, hD⟩ : ∃ D, bb - y = D := ⟨_, rfl⟩
      obtain ⟨m, hm⟩ : ∃ m, min q D = m := ⟨_, rfl⟩
      have em : Pu.more K u p q = m := by unfold Pu.more; rw [hbb, hy, hD, hm]
      rw [hq, em] at hstep f1 f2 f3
      obtain ⟨x, hx⟩ : ∃ x, y + m = x := ⟨_, rfl⟩
      obtain ⟨Z, hZ⟩ : ∃ Z, u.l - m = Z := ⟨_, rfl⟩
      have gx : (Pu.give u p m).g p = x := by rw [Pu.give_same, hy, hx]
      have gz : (Pu.give u p m).l = Z := hZ
      rw [gx] at f1
      rw [gz] at f2 f3
      have dy := d1 p hpn
      rw [hy] at dy
      have db := Pu.bnd_range (K p).b
      rw [hbb] at db
      have HM : Hid (Pu.serve K Pu.rest o s (k + 1) = Pu.give u p m) := hstep
      have HX : Hid (u.g p + m = x) := by rw [hy]; exact hx
      have e1 : IntKind.i64.wrap D = D := w64 _ (by omega) (by omega)
      have e2 : IntKind.i64.wrap x = x := w64 _ (by omega) (by omega)
      have e3 : IntKind.i64.wrap Z = Z := w64 _ (by omega) (by omega)
      have r1 := fun ts ty W => min_run ts ty q D m W hm
      have HBB : ∀ W, Hid (Calls Tryd.prog 11 #[.int .i64 (K p).b] W fun e w' => e = .returned (.int .i64 bb) ∧ w' = W) := fun W => by
        have := bounded_any (K p).b W
        rwa [hbb] at this
      have HQ : Hid (Pu.rest u p = q) := hq
      have HY : Hid (u.g p = y) := hy
      have hpi : (p : Int) < (n : Int) := by omega
      clear d1 d2 d3 f1 f2 f3 hstep em gx gz hm hbb hq hy dy db
      obtain ⟨c0, c1, c2, c3⟩ := hs.out.2.2.2.2.1 k h
      rw [hp] at c0 c1 c2 c3
      obtain ⟨i, hi⟩ : ∃ i, (K p).id = i := ⟨_, rfl⟩
      obtain ⟨r, hr0⟩ : ∃ r, (K p).r = r := ⟨_, rfl⟩
      obtain ⟨b, hb0⟩ : ∃ b, (K p).b = b := ⟨_, rfl⟩
      have HR : Hid ((K p).r = r) := hr0
      rw [hi] at c0
      rw [hr0] at c1
      rw [hb0] at c2 HBB
      clear hi hr0 hb0 hu hp
      obtain ⟨H, hH⟩ : ∃ H, wr.heap.size = H := ⟨_, rfl⟩
      obtain ⟨x0, e0⟩ : ∃ x, wr.alloc (.cells #[.int .u32 i, .int .i64 r, .int .i64 b, .int .i64 (p : Int)] 43) = x := ⟨_, rfl⟩
      have HV : Hid (Srv w S P H C B u.l V G n u.g K o i r b (p : Int) x0) := by rw [← e0, ← hH]; exact hs.out.srv i r b (p : Int)
      have HUL : Hid (u.l - m = Z) := hZ
      obtain ⟨L, hL⟩ : ∃ L, u.l = L := ⟨_, rfl⟩
      rw [hL] at HV hZ
      have HLL : Hid (u.l = L) := hL
      clear hL hs
      go_wp2_with fail
      refine wp_region_held (S := Srv w S P H C B L V G n u.g K o i r b (p : Int)) (by kernel_rfl) ?_
      change wpAnyH _ _ _ _ _ _ _ _ x0.drew
      have hr : Srv w S P H C B L V G n u.g K o i r b (p : Int) x0.drew := HV.out.grew (below_drews 1)
      clear HV e0 hH c0 c1 c2 c3
      generalize x0.drew = x1 at *
      refine wpAnyH_take (i := 0) (v := .func (.func 16) #[] #[]) rfl (by kernel_rfl) (by kernel_rfl) (by kernel_rfl) (fun _ _ _ h => h) (Yields.yieldsIf (Or.inl ⟨by kernel_rfl, fun _ => by kernel_rfl⟩)) hr ?_
      refine wpAnyH_take (i := 1) (v := .pointer (some ⟨P, 0, none⟩)) rfl (by kernel_rfl) (by kernel_rfl) (by kernel_rfl) (fun _ _ _ h => h) (Yields.yieldsIf (Or.inl ⟨by kernel_rfl, fun _ => by kernel_rfl⟩)) hr ?_
      refine wpAnyH_take (i := 2) (v := .agg #[.int .u32 i, .int .i64 r, .int .i64 b, .int .i64 (p : Int)]) rfl (by kernel_rfl) (by kernel_rfl) (by kernel_rfl) (fun _ _ _ h => h) (Or.inl ⟨by kernel_rfl, fun W hW => by have g0 := hW.c.c0; have g1 := hW.c.c1; have g2 := hW.c.c2; have g3 := hW.c.c3; go_simp⟩) hr ?_
      refine wpAnyH_take (i := 4) (v := .pointer (some ⟨H, 0, none⟩)) rfl (by kernel_rfl) (by kernel_rfl) (by kernel_rfl) (fun _ _ _ h => h) (Yields.yieldsIf (Or.inl ⟨by kernel_rfl, fun _ => by go_simp⟩)) hr ?_
      refine wpAnyH_take (i := 5) (v := .pointer (some ⟨H, 2, none⟩)) rfl (by kernel_rfl) (by kernel_rfl) (by kernel_rfl) (fun _ _ _ h => h) (Yields.yieldsIf (Or.inl ⟨by kernel_rfl, fun _ => by go_simp⟩)) hr ?_
      refine wpAnyH_take (i := 6) (v := .int .i64 b) rfl (by kernel_rfl) (by kernel_rfl) (by kernel_rfl) (fun _ _ _ h => h) (Or.inl ⟨by kernel_rfl, fun W hW => by have g := hW.c.c2; go_simp⟩) hr ?_
      refine wpAnyH_take (i := 8) (v := .pointer (some ⟨P, 0, none⟩)) rfl (by kernel_rfl) (by kernel_rfl) (by kernel_rfl) (fun _ _ _ h => h) (Yields.yieldsIf (Or.inl ⟨by kernel_rfl, fun _ => by kernel_rfl⟩)) hr ?_
      refine wpAnyH_take (i := 9) (v := .pointer (some ⟨P, 0, none⟩)) rfl (by kernel_rfl) (by kernel_rfl) (by kernel_rfl) (fun _ _ _ h => h) (Yields.yieldsIf (Or.inl ⟨by kernel_rfl, fun _ => by go_simp⟩)) hr ?_
      refine wpAnyH_take (i := 10) (v := .pointer (some ⟨P, 3, none⟩)) rfl (by kernel_rfl) (by kernel_rfl) (by kernel_rfl) (fun _ _ _ h => h) (Yields.yieldsIf (Or.inl ⟨by kernel_rfl, fun _ => by go_simp⟩)) hr ?_
      refine wpAnyH_take (i := 11) (v := .slice (some ⟨G, 0, none⟩) n n) rfl (by kernel_rfl) (by kernel_rfl) (by kernel_rfl) (fun _ _ _ h => h) (Or.inl ⟨by kernel_rfl, fun W hW => by have g := hW.a.c3; go_simp⟩) hr ?_
      refine wpAnyH_take (i := 12) (v := .pointer (some ⟨H, 3, none⟩)) rfl (by kernel_rfl) (by kernel_rfl) (by kernel_rfl) (fun _ _ _ h => h) (Yields.yieldsIf (Or.inl ⟨by kernel_rfl, fun _ => by go_simp⟩)) hr ?_
      refine wpAnyH_take (i := 13) (v := .int .i64 (p : Int)) rfl (by kernel_rfl) (by kernel_rfl) (by kernel_rfl) (fun _ _ _ h => h) (Or.inl ⟨by kernel_rfl, fun W hW => by have g := hW.c.c3; go_simp⟩) hr ?_
      refine wpAnyH_take (i := 14) (v := .pointer (some ⟨G, p, none⟩)) rfl (by kernel_rfl) (by kernel_rfl) (by kernel_rfl) (fun _ _ _ h => h) (Yields.yieldsIf (Or.inl ⟨by kernel_rfl, fun _ => by go_simp⟩)) hr ?_
      refine wpAnyH_take (i := 15) (v := .int .i64 y) rfl (by kernel_rfl) (by kernel_rfl) (by kernel_rfl) (fun _ _ _ h => h) (Or.inl ⟨by kernel_rfl, fun W hW => by have g := hW.f.cell p hpn; rw [HY.out] at g; go_simp⟩) hr ?_
      refine wpAnyH_ready (rs := [3]) (by kernel_rfl) (by simp) ?_
      refine AllReadyH.cons rfl (fun K2 hK2 => ?_) AllReadyH.nil
      go_simp
      refine Calls.mono (rest_any P G n B L V i r b (p : Int) q x1 hr.a (by rw [← HQ.out, ← HLL.out]; rfl)) ?_
      rintro e x2 ⟨rfl, b2⟩
      have hr := hr.grew b2
      clear b2
      refine hK2.out _ _ hr (fun hr => ?_)
      clear hK2 K2
      refine wpAnyH_ready (rs := [7]) (by kernel_rfl) (by simp) ?_
      refine AllReadyH.cons rfl (fun K2 hK2 => ?_) AllReadyH.nil
      go_simp
      refine ((HBB x2).out).mono ?_
      rintro e w' ⟨rfl, hw⟩
      subst w'
      refine hK2.out _ _ hr (fun hr => ?_)
      clear hK2 K2
      refine wpAnyH_take (i := 16) (v := .int .i64 D) rfl (by kernel_rfl) (by kernel_rfl) (by kernel_rfl) (fun _ _ _ h => h) (Yields.yieldsIf (Or.inl ⟨by kernel_rfl, fun _ => by go_simp⟩)) hr ?_
      refine wpAnyH_ready (rs := [17]) (by kernel_rfl) (by simp) ?_
      refine AllReadyH.cons rfl (fun K2 hK2 => ?_) AllReadyH.nil
      go_simp
      refine hK2.out _ _ hr (fun hr => ?_)
      clear hK2 K2
      refine wpAnyH_take (i := 18) (v := .int .i64 m) rfl (by kernel_rfl) (by kernel_rfl) (by kernel_rfl) (fun _ _ _ h => h) (Yields.yieldsIf (Or.inl ⟨by kernel_rfl, fun _ => by kernel_rfl⟩)) hr ?_
      refine wpAnyH_done (by kernel_rfl) ?_ _
      have HV : Hid (Srv w S P H C B L V G n u.g K o i r b (p : Int) x2) := hr
      clear hr HBB
      obtain ⟨x3, e3'⟩ : ∃ x, x2.drew = x := ⟨_, rfl⟩
      have HV3 : Hid (Srv w S P H C B L V G n u.g K o i r b (p : Int) x3) := by rw [← e3']; exact HV.out.grew (below_drews 1)
      obtain ⟨x4, e4⟩ : ∃ x4, x3.setCell ⟨G, p, none⟩ (.int .i64 x) = x4 := ⟨_, rfl⟩
      have HV4 : Hid (Srv w S P H C B L V G n (Pu.give u p m).g K o i r b (p : Int) x4) := by rw [← e4]; exact HV3.out.got hpn (fun j _ => give_step u p m x HX.out j)
      obtain ⟨x5, e5⟩ : ∃ x5, x4.setCell ⟨P, 1, none⟩ (.int .i64 Z) = x5 := ⟨_, rfl⟩
      have HE : Hid (Stood w S P C B V G n (Pu.serve K Pu.rest o s (k + 1)) K o x5) := by
        rw [← e5]
        exact (HV4.out.gave Z).stood _ (by rw [HM.out]; show Pu.St.mk _ _ = _; rw [HUL.out]; rfl)
      have p3 := HV3.out.a.c3
      have q3 := HV3.out.c.c3
      have g1 := HV3.out.f.cell p hpn
      rw [HY.out] at g1
      have g2 := HV3.out.f.thaw p
      have p1 := HV4.out.a.c1
      have p2 := HV4.out.a.thaw 1
      clear HV HV3 HV4
      go_wp2_with fail
      go_region
      try rw [e3']
      go_wp2_with fail
      go_roundw
      case rel => exact ⟨k + 1, by omega, by go_num, HE⟩
      case measure => simp [intOf]; omega
      case roundEnd => exact ⟨⟨k + 1, by omega, by go_num, HE⟩, by simp [intOf]; omega⟩
    · obtain rfl : k = n := by omega
      have i1 : decide ((k : Int) < (k : Int)) = false := by simp
      clear h
      go_wp2_with fail
      exact bodyPost_end (results_none Tryd.results14 _ _ _) rfl ⟨rfl, hs.out⟩
end Go.Proofs.YtijjhjlopfbeiaaDoor

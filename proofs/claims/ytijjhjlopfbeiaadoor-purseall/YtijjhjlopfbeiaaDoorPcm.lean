/-
  cmp.Compare, cmp.Or, and who is served ahead of whom, as package purse compares.
-/
import Derived.Test.YtijjhjlopfbeiaaDoorPu0
import Derived.Test.YtijjhjlopfbeiaaDoorSrl
import Derived.OrdersHeld
import Derived.Deep.RegionHeld
namespace Go.Proofs.YtijjhjlopfbeiaaDoor
open Go.RowKit Go.Deep

/-- How a stands to b. -/
def cmpI (a b : Int) : Int := if a < b then -1 else if b < a then 1 else 0
theorem cmpI_lt {a b : Int} (h : a < b) : cmpI a b = -1 := if_pos h
theorem cmpI_gt {a b : Int} (h : b < a) : cmpI a b = 1 := by unfold cmpI; rw [if_neg (by omega), if_pos h]
theorem cmpI_eq (a : Int) : cmpI a a = 0 := by unfold cmpI; rw [if_neg (by omega), if_neg (by omega)]
/-- The first of three that is not 0. -/
def or3 (x y z : Int) : Int := if x = 0 then (if y = 0 then z else y) else x

set_option maxRecDepth 100000 in
set_option maxHeartbeats 400000 in
theorem cmpi_any (a b : Int) (w : World) : Calls Tryd.prog 25 #[.int .i64 a, .int .i64 b] w fun e w' => e = .returned (.int .i64 (cmpI a b)) ∧ w' = w := by
  rcases Int.lt_trichotomy a b with h | h | h
  · rw [cmpI_lt h]
    go_enter Tryd.func25, Tryd.ntmps25
    go_wp2
    go_ret
    exact ⟨rfl, rfl⟩
  · subst h
    rw [cmpI_eq]
    go_enter Tryd.func25, Tryd.ntmps25
    go_wp2
    go_ret
    exact ⟨rfl, rfl⟩
  · rw [cmpI_gt h]
    have i1 : decide (a < b) = false := by simp; omega
    go_enter Tryd.func25, Tryd.ntmps25
    go_wp2
    go_ret
    exact ⟨rfl, rfl⟩

set_option maxRecDepth 100000 in
set_option maxHeartbeats 400000 in
theorem cmpu_any (a b : Int) (w : World) : Calls Tryd.prog 26 #[.int .u32 a, .int .u32 b] w fun e w' => e = .returned (.int .i64 (cmpI a b)) ∧ w' = w := by
  rcases Int.lt_trichotomy a b with h | h | h
  · rw [cmpI_lt h]
    go_enter Tryd.func26, Tryd.ntmps26
    go_wp2
    go_ret
    exact ⟨rfl, rfl⟩
  · subst h
    rw [cmpI_eq]
    go_enter Tryd.func26, Tryd.ntmps26
    go_wp2
    go_ret
    exact ⟨rfl, rfl⟩
  · rw [cmpI_gt h]
    have i1 : decide (a < b) = false := by simp; omega
    go_enter Tryd.func26, Tryd.ntmps26
    go_wp2
    go_ret
    exact ⟨rfl, rfl⟩

set_option maxRecDepth 100000 in
set_option maxHeartbeats 400000 in
theorem or_any (B : Nat) (x y z : Int) (w : World) (c0 : w.cell? ⟨B, 0, none⟩ = some (.int .i64 x)) (c1 : w.cell? ⟨B, 1, none⟩ = some (.int .i64 y)) (c2 : w.cell? ⟨B, 2, none⟩ = some (.int .i64 z)) :
    Calls Tryd.prog 24 #[.slice (some ⟨B, 0, none⟩) 3 3] w fun e w' => e = .returned (.int .i64 (or3 x y z)) ∧ w' = w := by
  by_cases hx : x = 0
  · subst hx
    by_cases hy : y = 0
    · subst hy
      by_cases hz : z = 0
      · subst hz
        go_enter Tryd.func24, Tryd.ntmps24
        go_wp2
        refine wp_loop_rounds 4 ?_
        rw [rounds_succ]
        go_wp2
        rw [rounds_succ]
        go_wp2
        rw [rounds_succ]
        go_wp2
        rw [rounds_succ]
        go_wp2
        go_ret
        exact ⟨rfl, rfl⟩
      · have i3 : (z == 0) = false := by simpa using hz
        have e : or3 0 0 z = z := rfl
        rw [e]
        clear hz e
        go_enter Tryd.func24, Tryd.ntmps24
        go_wp2
        refine wp_loop_rounds 3 ?_
        rw [rounds_succ]
        go_wp2
        rw [rounds_succ]
        go_wp2
        rw [rounds_succ]
        go_wp2
        go_ret
        exact ⟨rfl, rfl⟩
    · have i3 : (y == 0) = false := by simpa using hy
      have e : or3 0 y z = y := by unfold or3; rw [if_pos rfl, if_neg hy]
      rw [e]
      clear hy e
      go_enter Tryd.func24, Tryd.ntmps24
      go_wp2
      refine wp_loop_rounds 2 ?_
      rw [rounds_succ]
      go_wp2
      rw [rounds_succ]
      go_wp2
      go_ret
      exact ⟨rfl, rfl⟩
  · have i3 : (x == 0) = false := by simpa using hx
    have e : or3 x y z = x := if_neg hx
    rw [e]
    clear hx e
    go_enter Tryd.func24, Tryd.ntmps24
    go_wp2
    refine wp_loop_rounds 1 ?_
    rw [rounds_succ]
    go_wp2
    go_ret
    exact ⟨rfl, rfl⟩

/-- A claim's four cells. -/
def clm (i r b p : Int) : Array Value := #[.int .u32 i, .int .i64 r, .int .i64 b, .int .i64 p]
structure ClmAt (w : World) (B : Nat) (i r b p : Int) : Prop where
  c0 : w.cell? ⟨B, 0, none⟩ = some (.int .u32 i)
  c1 : w.cell? ⟨B, 1, none⟩ = some (.int .i64 r)
  c2 : w.cell? ⟨B, 2, none⟩ = some (.int .i64 b)
  c3 : w.cell? ⟨B, 3, none⟩ = some (.int .i64 p)
theorem ClmAt.made (w : World) (T : TypeId) (i r b p : Int) : ClmAt (w.alloc (.cells (clm i r b p) T)) w.heap.size i r b p :=
  ⟨by rw [World.cell?_alloc_at _ _ _ _ rfl]; rfl, by rw [World.cell?_alloc_at _ _ _ _ rfl]; rfl, by rw [World.cell?_alloc_at _ _ _ _ rfl]; rfl, by rw [World.cell?_alloc_at _ _ _ _ rfl]; rfl⟩
theorem ClmAt.block {w w' : World} {B : Nat} {i r b p : Int} (h : ClmAt w B i r b p) (e : w'.heap[B]? = w.heap[B]?) : ClmAt w' B i r b p :=
  ⟨(World.cell?_of_block (a := ⟨B, 0, none⟩) e).trans h.c0, (World.cell?_of_block (a := ⟨B, 1, none⟩) e).trans h.c1, (World.cell?_of_block (a := ⟨B, 2, none⟩) e).trans h.c2, (World.cell?_of_block (a := ⟨B, 3, none⟩) e).trans h.c3⟩
theorem ClmAt.grew {w w' : World} {B : Nat} {i r b p : Int} (h : ClmAt w B i r b p) (hb : Below w.heap.size w w') : ClmAt w' B i r b p := h.block (hb.block B (cell_lt h.c0))
/-- w' is w behind draws, with more blocks. -/
def Gr (w w' : World) : Prop := ∃ q os, w' = Go.Sort.grow (w.drewN q) os
theorem Gr.refl (w : World) : Gr w w := ⟨0, #[], by simp [Go.Sort.grow, World.drewN]⟩
theorem Gr.alloc {w w' : World} (h : Gr w w') (o : Obj) : Gr w (w'.alloc o) := by
  obtain ⟨q, os, rfl⟩ := h
  exact ⟨q, os.push o, by simp [Go.Sort.grow, World.alloc]⟩
theorem Gr.drew {w w' : World} (h : Gr w w') : Gr w w'.drew := by
  obtain ⟨q, os, rfl⟩ := h
  exact ⟨q + 1, os, rfl⟩
theorem Gr.below {w w' : World} (h : Gr w w') : Below w.heap.size w w' := by
  obtain ⟨q, os, rfl⟩ := h
  refine ⟨rfl, rfl, rfl, ?_, fun k hk => ?_⟩
  · simp [Go.Sort.grow, World.drewN]
  · show ((w.heap ++ os)[k]? : Option Obj) = _
    rw [Array.getElem?_append_left hk]
structure Two (w : World) (G H : Nat) (i r b p i' r' b' p' : Int) (W : World) : Prop where
  a : ClmAt W G i r b p
  b : ClmAt W H i' r' b' p'
  g : Gr w W

set_option maxRecDepth 100000 in
set_option maxHeartbeats 2000000 in
theorem compare_any (i r b p i' r' b' p' : Int) (w : World) :
    Calls Tryd.prog 21 #[.agg (clm i r b p), .agg (clm i' r' b' p')] w fun e w' => e = .returned (.int .i64 (or3 (cmpI r r') (cmpI i i') (cmpI p p'))) ∧ Gr w w' := by
  obtain ⟨G, hG⟩ : ∃ G, w.heap.size = G := ⟨_, rfl⟩
  obtain ⟨x0, e0⟩ : ∃ x, w.alloc (.cells #[.int .u32 i, .int .i64 r, .int .i64 b, .int .i64 p] 43) = x := ⟨_, rfl⟩
  obtain ⟨H, hH⟩ : ∃ H, x0.heap.size = H := ⟨_, rfl⟩
  obtain ⟨x1, e1⟩ : ∃ x, x0.alloc (.cells #[.int .u32 i', .int .i64 r', .int .i64 b', .int .i64 p'] 43) = x := ⟨_, rfl⟩
  have A0 : ClmAt x0 G i r b p := by rw [← e0, ← hG]; exact ClmAt.made w _ i r b p
  have A1 : ClmAt x1 H i' r' b' p' := by rw [← e1, ← hH]; exact ClmAt.made x0 _ i' r' b' p'
  have G0 : Gr w x1 := by rw [← e1, ← e0]; exact ((Gr.refl w).alloc _).alloc _
  have B1 : Below x0.heap.size x0 x1 := by rw [← e1]; exact (Below.refl _ _).alloc (Nat.le_refl _) _
  have HT : Hid (Two w G H i r b p i' r' b' p' x1) := ⟨A0.grew B1, A1, G0⟩
  have C1 : ∀ W, Hid (Calls Tryd.prog 25 #[.int .i64 r, .int .i64 r'] W fun e w' => e = .returned (.int .i64 (cmpI r r')) ∧ w' = W) := fun W => cmpi_any r r' W
  have C2 : ∀ W, Hid (Calls Tryd.prog 26 #[.int .u32 i, .int .u32 i'] W fun e w' => e = .returned (.int .i64 (cmpI i i')) ∧ w' = W) := fun W => cmpu_any i i' W
  have C3 : ∀ W, Hid (Calls Tryd.prog 25 #[.int .i64 p, .int .i64 p'] W fun e w' => e = .returned (.int .i64 (cmpI p p')) ∧ w' = W) := fun W => cmpi_any p p' W
  generalize cmpI r r' = R at *
  generalize cmpI i i' = I at *
  generalize cmpI p p' = P at *
  clear A0 A1 G0 B1
  unfold clm
  go_enter Tryd.func21, Tryd.ntmps21
  go_wp2_with fail
  refine wp_region_held (S := Two w G H i r b p i' r' b' p') (by kernel_rfl) ?_
  change wpAnyH _ _ _ _ _ _ _ _ x1.drew
  have hr : Two w G H i r b p i' r' b' p' x1.drew := ⟨HT.out.a.grew (below_drews 1), HT.out.b.grew (below_drews 1), HT.out.g.drew⟩
  clear HT e0 e1 hG hH
  generalize x1.drew = x2 at *
  refine wpAnyH_take (i := 0) (v := .pointer (some ⟨G, 0, none⟩)) rfl (by kernel_rfl) (by kernel_rfl) (by kernel_rfl) (fun _ _ _ h => h) (Yields.yieldsIf (Or.inl ⟨by kernel_rfl, fun _ => by go_simp⟩)) hr ?_
  refine wpAnyH_take (i := 1) (v := .pointer (some ⟨G, 1, none⟩)) rfl (by kernel_rfl) (by kernel_rfl) (by kernel_rfl) (fun _ _ _ h => h) (Yields.yieldsIf (Or.inl ⟨by kernel_rfl, fun _ => by go_simp⟩)) hr ?_
  refine wpAnyH_take (i := 2) (v := .int .i64 r) rfl (by kernel_rfl) (by kernel_rfl) (by kernel_rfl) (fun _ _ _ h => h) (Or.inl ⟨by kernel_rfl, fun W hW => by have g := hW.a.c1; go_simp⟩) hr ?_
  refine wpAnyH_take (i := 3) (v := .pointer (some ⟨H, 0, none⟩)) rfl (by kernel_rfl) (by kernel_rfl) (by kernel_rfl) (fun _ _ _ h => h) (Yields.yieldsIf (Or.inl ⟨by kernel_rfl, fun _ => by go_simp⟩)) hr ?_
  refine wpAnyH_take (i := 4) (v := .pointer (some ⟨H, 1, none⟩)) rfl (by kernel_rfl) (by kernel_rfl) (by kernel_rfl) (fun _ _ _ h => h) (Yields.yieldsIf (Or.inl ⟨by kernel_rfl, fun _ => by go_simp⟩)) hr ?_
  refine wpAnyH_take (i := 5) (v := .int .i64 r') rfl (by kernel_rfl) (by kernel_rfl) (by kernel_rfl) (fun _ _ _ h => h) (Or.inl ⟨by kernel_rfl, fun W hW => by have g := hW.b.c1; go_simp⟩) hr ?_
  refine wpAnyH_take (i := 7) (v := .pointer (some ⟨G, 0, none⟩)) rfl (by kernel_rfl) (by kernel_rfl) (by kernel_rfl) (fun _ _ _ h => h) (Yields.yieldsIf (Or.inl ⟨by kernel_rfl, fun _ => by go_simp⟩)) hr ?_
  refine wpAnyH_take (i := 8) (v := .pointer (some ⟨G, 0, none⟩)) rfl (by kernel_rfl) (by kernel_rfl) (by kernel_rfl) (fun _ _ _ h => h) (Yields.yieldsIf (Or.inl ⟨by kernel_rfl, fun _ => by go_simp⟩)) hr ?_
  refine wpAnyH_take (i := 9) (v := .int .u32 i) rfl (by kernel_rfl) (by kernel_rfl) (by kernel_rfl) (fun _ _ _ h => h) (Or.inl ⟨by kernel_rfl, fun W hW => by have g := hW.a.c0; go_simp⟩) hr ?_
  refine wpAnyH_take (i := 10) (v := .pointer (some ⟨H, 0, none⟩)) rfl (by kernel_rfl) (by kernel_rfl) (by kernel_rfl) (fun _ _ _ h => h) (Yields.yieldsIf (Or.inl ⟨by kernel_rfl, fun _ => by go_simp⟩)) hr ?_
  refine wpAnyH_take (i := 11) (v := .pointer (some ⟨H, 0, none⟩)) rfl (by kernel_rfl) (by kernel_rfl) (by kernel_rfl) (fun _ _ _ h => h) (Yields.yieldsIf (Or.inl ⟨by kernel_rfl, fun _ => by go_simp⟩)) hr ?_
  refine wpAnyH_take (i := 12) (v := .int .u32 i') rfl (by kernel_rfl) (by kernel_rfl) (by kernel_rfl) (fun _ _ _ h => h) (Or.inl ⟨by kernel_rfl, fun W hW => by have g := hW.b.c0; go_simp⟩) hr ?_
  refine wpAnyH_take (i := 14) (v := .pointer (some ⟨G, 3, none⟩)) rfl (by kernel_rfl) (by kernel_rfl) (by kernel_rfl) (fun _ _ _ h => h) (Yields.yieldsIf (Or.inl ⟨by kernel_rfl, fun _ => by go_simp⟩)) hr ?_
  refine wpAnyH_take (i := 15) (v := .int .i64 p) rfl (by kernel_rfl) (by kernel_rfl) (by kernel_rfl) (fun _ _ _ h => h) (Or.inl ⟨by kernel_rfl, fun W hW => by have g := hW.a.c3; go_simp⟩) hr ?_
  refine wpAnyH_take (i := 16) (v := .pointer (some ⟨H, 3, none⟩)) rfl (by kernel_rfl) (by kernel_rfl) (by kernel_rfl) (fun _ _ _ h => h) (Yields.yieldsIf (Or.inl ⟨by kernel_rfl, fun _ => by go_simp⟩)) hr ?_
  refine wpAnyH_take (i := 17) (v := .int .i64 p') rfl (by kernel_rfl) (by kernel_rfl) (by kernel_rfl) (fun _ _ _ h => h) (Or.inl ⟨by kernel_rfl, fun W hW => by have g := hW.b.c3; go_simp⟩) hr ?_
  refine wpAnyH_ready (rs := [6]) (by kernel_rfl) (by simp) ?_
  refine AllReadyH.cons rfl (fun K2 hK2 => ?_) AllReadyH.nil
  go_simp
  refine ((C1 x2).out).mono ?_
  rintro e w' ⟨rfl, hw⟩
  subst w'
  refine hK2.out _ _ hr (fun hr => ?_)
  clear hK2 K2
  refine wpAnyH_ready (rs := [13]) (by kernel_rfl) (by simp) ?_
  refine AllReadyH.cons rfl (fun K2 hK2 => ?_) AllReadyH.nil
  go_simp
  refine ((C2 x2).out).mono ?_
  rintro e w' ⟨rfl, hw⟩
  subst w'
  refine hK2.out _ _ hr (fun hr => ?_)
  clear hK2 K2
  refine wpAnyH_ready (rs := [18]) (by kernel_rfl) (by simp) ?_
  refine AllReadyH.cons rfl (fun K2 hK2 => ?_) AllReadyH.nil
  go_simp
  refine ((C3 x2).out).mono ?_
  rintro e w' ⟨rfl, hw⟩
  subst w'
  refine hK2.out _ _ hr (fun hr => ?_)
  clear hK2 K2
  refine wpAnyH_ready (rs := [19]) (by kernel_rfl) (by simp) ?_
  refine AllReadyH.cons rfl (fun K2 hK2 => ?_) AllReadyH.nil
  go_simp
  have hn : Below x2.heap.size x2 (x2.alloc (.cells #[.int .i64 R, .int .i64 I, .int .i64 P] 3)) := (Below.refl _ _).alloc (Nat.le_refl _) _
  have hr : Two w G H i r b p i' r' b' p' (x2.alloc (.cells #[.int .i64 R, .int .i64 I, .int .i64 P] 3)) := ⟨hr.a.grew hn, hr.b.grew hn, hr.g.alloc _⟩
  have d0 : (x2.alloc (.cells #[.int .i64 R, .int .i64 I, .int .i64 P] 3)).cell? ⟨x2.heap.size, 0, none⟩ = some (.int .i64 R) := by rw [World.cell?_alloc_at _ _ _ _ rfl]; rfl
  have d1 : (x2.alloc (.cells #[.int .i64 R, .int .i64 I, .int .i64 P] 3)).cell? ⟨x2.heap.size, 1, none⟩ = some (.int .i64 I) := by rw [World.cell?_alloc_at _ _ _ _ rfl]; rfl
  have d2 : (x2.alloc (.cells #[.int .i64 R, .int .i64 I, .int .i64 P] 3)).cell? ⟨x2.heap.size, 2, none⟩ = some (.int .i64 P) := by rw [World.cell?_alloc_at _ _ _ _ rfl]; rfl
  refine hK2.out _ _ hr (fun hr => ?_)
  clear hK2 K2 hn
  generalize x2.alloc (.cells #[.int .i64 R, .int .i64 I, .int .i64 P] 3) = x3 at *
  refine wpAnyH_ready (rs := [20]) (by kernel_rfl) (by simp) ?_
  refine AllReadyH.cons rfl (fun K2 hK2 => ?_) AllReadyH.nil
  go_simp
  refine (or_any _ R I P x3 d0 d1 d2).mono ?_
  rintro e w' ⟨rfl, hw⟩
  subst w'
  refine hK2.out _ _ hr (fun hr => ?_)
  clear hK2 K2
  refine wpAnyH_take (i := 21) (v := .int .i64 (or3 R I P)) rfl (by kernel_rfl) (by kernel_rfl) (by kernel_rfl) (fun _ _ _ h => h) (Yields.yieldsIf (Or.inl ⟨by kernel_rfl, fun _ => by kernel_rfl⟩)) hr ?_
  refine wpAnyH_done (by kernel_rfl) ?_ _
  have HG := hr.g
  clear hr d0 d1 d2
  go_wp2
  go_ret
  exact ⟨rfl, HG⟩
end Go.Proofs.YtijjhjlopfbeiaaDoor

/-
  cmp.Compare, cmp.Or, which want is told ahead of which, as package pace compares; wants sorted.
-/
import Derived.Test.YtaikkoijoolhkaaItm
import Derived.Test.YtaikkoijoolhkaaSrw
import Derived.OrdersHeld
import Derived.Deep.RegionHeld
namespace Go.Proofs.Ytaikkoijoolhkaa
open Go.RowKit Go.Deep Go.Shelf Go.Sort

/-- How a stands to b. -/
def cmpI (a b : Int) : Int := if a < b then -1 else if b < a then 1 else 0
theorem cmpI_lt {a b : Int} (h : a < b) : cmpI a b = -1 := if_pos h
theorem cmpI_gt {a b : Int} (h : b < a) : cmpI a b = 1 := by unfold cmpI; rw [if_neg (by omega), if_pos h]
theorem cmpI_eq (a : Int) : cmpI a a = 0 := by unfold cmpI; rw [if_neg (by omega), if_neg (by omega)]
/-- The first of two that is not 0. -/
def or2 (x y : Int) : Int := if x = 0 then y else x

set_option maxRecDepth 100000 in
set_option maxHeartbeats 400000 in
theorem cmpi_any (a b : Int) (w : World) : Calls Try.prog 35 #[.int .i64 a, .int .i64 b] w fun e w' => e = .returned (.int .i64 (cmpI a b)) ∧ w' = w := by
  rcases Int.lt_trichotomy a b with h | h | h
  · rw [cmpI_lt h]
    go_enter Try.func35, Try.ntmps35
    go_wp2
    go_ret
    exact ⟨rfl, rfl⟩
  · subst h
    rw [cmpI_eq]
    go_enter Try.func35, Try.ntmps35
    go_wp2
    go_ret
    exact ⟨rfl, rfl⟩
  · rw [cmpI_gt h]
    have i1 : decide (a < b) = false := by simp; omega
    go_enter Try.func35, Try.ntmps35
    go_wp2
    go_ret
    exact ⟨rfl, rfl⟩

set_option maxRecDepth 100000 in
set_option maxHeartbeats 400000 in
theorem cmpu_any (a b : Int) (w : World) : Calls Try.prog 36 #[.int .u32 a, .int .u32 b] w fun e w' => e = .returned (.int .i64 (cmpI a b)) ∧ w' = w := by
  rcases Int.lt_trichotomy a b with h | h | h
  · rw [cmpI_lt h]
    go_enter Try.func36, Try.ntmps36
    go_wp2
    go_ret
    exact ⟨rfl, rfl⟩
  · subst h
    rw [cmpI_eq]
    go_enter Try.func36, Try.ntmps36
    go_wp2
    go_ret
    exact ⟨rfl, rfl⟩
  · rw [cmpI_gt h]
    have i1 : decide (a < b) = false := by simp; omega
    go_enter Try.func36, Try.ntmps36
    go_wp2
    go_ret
    exact ⟨rfl, rfl⟩

set_option maxRecDepth 100000 in
set_option maxHeartbeats 400000 in
theorem or2_any (B : Nat) (x y : Int) (w : World) (c0 : w.cell? ⟨B, 0, none⟩ = some (.int .i64 x)) (c1 : w.cell? ⟨B, 1, none⟩ = some (.int .i64 y)) :
    Calls Try.prog 34 #[.slice (some ⟨B, 0, none⟩) 2 2] w fun e w' => e = .returned (.int .i64 (or2 x y)) ∧ w' = w := by
  by_cases hx : x = 0
  · subst hx
    by_cases hy : y = 0
    · subst hy
      go_enter Try.func34, Try.ntmps34
      go_wp2
      refine wp_loop_rounds 3 ?_
      rw [rounds_succ]
      go_wp2
      rw [rounds_succ]
      go_wp2
      rw [rounds_succ]
      go_wp2
      go_ret
      exact ⟨rfl, rfl⟩
    · have i3 : (y == 0) = false := by simpa using hy
      have e : or2 0 y = y := rfl
      rw [e]
      clear hy e
      go_enter Try.func34, Try.ntmps34
      go_wp2
      refine wp_loop_rounds 2 ?_
      rw [rounds_succ]
      go_wp2
      rw [rounds_succ]
      go_wp2
      go_ret
      exact ⟨rfl, rfl⟩
  · have i3 : (x == 0) = false := by simpa using hx
    have e : or2 x y = x := if_neg hx
    rw [e]
    clear hx e
    go_enter Try.func34, Try.ntmps34
    go_wp2
    refine wp_loop_rounds 1 ?_
    rw [rounds_succ]
    go_wp2
    go_ret
    exact ⟨rfl, rfl⟩
/-- w' is w behind draws, with more blocks. -/
def Gr (w w' : World) : Prop := ∃ q os, w' = Go.Sort.grow (w.drewN q) os
theorem Gr.refl (w : World) : Gr w w := ⟨0, #[], by simp [Go.Sort.grow, World.drewN]⟩
theorem Gr.alloc {w w' : World} (h : Gr w w') (o : Obj) : Gr w (w'.alloc o) := by
  obtain ⟨q, os, rfl⟩ := h
  exact ⟨q, os.push o, by simp [Go.Sort.grow, World.alloc]⟩
theorem Gr.drew {w w' : World} (h : Gr w w') : Gr w w'.drew := by
  obtain ⟨q, os, rfl⟩ := h
  exact ⟨q + 1, os, rfl⟩
theorem Gr.below {w w' : World} (h : Gr w w') : Below w.heap.size w w' := by
  obtain ⟨q, os, rfl⟩ := h
  refine ⟨rfl, rfl, rfl, ?_, fun k hk => ?_⟩
  · simp [Go.Sort.grow, World.drewN]
  · show ((w.heap ++ os)[k]? : Option Obj) = _
    rw [Array.getElem?_append_left hk]
structure Two (w : World) (G H : Nat) (a b : Wn) (W : World) : Prop where
  a : WnAt W G 0 a
  b : WnAt W H 0 b
  g : Gr w W
/-- How wants stand to each other. -/
def wcf (a b : Wn) : Int := or2 (cmpI a.r b.r) (cmpI (a.i : Int) (b.i : Int))
def Wn.arr (a : Wn) : Array Value := #[.int .u32 (a.i : Int), .int .i64 a.r, .int .i64 a.b]

set_option maxRecDepth 100000 in
set_option maxHeartbeats 2000000 in
theorem wcompare_any (a b : Wn) (w : World) :
    Calls Try.prog 30 #[.agg a.arr, .agg b.arr] w fun e w' => e = .returned (.int .i64 (wcf a b)) ∧ Gr w w' := by
  obtain ⟨G, hG⟩ : ∃ G, w.heap.size = G := ⟨_, rfl⟩
  obtain ⟨x0, e0⟩ : ∃ x, w.alloc (.cells #[.int .u32 (a.i : Int), .int .i64 a.r, .int .i64 a.b] 45) = x := ⟨_, rfl⟩
  obtain ⟨H, hH⟩ : ∃ H, x0.heap.size = H := ⟨_, rfl⟩
  obtain ⟨x1, e1⟩ : ∃ x, x0.alloc (.cells #[.int .u32 (b.i : Int), .int .i64 b.r, .int .i64 b.b] 45) = x := ⟨_, rfl⟩
  have A0 : WnAt x0 G 0 a := by rw [← e0, ← hG]; exact WnAt.made w _ a
  have A1 : WnAt x1 H 0 b := by rw [← e1, ← hH]; exact WnAt.made x0 _ b
  have G0 : Gr w x1 := by rw [← e1, ← e0]; exact ((Gr.refl w).alloc _).alloc _
  have B1 : Below x0.heap.size x0 x1 := by rw [← e1]; exact (Below.refl _ _).alloc (Nat.le_refl _) _
  have HT : Hid (Two w G H a b x1) := ⟨A0.grew B1, A1, G0⟩
  have C1 : ∀ W, Hid (Calls Try.prog 35 #[.int .i64 a.r, .int .i64 b.r] W fun e w' => e = .returned (.int .i64 (cmpI a.r b.r)) ∧ w' = W) := fun W => cmpi_any a.r b.r W
  have C2 : ∀ W, Hid (Calls Try.prog 36 #[.int .u32 (a.i : Int), .int .u32 (b.i : Int)] W fun e w' => e = .returned (.int .i64 (cmpI (a.i : Int) (b.i : Int))) ∧ w' = W) := fun W => cmpu_any _ _ W
  unfold wcf
  generalize cmpI a.r b.r = R at *
  generalize cmpI (a.i : Int) (b.i : Int) = I at *
  clear A0 A1 G0 B1
  unfold Wn.arr
  go_enter Try.func30, Try.ntmps30
  go_wp2_with fail
  refine wp_region_held (S := Two w G H a b) (by kernel_rfl) ?_
  change wpAnyH _ _ _ _ _ _ _ _ x1.drew
  have hr : Two w G H a b x1.drew := ⟨HT.out.a.grew (below_drews 1), HT.out.b.grew (below_drews 1), HT.out.g.drew⟩
  clear HT e0 e1 hG hH
  generalize x1.drew = x2 at *
  refine wpAnyH_take (i := 0) (v := .pointer (some ⟨G, 1, none⟩)) rfl (by kernel_rfl) (by kernel_rfl) (by kernel_rfl) (fun _ _ _ h => h) (Yields.yieldsIf (Or.inl ⟨by kernel_rfl, fun _ => by go_simp⟩)) hr ?_
  refine wpAnyH_take (i := 1) (v := .int .i64 a.r) rfl (by kernel_rfl) (by kernel_rfl) (by kernel_rfl) (fun _ _ _ h => h) (Or.inl ⟨by kernel_rfl, fun W hW => by have g := hW.a.c1; go_simp⟩) hr ?_
  refine wpAnyH_take (i := 2) (v := .pointer (some ⟨H, 1, none⟩)) rfl (by kernel_rfl) (by kernel_rfl) (by kernel_rfl) (fun _ _ _ h => h) (Yields.yieldsIf (Or.inl ⟨by kernel_rfl, fun _ => by go_simp⟩)) hr ?_
  refine wpAnyH_take (i := 3) (v := .int .i64 b.r) rfl (by kernel_rfl) (by kernel_rfl) (by kernel_rfl) (fun _ _ _ h => h) (Or.inl ⟨by kernel_rfl, fun W hW => by have g := hW.b.c1; go_simp⟩) hr ?_
  refine wpAnyH_take (i := 5) (v := .pointer (some ⟨G, 0, none⟩)) rfl (by kernel_rfl) (by kernel_rfl) (by kernel_rfl) (fun _ _ _ h => h) (Yields.yieldsIf (Or.inl ⟨by kernel_rfl, fun _ => by go_simp⟩)) hr ?_
  refine wpAnyH_take (i := 6) (v := .int .u32 (a.i : Int)) rfl (by kernel_rfl) (by kernel_rfl) (by kernel_rfl) (fun _ _ _ h => h) (Or.inl ⟨by kernel_rfl, fun W hW => by have g := hW.a.c0; go_simp⟩) hr ?_
  refine wpAnyH_take (i := 7) (v := .pointer (some ⟨H, 0, none⟩)) rfl (by kernel_rfl) (by kernel_rfl) (by kernel_rfl) (fun _ _ _ h => h) (Yields.yieldsIf (Or.inl ⟨by kernel_rfl, fun _ => by go_simp⟩)) hr ?_
  refine wpAnyH_take (i := 8) (v := .int .u32 (b.i : Int)) rfl (by kernel_rfl) (by kernel_rfl) (by kernel_rfl) (fun _ _ _ h => h) (Or.inl ⟨by kernel_rfl, fun W hW => by have g := hW.b.c0; go_simp⟩) hr ?_
  refine wpAnyH_ready (rs := [4]) (by kernel_rfl) (by simp) ?_
  refine AllReadyH.cons rfl (fun K2 hK2 => ?_) AllReadyH.nil
  go_simp
  refine ((C1 x2).out).mono ?_
  rintro e w' ⟨rfl, hw⟩
  subst w'
  refine hK2.out _ _ hr (fun hr => ?_)
  clear hK2 K2
  refine wpAnyH_ready (rs := [9]) (by kernel_rfl) (by simp) ?_
  refine AllReadyH.cons rfl (fun K2 hK2 => ?_) AllReadyH.nil
  go_simp
  refine ((C2 x2).out).mono ?_
  rintro e w' ⟨rfl, hw⟩
  subst w'
  refine hK2.out _ _ hr (fun hr => ?_)
  clear hK2 K2
  refine wpAnyH_ready (rs := [10]) (by kernel_rfl) (by simp) ?_
  refine AllReadyH.cons rfl (fun K2 hK2 => ?_) AllReadyH.nil
  go_simp
  have hn : Below x2.heap.size x2 (x2.alloc (.cells #[.int .i64 R, .int .i64 I] 3)) := (Below.refl _ _).alloc (Nat.le_refl _) _
  have hr : Two w G H a b (x2.alloc (.cells #[.int .i64 R, .int .i64 I] 3)) := ⟨hr.a.grew hn, hr.b.grew hn, hr.g.alloc _⟩
  have d0 : (x2.alloc (.cells #[.int .i64 R, .int .i64 I] 3)).cell? ⟨x2.heap.size, 0, none⟩ = some (.int .i64 R) := by rw [World.cell?_alloc_at _ _ _ _ rfl]; rfl
  have d1 : (x2.alloc (.cells #[.int .i64 R, .int .i64 I] 3)).cell? ⟨x2.heap.size, 1, none⟩ = some (.int .i64 I) := by rw [World.cell?_alloc_at _ _ _ _ rfl]; rfl
  refine hK2.out _ _ hr (fun hr => ?_)
  clear hK2 K2 hn
  generalize x2.alloc (.cells #[.int .i64 R, .int .i64 I] 3) = x3 at *
  refine wpAnyH_ready (rs := [11]) (by kernel_rfl) (by simp) ?_
  refine AllReadyH.cons rfl (fun K2 hK2 => ?_) AllReadyH.nil
  go_simp
  refine (or2_any _ R I x3 d0 d1).mono ?_
  rintro e w' ⟨rfl, hw⟩
  subst w'
  refine hK2.out _ _ hr (fun hr => ?_)
  clear hK2 K2
  refine wpAnyH_take (i := 12) (v := .int .i64 (or2 R I)) rfl (by kernel_rfl) (by kernel_rfl) (by kernel_rfl) (fun _ _ _ h => h) (Yields.yieldsIf (Or.inl ⟨by kernel_rfl, fun _ => by kernel_rfl⟩)) hr ?_
  refine wpAnyH_done (by kernel_rfl) ?_ _
  have HG := hr.g
  clear hr d0 d1
  go_wp2
  go_ret
  exact ⟨rfl, HG⟩

/-- Which want is told ahead of which. -/
def Wn.lt (a b : Wn) : Prop := a.r < b.r ∨ (a.r = b.r ∧ a.i < b.i)
instance (a b : Wn) : Decidable (a.lt b) := inferInstanceAs (Decidable (_ ∨ _))
theorem cmpI_neg (a b : Int) : cmpI a b < 0 ↔ a < b := by
  unfold cmpI
  repeat' split
  all_goals omega
theorem cmpI_zero (a b : Int) : cmpI a b = 0 ↔ a = b := by
  unfold cmpI
  repeat' split
  all_goals omega
theorem wcf_lt (a b : Wn) : ltOf wcf a b = decide (a.lt b) := by
  unfold ltOf wcf Wn.lt or2
  refine decide_eq_decide.2 ?_
  have h1 := cmpI_neg a.r b.r
  have h2 := cmpI_zero a.r b.r
  have h3 := cmpI_neg (a.i : Int) (b.i : Int)
  split
  · omega
  · omega
theorem wcf_swo : SWO (ltOf wcf) where
  irrefl x := by rw [wcf_lt]; exact decide_eq_false (by unfold Wn.lt; omega)
  trans x y z h1 h2 := by
    rw [wcf_lt] at *
    have a := of_decide_eq_true h1
    have b := of_decide_eq_true h2
    exact decide_eq_true (by unfold Wn.lt at *; omega)
  ntrans x y z h1 h2 := by
    rw [wcf_lt] at *
    have a := of_decide_eq_false h1
    have b := of_decide_eq_false h2
    exact decide_eq_false (by unfold Wn.lt at *; omega)
instance : Inhabited Wn := ⟨⟨0, 0, 0⟩⟩
theorem wcf_lays (blk off size : Nat) (w : World) : CmpLays Try.prog 30 #[] wE.cells 3 wcf blk off size w :=
  fun _ _ _ _ x y => wcompare_any x y _
theorem ws_holds {w : World} {B : Nat} {l : List Wn} (h : LsAt wE w (some ⟨B, 0, none⟩) l) (hf : ∀ i, w.frozen? ⟨B, i, none⟩ = false) : HoldsK wE.cells 3 w B 0 l.toArray := fun j hj => by
  have hj' : j < l.toArray.size * 3 := by simpa [flatK] using hj
  have hm : j < l.length * 3 := by simpa using hj'
  rw [get_flatK _ _ _ _ hj']
  have hi : j / 3 < l.length := by omega
  have e : l.toArray[j / 3]! = l[j / 3] := by rw [getElem!_pos _ _ (by simpa using hi)]; simp
  obtain ⟨c0, c1, c2⟩ := ls_wn h (j / 3) hi
  rw [Nat.zero_add] at c0 c1 c2
  rw [e, Nat.zero_add]
  refine ⟨?_, hf j⟩
  generalize l[j / 3] = A at *
  have hq : j % 3 = 0 ∨ j % 3 = 1 ∨ j % 3 = 2 := by omega
  rcases hq with q | q | q
  · rw [show j / 3 * 3 = j by omega] at c0; rw [q, c0]; simp [wE]
  · rw [show j / 3 * 3 + 1 = j by omega] at c1; rw [q, c1]; simp [wE]
  · rw [show j / 3 * 3 + 2 = j by omega] at c2; rw [q, c2]; simp [wE]
theorem holds_ws {w : World} {B : Nat} {d : Array Wn} (h : HoldsK wE.cells 3 w B 0 d) : LsAt wE w (some ⟨B, 0, none⟩) d.toList := fun _ => by
  refine ⟨B, 0, rfl, fun i hi j u hu => ?_⟩
  have hi' : i < d.size := by simpa using hi
  have hj : j < 3 := by
    have := (List.getElem?_eq_some_iff.1 hu).1
    exact this
  have := (Go.Sort.HoldsK.cell h (i := i) (c := j) hi' hj).1
  rw [show wE.n = 3 from rfl]
  rw [Nat.add_assoc] at this
  rw [this, getElem!_pos d i hi']
  have e : d.toList[i] = d[i] := by simp
  rw [e] at hu
  obtain ⟨hjl, e3⟩ := List.getElem?_eq_some_iff.1 hu
  rw [getElem!_pos (wE.cells d[i]) j hjl, e3]
/-- What the sort's world keeps. -/
theorem sortWorldK_kept (enc : Wn → List Value) (k : Nat) (w : World) (B m : Nat) (d : Array Wn) (os : Array Obj) : Kept B w (sortWorldK enc k w B 0 m d os) := by
  refine ⟨rfl, rfl, rfl, ?_, fun i hi hB => ?_⟩
  · show w.heap.size ≤ (_ ++ os).size
    rw [Array.size_append]
    have : (putRowK enc k (Go.Sort.ahead w m) B 0 d).heap.size = w.heap.size := by simp [putRowK, putRow, mapBlock, Go.Sort.ahead]
    omega
  · show (_ ++ os)[i]? = _
    have : (putRowK enc k (Go.Sort.ahead w m) B 0 d).heap.size = w.heap.size := by simp [putRowK, putRow, mapBlock, Go.Sort.ahead]
    rw [Array.getElem?_append_left (by omega)]
    simp [putRowK, putRow, mapBlock, Go.Sort.ahead, Array.getElem?_modify, Ne.symm hB]
/-- The wants l, in the order in which they are told. -/
structure Told (l s : List Wn) : Prop where
  perm : s.Perm l
  ord : s.Pairwise fun a b => ¬ b.lt a
theorem told_of {l : List Wn} {d : Array Wn} (hp : PermIn 0 l.toArray.size l.toArray d) (hs : SortedIn (ltOf wcf) 0 l.toArray.size d) : Told l d.toList := by
  obtain ⟨h1, -, h3⟩ := hp
  have h1 : d.size = l.length := by simpa using h1
  refine ⟨?_, ?_⟩
  · have e1 : d.extract 0 l.toArray.size = d := by rw [show l.toArray.size = d.size by simpa using h1.symm]; simp
    have e2 : l.toArray.extract 0 l.toArray.size = l.toArray := by simp
    rw [e1, e2] at h3
    simpa using h3
  · rw [List.pairwise_iff_getElem]
    intro i j hi hj hij
    have hj' : j < l.toArray.size := by simp at hj; simp; omega
    have hn := hs i j (Nat.zero_le _) hij hj'
    rw [wcf_lt] at hn
    have hn := of_decide_eq_false hn
    rw [getElem!_pos d i (by simpa using hi), getElem!_pos d j (by simpa using hj)] at hn
    simpa using hn

end Go.Proofs.Ytaikkoijoolhkaa

/-
  The document's rows brought into steps, all of them anew: what 'reduced' answers.
-/
import Derived.Test.YthlidbenhlidjaaJ9
import Derived.Test.YthlidbenhlidjaaJ10
namespace Go.Proofs.Ythlidbenhlidjaa
open Go.RowKit Go.Deep

/-- The m slices of n bytes at block g. -/
def Src (w : World) (g m n : Nat) (x : Nat → Nat → Nat) : Prop := ∀ i, i < m → ∃ r c, w.cell? ⟨g, i, none⟩ = some (.slice r n c) ∧ BytesAt w r n (x i)

/-- What 'reduced' answers. -/
def Reduced (w : World) (m k size : Nat) (V0 : Nat → Nat → Nat) (e : Ending) (w' : World) : Prop :=
  ∃ (ga gb ca cb n : Nat) (V : Nat → Nat → Nat) (T : Nat → Option (Nat → Nat)), e = .returned (.tuple #[.slice (some ⟨ga, 0, none⟩) m ca, .slice (some ⟨gb, 0, none⟩) m cb, .int .i64 (n : Int)]) ∧ Stg m k n V0 V T ∧
    Lst w' ga ca m k V ∧ Lst w' gb cb m size (fun i t => V i (k + t)) ∧ w.heap.size ≤ ga ∧ w.heap.size ≤ gb ∧ ga ≠ gb ∧ Below w.heap.size w w'

/-- The rows while those behind i are still to be turned. -/
def mid (V : Nat → Nat → Nat) (n p c i t : Nat) : Nat → Nat := if t < i ∧ t ≠ n then gau V n p c t else swp V n p t
theorem mid_zero (V : Nat → Nat → Nat) (n p c t : Nat) : mid V n p c 0 t = swp V n p t := by unfold mid; rw [if_neg (fun h => Nat.not_lt_zero _ h.1)]
theorem mid_same (V : Nat → Nat → Nat) (n p c i t : Nat) (h : i = n ∨ swp V n p i c = 0) : mid V n p c (i + 1) t = mid V n p c i t := by
  unfold mid
  by_cases e : t = i
  · subst e
    have r : (if t < t ∧ t ≠ n then gau V n p c t else swp V n p t) = swp V n p t := if_neg (fun h => Nat.lt_irrefl _ h.1)
    rw [r]
    by_cases e2 : t = n
    · rw [if_neg (fun h => h.2 e2)]
    · rw [if_pos ⟨Nat.lt_succ_self _, e2⟩]
      rcases h with h | h
      · exact absurd h e2
      · unfold gau
        rw [if_neg e2, h, Gf.zero_mul]
        funext j
        unfold addUp
        rw [Gf.zero_mul, Nat.xor_zero]
  · by_cases g : t < i ∧ t ≠ n
    · rw [if_pos g, if_pos ⟨by omega, g.2⟩]
    · rw [if_neg g, if_neg (fun h => g ⟨by omega, h.2⟩)]
theorem mid_next (V : Nat → Nat → Nat) (n p c i t : Nat) (h : i ≠ n) : mid V n p c (i + 1) t = if t = i then addUp (swp V n p i) (V p) (Gf.mul (swp V n p i c) (Gf.inv (V p c))) else mid V n p c i t := by
  by_cases e : t = i
  · subst e
    rw [if_pos rfl]
    unfold mid
    rw [if_pos ⟨Nat.lt_succ_self _, h⟩]
    unfold gau
    rw [if_neg h]
  · rw [if_neg e]
    unfold mid
    by_cases g : t < i ∧ t ≠ n
    · rw [if_pos g, if_pos ⟨by omega, g.2⟩]
    · rw [if_neg g, if_neg (fun h => g ⟨by omega, h.2⟩)]
theorem mid_own (V : Nat → Nat → Nat) (n p c i : Nat) : mid V n p c i i = swp V n p i := by unfold mid; rw [if_neg (fun h => Nat.lt_irrefl _ h.1)]
theorem mid_n (V : Nat → Nat → Nat) (n p c i : Nat) : mid V n p c i n = V p := by unfold mid; rw [if_neg (fun h => h.2 rfl)]; unfold swp; rw [if_pos rfl]
theorem mid_end (V : Nat → Nat → Nat) (n p c m t : Nat) (ht : t < m) : gau V n p c t = if t = n then addUp (fun _ => 0) (V p) (Gf.inv (V p c)) else mid V n p c m t := by
  by_cases e : t = n
  · rw [if_pos e]; unfold gau; rw [if_pos e]
  · rw [if_neg e]; unfold mid; rw [if_pos ⟨ht, e⟩]
theorem swp_set (V : Nat → Nat → Nat) (n p t : Nat) : swp V n p t = if t = p then V n else if t = n then V p else V t := by
  unfold swp
  by_cases e : t = n
  · by_cases e2 : t = p
    · rw [if_pos e, if_pos e2, ← e2, ← e]
    · rw [if_pos e, if_neg e2, if_pos e]
  · rw [if_neg e]
    by_cases e2 : t = p
    · rw [if_pos e2, if_pos e2]
    · rw [if_neg e2, if_neg e2, if_neg e]

set_option maxRecDepth 100000 in
set_option maxHeartbeats 4000000 in
theorem reduced_any (k size m sa sb ca cb : Nat) (V : Nat → Nat → Nat) (w : World) (k1 : 1 ≤ k) (k2 : k ≤ 32) (s1 : 1 ≤ size) (s2 : size ≤ 64) (m1 : 1 ≤ m) (m2 : m ≤ 100)
    (hA : Src w sa m k V) (hB : Src w sb m size (fun i t => V i (k + t))) (hV : ∀ t, t < m → Byt (V t)) :
    Calls Try.prog 33 #[.int .i64 (k : Int), .slice (some ⟨sa, 0, none⟩) m ca, .slice (some ⟨sb, 0, none⟩) m cb] w fun e w' => Reduced w m k size V e w' := by
  obtain ⟨Y, hY⟩ : ∃ Y : Nat → Nat → Nat, Y = fun i t => V i (k + t) := ⟨_, rfl⟩
  have HA : Hid (Src w sa m k V) := hA
  have HB : Hid (Src w sb m size Y) := by rw [hY]; exact hB
  have HY : Hid (Y = fun i t => V i (k + t)) := hY
  have HV : Hid (∀ t, t < m → Byt (V t)) := hV
  clear hA hB hY hV
  go_enter Try.func33, Try.ntmps33
  go_wp2_with fail
  go_loopw [9, 10, 11] (fun va vb i wr => ∃ j : Nat, j ≤ m ∧ i = .int .i64 j ∧ Cp w wr va vb j j k size V Y) (fun _ _ i _ => m - (intOf i).toNat)
  case atStart => exact ⟨0, Nat.zero_le _, rfl, ⟨[], World.ownsRow_nil _ _ _ _, (fun _ _ e => nomatch e), fun i hi => absurd hi (Nat.not_lt_zero _)⟩, ⟨[], World.ownsRow_nil _ _ _ _, (fun _ _ e => nomatch e), fun i hi => absurd hi (Nat.not_lt_zero _)⟩, (by intro g e; cases e), Below.refl _ _⟩
  case round =>
    obtain ⟨j, hj, rfl, C⟩ := hrel
    by_cases hjm : j < m
    · obtain ⟨r1, c1, q1, RA⟩ := HA.out j hjm
      obtain ⟨r2, c2, q2, RB⟩ := HB.out j hjm
      have i1 : (j : Int) < (m : Int) := by omega
      have CC : Hid _ := C
      clear C
      go_wp2_with fail
      have C := CC.out
      clear CC
      refine wp_region_held (S := fun w' => w'.cell? ⟨sa, j, none⟩ = some (.slice r1 k c1) ∧ w'.cell? ⟨sb, j, none⟩ = some (.slice r2 size c2)) (by kernel_rfl) ?_
      change wpAnyH _ _ _ _ _ _ _ _ wr.drew
      have C : Cp w wr.drew u9 u10 j j k size V Y := C.grew (Below.refl _ wr).drew
      have hr : wr.drew.cell? ⟨sa, j, none⟩ = some (.slice r1 k c1) ∧ wr.drew.cell? ⟨sb, j, none⟩ = some (.slice r2 size c2) := ⟨(C.below.cell (p := ⟨sa, j, none⟩) (cell_lt q1)).trans q1, (C.below.cell (p := ⟨sb, j, none⟩) (cell_lt q2)).trans q2⟩
      generalize wr.drew = W0 at *
      refine wpAnyH_take (i := 0) (v := u9) rfl (by kernel_rfl) (by kernel_rfl) (by kernel_rfl) (fun _ _ _ h => h) (Yields.yieldsIf (Or.inl ⟨by kernel_rfl, fun _ => by kernel_rfl⟩)) hr ?_
      refine wpAnyH_take (i := 2) (v := .slice (some ⟨sa, 0, none⟩) m ca) rfl (by kernel_rfl) (by kernel_rfl) (by kernel_rfl) (fun _ _ _ h => h) (Yields.yieldsIf (Or.inl ⟨by kernel_rfl, fun _ => by kernel_rfl⟩)) hr ?_
      refine wpAnyH_take (i := 3) (v := .int .i64 (j : Int)) rfl (by kernel_rfl) (by kernel_rfl) (by kernel_rfl) (fun _ _ _ h => h) (Yields.yieldsIf (Or.inl ⟨by kernel_rfl, fun _ => by kernel_rfl⟩)) hr ?_
      refine wpAnyH_take (i := 4) (v := .pointer (some ⟨sa, j, none⟩)) rfl (by kernel_rfl) (by kernel_rfl) (by kernel_rfl) (fun _ _ _ h => h) (Yields.yieldsIf (Or.inl ⟨by kernel_rfl, fun _ => by go_simp⟩)) hr ?_
      refine wpAnyH_take (i := 5) (v := .slice r1 k c1) rfl (by kernel_rfl) (by kernel_rfl) (by kernel_rfl) (fun _ _ _ h => h) (Or.inl ⟨by kernel_rfl, fun W hW => by have g := hW.1; go_simp⟩) hr ?_
      refine wpAnyH_take (i := 9) (v := u10) rfl (by kernel_rfl) (by kernel_rfl) (by kernel_rfl) (fun _ _ _ h => h) (Yields.yieldsIf (Or.inl ⟨by kernel_rfl, fun _ => by kernel_rfl⟩)) hr ?_
      refine wpAnyH_take (i := 11) (v := .slice (some ⟨sb, 0, none⟩) m cb) rfl (by kernel_rfl) (by kernel_rfl) (by kernel_rfl) (fun _ _ _ h => h) (Yields.yieldsIf (Or.inl ⟨by kernel_rfl, fun _ => by kernel_rfl⟩)) hr ?_
      refine wpAnyH_take (i := 12) (v := .int .i64 (j : Int)) rfl (by kernel_rfl) (by kernel_rfl) (by kernel_rfl) (fun _ _ _ h => h) (Yields.yieldsIf (Or.inl ⟨by kernel_rfl, fun _ => by kernel_rfl⟩)) hr ?_
      refine wpAnyH_take (i := 13) (v := .pointer (some ⟨sb, j, none⟩)) rfl (by kernel_rfl) (by kernel_rfl) (by kernel_rfl) (fun _ _ _ h => h) (Yields.yieldsIf (Or.inl ⟨by kernel_rfl, fun _ => by go_simp⟩)) hr ?_
      refine wpAnyH_take (i := 14) (v := .slice r2 size c2) rfl (by kernel_rfl) (by kernel_rfl) (by kernel_rfl) (fun _ _ _ h => h) (Or.inl ⟨by kernel_rfl, fun W hW => by have g := hW.2; go_simp⟩) hr ?_
      refine wpAnyH_ready (rs := [1, 10]) (by kernel_rfl) (by simp) ?_
      refine AllReadyH.cons rfl (fun K2 hK2 => ?_) (AllReadyH.cons rfl (fun K2 hK2 => ?_) AllReadyH.nil)
      · go_simp
        have hb : Below W0.heap.size W0 (W0.alloc (.cells #[] 5)) := (Below.refl _ _).alloc (Nat.le_refl _) _
        have C := C.grew hb
        refine hK2.out _ _ ⟨(C.below.cell (p := ⟨sa, j, none⟩) (cell_lt q1)).trans q1, (C.below.cell (p := ⟨sb, j, none⟩) (cell_lt q2)).trans q2⟩ (fun hr => ?_)
        clear hK2 K2
        generalize W0.alloc (.cells #[] 5) = W1 at *
        refine wpAnyH_ready (rs := [6, 10]) (by kernel_rfl) (by simp) ?_
        refine AllReadyH.cons rfl (fun K2 hK2 => ?_) (AllReadyH.cons rfl (fun K2 hK2 => ?_) AllReadyH.nil)
        · obtain ⟨cap34, W2, hrun, B34, hb⟩ := clone_run ⟨W0.heap.size, 0, none⟩ 26 r1 k c1 (V j) W1 (RA.below C.below (Nat.le_refl _)) (by omega) (by omega)
          refine step_append_run rfl (.tmp 29) (.tmp 33) 26 rfl _ _ rfl rfl _ _ hrun ?_
          have C := C.grew hb
          clear hrun
          refine hK2.out _ _ ⟨(C.below.cell (p := ⟨sa, j, none⟩) (cell_lt q1)).trans q1, (C.below.cell (p := ⟨sb, j, none⟩) (cell_lt q2)).trans q2⟩ (fun hr => ?_)
          clear hK2 K2
          refine wpAnyH_ready (rs := [7, 10]) (by kernel_rfl) (by simp) ?_
          refine AllReadyH.cons rfl (fun K2 hK2 => ?_) (AllReadyH.cons rfl (fun K2 hK2 => ?_) AllReadyH.nil)
          · go_simp
            have hb : Below W2.heap.size W2 (W2.alloc (.cells #[.slice (some ⟨W1.heap.size, 0, none⟩) k cap34] 26)) := (Below.refl _ _).alloc (Nat.le_refl _) _
            have c35 : (W2.alloc (.cells #[.slice (some ⟨W1.heap.size, 0, none⟩) k cap34] 26)).cell? ⟨W2.heap.size, 0, none⟩ = some (.slice (some ⟨W1.heap.size, 0, none⟩) k cap34) := by rw [World.cell?_alloc_at _ _ _ _ rfl]; rfl
            have C := C.grew hb
            have B34 := B34.grew hb
            refine hK2.out _ _ ⟨(C.below.cell (p := ⟨sa, j, none⟩) (cell_lt q1)).trans q1, (C.below.cell (p := ⟨sb, j, none⟩) (cell_lt q2)).trans q2⟩ (fun hr => ?_)
            clear hK2 K2
            generalize W2.alloc (.cells #[.slice (some ⟨W1.heap.size, 0, none⟩) k cap34] 26) = W3 at *
            refine wpAnyH_ready (rs := [8, 10]) (by kernel_rfl) (by simp) ?_
            refine AllReadyH.cons rfl (fun K2 hK2 => ?_) (AllReadyH.cons rfl (fun K2 hK2 => ?_) AllReadyH.nil)
            · obtain ⟨va', W4, hrun, C'⟩ := C.push W2.heap.size W1.heap.size cap34 77 c35 B34 (by omega) (by omega) (by omega)
              refine step_append_run rfl (.tmp 28) (.tmp 35) 77 rfl _ _ rfl rfl _ _ hrun ?_
              clear C hrun B34 c35
              have C := C'
              clear C'
              refine hK2.out _ _ ⟨(C.below.cell (p := ⟨sa, j, none⟩) (cell_lt q1)).trans q1, (C.below.cell (p := ⟨sb, j, none⟩) (cell_lt q2)).trans q2⟩ (fun hr => ?_)
              clear hK2 K2
              refine wpAnyH_ready (rs := [10]) (by kernel_rfl) (by simp) ?_
              refine AllReadyH.cons rfl (fun K2 hK2 => ?_) AllReadyH.nil
              go_simp
              have hb : Below W4.heap.size W4 (W4.alloc (.cells #[] 5)) := (Below.refl _ _).alloc (Nat.le_refl _) _
              have C := C.grew hb
              refine hK2.out _ _ ⟨(C.below.cell (p := ⟨sa, j, none⟩) (cell_lt q1)).trans q1, (C.below.cell (p := ⟨sb, j, none⟩) (cell_lt q2)).trans q2⟩ (fun hr => ?_)
              clear hK2 K2
              generalize W4.alloc (.cells #[] 5) = W5 at *
              refine wpAnyH_ready (rs := [15]) (by kernel_rfl) (by simp) ?_
              refine AllReadyH.cons rfl (fun K2 hK2 => ?_) AllReadyH.nil
              obtain ⟨cap43, W6, hrun, B43, hb⟩ := clone_run ⟨W4.heap.size, 0, none⟩ 26 r2 size c2 (Y j) W5 (RB.below C.below (Nat.le_refl _)) (by omega) (by omega)
              refine step_append_run rfl (.tmp 38) (.tmp 42) 26 rfl _ _ rfl rfl _ _ hrun ?_
              have C := C.grew hb
              clear hrun
              refine hK2.out _ _ ⟨(C.below.cell (p := ⟨sa, j, none⟩) (cell_lt q1)).trans q1, (C.below.cell (p := ⟨sb, j, none⟩) (cell_lt q2)).trans q2⟩ (fun hr => ?_)
              clear hK2 K2
              refine wpAnyH_ready (rs := [16]) (by kernel_rfl) (by simp) ?_
              refine AllReadyH.cons rfl (fun K2 hK2 => ?_) AllReadyH.nil
              go_simp
              have hb : Below W6.heap.size W6 (W6.alloc (.cells #[.slice (some ⟨W5.heap.size, 0, none⟩) size cap43] 26)) := (Below.refl _ _).alloc (Nat.le_refl _) _
              have c44 : (W6.alloc (.cells #[.slice (some ⟨W5.heap.size, 0, none⟩) size cap43] 26)).cell? ⟨W6.heap.size, 0, none⟩ = some (.slice (some ⟨W5.heap.size, 0, none⟩) size cap43) := by rw [World.cell?_alloc_at _ _ _ _ rfl]; rfl
              have C := C.grew hb
              have B43 := B43.grew hb
              refine hK2.out _ _ ⟨(C.below.cell (p := ⟨sa, j, none⟩) (cell_lt q1)).trans q1, (C.below.cell (p := ⟨sb, j, none⟩) (cell_lt q2)).trans q2⟩ (fun hr => ?_)
              clear hK2 K2
              generalize W6.alloc (.cells #[.slice (some ⟨W5.heap.size, 0, none⟩) size cap43] 26) = W7 at *
              refine wpAnyH_ready (rs := [17]) (by kernel_rfl) (by simp) ?_
              refine AllReadyH.cons rfl (fun K2 hK2 => ?_) AllReadyH.nil
              obtain ⟨vb', W8, hrun, C'⟩ := C.turn.push W6.heap.size W5.heap.size cap43 77 c44 B43 (by omega) (by omega) (by omega)
              refine step_append_run rfl (.tmp 37) (.tmp 44) 77 rfl _ _ rfl rfl _ _ hrun ?_
              clear C hrun B43 c44
              have C := C'.turn
              clear C'
              refine hK2.out _ _ ⟨(C.below.cell (p := ⟨sa, j, none⟩) (cell_lt q1)).trans q1, (C.below.cell (p := ⟨sb, j, none⟩) (cell_lt q2)).trans q2⟩ (fun hr => ?_)
              clear hK2 K2
              refine wpAnyH_ready (rs := [18]) (by kernel_rfl) (by simp) ?_
              refine AllReadyH.cons rfl (fun K2 hK2 => ?_) AllReadyH.nil
              go_simp
              refine hK2.out _ _ ⟨(C.below.cell (p := ⟨sa, j, none⟩) (cell_lt q1)).trans q1, (C.below.cell (p := ⟨sb, j, none⟩) (cell_lt q2)).trans q2⟩ (fun hr => ?_)
              clear hK2 K2
              refine wpAnyH_ready (rs := [19]) (by kernel_rfl) (by simp) ?_
              refine AllReadyH.cons rfl (fun K2 hK2 => ?_) AllReadyH.nil
              go_simp
              refine hK2.out _ _ ⟨(C.below.cell (p := ⟨sa, j, none⟩) (cell_lt q1)).trans q1, (C.below.cell (p := ⟨sb, j, none⟩) (cell_lt q2)).trans q2⟩ (fun hr => ?_)
              clear hK2 K2
              refine wpAnyH_done (by kernel_rfl) ?_ _
              have C : Hid _ := C
              clear hr
              go_wp2
              go_roundw
              case rel => exact ⟨j + 1, by omega, by go_num, C.out⟩
              case measure => simp [intOf]; omega
            · go_simp
              have hb : Below W3.heap.size W3 (W3.alloc (.cells #[] 5)) := (Below.refl _ _).alloc (Nat.le_refl _) _
              have C := C.grew hb
              have B34 := B34.grew hb
              have c35 := (hb.cell (p := ⟨W2.heap.size, 0, none⟩) (cell_lt c35)).trans c35
              refine hK2.out _ _ ⟨(C.below.cell (p := ⟨sa, j, none⟩) (cell_lt q1)).trans q1, (C.below.cell (p := ⟨sb, j, none⟩) (cell_lt q2)).trans q2⟩ (fun hr => ?_)
              clear hK2 K2
              generalize W3.alloc (.cells #[] 5) = W9 at *
              refine wpAnyH_ready (rs := [8]) (by kernel_rfl) (by simp) ?_
              refine AllReadyH.cons rfl (fun K2 hK2 => ?_) AllReadyH.nil
              obtain ⟨va', W10, hrun, C'⟩ := C.push W2.heap.size W1.heap.size cap34 77 c35 B34 (by omega) (by omega) (by omega)
              refine step_append_run rfl (.tmp 28) (.tmp 35) 77 rfl _ _ rfl rfl _ _ hrun ?_
              clear C hrun B34 c35
              have C := C'
              clear C'
              refine hK2.out _ _ ⟨(C.below.cell (p := ⟨sa, j, none⟩) (cell_lt q1)).trans q1, (C.below.cell (p := ⟨sb, j, none⟩) (cell_lt q2)).trans q2⟩ (fun hr => ?_)
              clear hK2 K2
              refine wpAnyH_ready (rs := [15]) (by kernel_rfl) (by simp) ?_
              refine AllReadyH.cons rfl (fun K2 hK2 => ?_) AllReadyH.nil
              obtain ⟨cap43, W11, hrun, B43, hb⟩ := clone_run ⟨W3.heap.size, 0, none⟩ 26 r2 size c2 (Y j) W10 (RB.below C.below (Nat.le_refl _)) (by omega) (by omega)
              refine step_append_run rfl (.tmp 38) (.tmp 42) 26 rfl _ _ rfl rfl _ _ hrun ?_
              have C := C.grew hb
              clear hrun
              refine hK2.out _ _ ⟨(C.below.cell (p := ⟨sa, j, none⟩) (cell_lt q1)).trans q1, (C.below.cell (p := ⟨sb, j, none⟩) (cell_lt q2)).trans q2⟩ (fun hr => ?_)
              clear hK2 K2
              refine wpAnyH_ready (rs := [16]) (by kernel_rfl) (by simp) ?_
              refine AllReadyH.cons rfl (fun K2 hK2 => ?_) AllReadyH.nil
              go_simp
              have hb : Below W11.heap.size W11 (W11.alloc (.cells #[.slice (some ⟨W10.heap.size, 0, none⟩) size cap43] 26)) := (Below.refl _ _).alloc (Nat.le_refl _) _
              have c44 : (W11.alloc (.cells #[.slice (some ⟨W10.heap.size, 0, none⟩) size cap43] 26)).cell? ⟨W11.heap.size, 0, none⟩ = some (.slice (some ⟨W10.heap.size, 0, none⟩) size cap43) := by rw [World.cell?_alloc_at _ _ _ _ rfl]; rfl
              have C := C.grew hb
              have B43 := B43.grew hb
              refine hK2.out _ _ ⟨(C.below.cell (p := ⟨sa, j, none⟩) (cell_lt q1)).trans q1, (C.below.cell (p := ⟨sb, j, none⟩) (cell_lt q2)).trans q2⟩ (fun hr => ?_)
              clear hK2 K2
              generalize W11.alloc (.cells #[.slice (some ⟨W10.heap.size, 0, none⟩) size cap43] 26) = W12 at *
              refine wpAnyH_ready (rs := [17]) (by kernel_rfl) (by simp) ?_
              refine AllReadyH.cons rfl (fun K2 hK2 => ?_) AllReadyH.nil
              obtain ⟨vb', W13, hrun, C'⟩ := C.turn.push W11.heap.size W10.heap.size cap43 77 c44 B43 (by omega) (by omega) (by omega)
              refine step_append_run rfl (.tmp 37) (.tmp 44) 77 rfl _ _ rfl rfl _ _ hrun ?_
              clear C hrun B43 c44
              have C := C'.turn
              clear C'
              refine hK2.out _ _ ⟨(C.below.cell (p := ⟨sa, j, none⟩) (cell_lt q1)).trans q1, (C.below.cell (p := ⟨sb, j, none⟩) (cell_lt q2)).trans q2⟩ (fun hr => ?_)
              clear hK2 K2
              refine wpAnyH_ready (rs := [18]) (by kernel_rfl) (by simp) ?_
              refine AllReadyH.cons rfl (fun K2 hK2 => ?_) AllReadyH.nil
              go_simp
              refine hK2.out _ _ ⟨(C.below.cell (p := ⟨sa, j, none⟩) (cell_lt q1)).trans q1, (C.below.cell (p := ⟨sb, j, none⟩) (cell_lt q2)).trans q2⟩ (fun hr => ?_)
              clear hK2 K2
              refine wpAnyH_ready (rs := [19]) (by kernel_rfl) (by simp) ?_
              refine AllReadyH.cons rfl (fun K2 hK2 => ?_) AllReadyH.nil
              go_simp
              refine hK2.out _ _ ⟨(C.below.cell (p := ⟨sa, j, none⟩) (cell_lt q1)).trans q1, (C.below.cell (p := ⟨sb, j, none⟩) (cell_lt q2)).trans q2⟩ (fun hr => ?_)
              clear hK2 K2
              refine wpAnyH_done (by kernel_rfl) ?_ _
              have C : Hid _ := C
              clear hr
              go_wp2
              go_roundw
              case rel => exact ⟨j + 1, by omega, by go_num, C.out⟩
              case measure => simp [intOf]; omega
          · go_simp
            have hb : Below W2.heap.size W2 (W2.alloc (.cells #[] 5)) := (Below.refl _ _).alloc (Nat.le_refl _) _
            have C := C.grew hb
            have B34 := B34.grew hb
            refine hK2.out _ _ ⟨(C.below.cell (p := ⟨sa, j, none⟩) (cell_lt q1)).trans q1, (C.below.cell (p := ⟨sb, j, none⟩) (cell_lt q2)).trans q2⟩ (fun hr => ?_)
            clear hK2 K2
            generalize W2.alloc (.cells #[] 5) = W14 at *
            refine wpAnyH_ready (rs := [7]) (by kernel_rfl) (by simp) ?_
            refine AllReadyH.cons rfl (fun K2 hK2 => ?_) AllReadyH.nil
            go_simp
            have hb : Below W14.heap.size W14 (W14.alloc (.cells #[.slice (some ⟨W1.heap.size, 0, none⟩) k cap34] 26)) := (Below.refl _ _).alloc (Nat.le_refl _) _
            have c35 : (W14.alloc (.cells #[.slice (some ⟨W1.heap.size, 0, none⟩) k cap34] 26)).cell? ⟨W14.heap.size, 0, none⟩ = some (.slice (some ⟨W1.heap.size, 0, none⟩) k cap34) := by rw [World.cell?_alloc_at _ _ _ _ rfl]; rfl
            have C := C.grew hb
            have B34 := B34.grew hb
            refine hK2.out _ _ ⟨(C.below.cell (p := ⟨sa, j, none⟩) (cell_lt q1)).trans q1, (C.below.cell (p := ⟨sb, j, none⟩) (cell_lt q2)).trans q2⟩ (fun hr => ?_)
            clear hK2 K2
            generalize W14.alloc (.cells #[.slice (some ⟨W1.heap.size, 0, none⟩) k cap34] 26) = W15 at *
            refine wpAnyH_ready (rs := [8]) (by kernel_rfl) (by simp) ?_
            refine AllReadyH.cons rfl (fun K2 hK2 => ?_) AllReadyH.nil
            obtain ⟨va', W16, hrun, C'⟩ := C.push W14.heap.size W1.heap.size cap34 77 c35 B34 (by omega) (by omega) (by omega)
            refine step_append_run rfl (.tmp 28) (.tmp 35) 77 rfl _ _ rfl rfl _ _ hrun ?_
            clear C hrun B34 c35
            have C := C'
            clear C'
            refine hK2.out _ _ ⟨(C.below.cell (p := ⟨sa, j, none⟩) (cell_lt q1)).trans q1, (C.below.cell (p := ⟨sb, j, none⟩) (cell_lt q2)).trans q2⟩ (fun hr => ?_)
            clear hK2 K2
            refine wpAnyH_ready (rs := [15]) (by kernel_rfl) (by simp) ?_
            refine AllReadyH.cons rfl (fun K2 hK2 => ?_) AllReadyH.nil
            obtain ⟨cap43, W17, hrun, B43, hb⟩ := clone_run ⟨W2.heap.size, 0, none⟩ 26 r2 size c2 (Y j) W16 (RB.below C.below (Nat.le_refl _)) (by omega) (by omega)
            refine step_append_run rfl (.tmp 38) (.tmp 42) 26 rfl _ _ rfl rfl _ _ hrun ?_
            have C := C.grew hb
            clear hrun
            refine hK2.out _ _ ⟨(C.below.cell (p := ⟨sa, j, none⟩) (cell_lt q1)).trans q1, (C.below.cell (p := ⟨sb, j, none⟩) (cell_lt q2)).trans q2⟩ (fun hr => ?_)
            clear hK2 K2
            refine wpAnyH_ready (rs := [16]) (by kernel_rfl) (by simp) ?_
            refine AllReadyH.cons rfl (fun K2 hK2 => ?_) AllReadyH.nil
            go_simp
            have hb : Below W17.heap.size W17 (W17.alloc (.cells #[.slice (some ⟨W16.heap.size, 0, none⟩) size cap43] 26)) := (Below.refl _ _).alloc (Nat.le_refl _) _
            have c44 : (W17.alloc (.cells #[.slice (some ⟨W16.heap.size, 0, none⟩) size cap43] 26)).cell? ⟨W17.heap.size, 0, none⟩ = some (.slice (some ⟨W16.heap.size, 0, none⟩) size cap43) := by rw [World.cell?_alloc_at _ _ _ _ rfl]; rfl
            have C := C.grew hb
            have B43 := B43.grew hb
            refine hK2.out _ _ ⟨(C.below.cell (p := ⟨sa, j, none⟩) (cell_lt q1)).trans q1, (C.below.cell (p := ⟨sb, j, none⟩) (cell_lt q2)).trans q2⟩ (fun hr => ?_)
            clear hK2 K2
            generalize W17.alloc (.cells #[.slice (some ⟨W16.heap.size, 0, none⟩) size cap43] 26) = W18 at *
            refine wpAnyH_ready (rs := [17]) (by kernel_rfl) (by simp) ?_
            refine AllReadyH.cons rfl (fun K2 hK2 => ?_) AllReadyH.nil
            obtain ⟨vb', W19, hrun, C'⟩ := C.turn.push W17.heap.size W16.heap.size cap43 77 c44 B43 (by omega) (by omega) (by omega)
            refine step_append_run rfl (.tmp 37) (.tmp 44) 77 rfl _ _ rfl rfl _ _ hrun ?_
            clear C hrun B43 c44
            have C := C'.turn
            clear C'
            refine hK2.out _ _ ⟨(C.below.cell (p := ⟨sa, j, none⟩) (cell_lt q1)).trans q1, (C.below.cell (p := ⟨sb, j, none⟩) (cell_lt q2)).trans q2⟩ (fun hr => ?_)
            clear hK2 K2
            refine wpAnyH_ready (rs := [18]) (by kernel_rfl) (by simp) ?_
            refine AllReadyH.cons rfl (fun K2 hK2 => ?_) AllReadyH.nil
            go_simp
            refine hK2.out _ _ ⟨(C.below.cell (p := ⟨sa, j, none⟩) (cell_lt q1)).trans q1, (C.below.cell (p := ⟨sb, j, none⟩) (cell_lt q2)).trans q2⟩ (fun hr => ?_)
            clear hK2 K2
            refine wpAnyH_ready (rs := [19]) (by kernel_rfl) (by simp) ?_
            refine AllReadyH.cons rfl (fun K2 hK2 => ?_) AllReadyH.nil
            go_simp
            refine hK2.out _ _ ⟨(C.below.cell (p := ⟨sa, j, none⟩) (cell_lt q1)).trans q1, (C.below.cell (p := ⟨sb, j, none⟩) (cell_lt q2)).trans q2⟩ (fun hr => ?_)
            clear hK2 K2
            refine wpAnyH_done (by kernel_rfl) ?_ _
            have C : Hid _ := C
            clear hr
            go_wp2
            go_roundw
            case rel => exact ⟨j + 1, by omega, by go_num, C.out⟩
            case measure => simp [intOf]; omega
        · go_simp
          have hb : Below W1.heap.size W1 (W1.alloc (.cells #[] 5)) := (Below.refl _ _).alloc (Nat.le_refl _) _
          have C := C.grew hb
          refine hK2.out _ _ ⟨(C.below.cell (p := ⟨sa, j, none⟩) (cell_lt q1)).trans q1, (C.below.cell (p := ⟨sb, j, none⟩) (cell_lt q2)).trans q2⟩ (fun hr => ?_)
          clear hK2 K2
          generalize W1.alloc (.cells #[] 5) = W20 at *
          refine wpAnyH_ready (rs := [6]) (by kernel_rfl) (by simp) ?_
          refine AllReadyH.cons rfl (fun K2 hK2 => ?_) AllReadyH.nil
          obtain ⟨cap34, W21, hrun, B34, hb⟩ := clone_run ⟨W0.heap.size, 0, none⟩ 26 r1 k c1 (V j) W20 (RA.below C.below (Nat.le_refl _)) (by omega) (by omega)
          refine step_append_run rfl (.tmp 29) (.tmp 33) 26 rfl _ _ rfl rfl _ _ hrun ?_
          have C := C.grew hb
          clear hrun
          refine hK2.out _ _ ⟨(C.below.cell (p := ⟨sa, j, none⟩) (cell_lt q1)).trans q1, (C.below.cell (p := ⟨sb, j, none⟩) (cell_lt q2)).trans q2⟩ (fun hr => ?_)
          clear hK2 K2
          refine wpAnyH_ready (rs := [7]) (by kernel_rfl) (by simp) ?_
          refine AllReadyH.cons rfl (fun K2 hK2 => ?_) AllReadyH.nil
          go_simp
          have hb : Below W21.heap.size W21 (W21.alloc (.cells #[.slice (some ⟨W20.heap.size, 0, none⟩) k cap34] 26)) := (Below.refl _ _).alloc (Nat.le_refl _) _
          have c35 : (W21.alloc (.cells #[.slice (some ⟨W20.heap.size, 0, none⟩) k cap34] 26)).cell? ⟨W21.heap.size, 0, none⟩ = some (.slice (some ⟨W20.heap.size, 0, none⟩) k cap34) := by rw [World.cell?_alloc_at _ _ _ _ rfl]; rfl
          have C := C.grew hb
          have B34 := B34.grew hb
          refine hK2.out _ _ ⟨(C.below.cell (p := ⟨sa, j, none⟩) (cell_lt q1)).trans q1, (C.below.cell (p := ⟨sb, j, none⟩) (cell_lt q2)).trans q2⟩ (fun hr => ?_)
          clear hK2 K2
          generalize W21.alloc (.cells #[.slice (some ⟨W20.heap.size, 0, none⟩) k cap34] 26) = W22 at *
          refine wpAnyH_ready (rs := [8]) (by kernel_rfl) (by simp) ?_
          refine AllReadyH.cons rfl (fun K2 hK2 => ?_) AllReadyH.nil
          obtain ⟨va', W23, hrun, C'⟩ := C.push W21.heap.size W20.heap.size cap34 77 c35 B34 (by omega) (by omega) (by omega)
          refine step_append_run rfl (.tmp 28) (.tmp 35) 77 rfl _ _ rfl rfl _ _ hrun ?_
          clear C hrun B34 c35
          have C := C'
          clear C'
          refine hK2.out _ _ ⟨(C.below.cell (p := ⟨sa, j, none⟩) (cell_lt q1)).trans q1, (C.below.cell (p := ⟨sb, j, none⟩) (cell_lt q2)).trans q2⟩ (fun hr => ?_)
          clear hK2 K2
          refine wpAnyH_ready (rs := [15]) (by kernel_rfl) (by simp) ?_
          refine AllReadyH.cons rfl (fun K2 hK2 => ?_) AllReadyH.nil
          obtain ⟨cap43, W24, hrun, B43, hb⟩ := clone_run ⟨W1.heap.size, 0, none⟩ 26 r2 size c2 (Y j) W23 (RB.below C.below (Nat.le_refl _)) (by omega) (by omega)
          refine step_append_run rfl (.tmp 38) (.tmp 42) 26 rfl _ _ rfl rfl _ _ hrun ?_
          have C := C.grew hb
          clear hrun
          refine hK2.out _ _ ⟨(C.below.cell (p := ⟨sa, j, none⟩) (cell_lt q1)).trans q1, (C.below.cell (p := ⟨sb, j, none⟩) (cell_lt q2)).trans q2⟩ (fun hr => ?_)
          clear hK2 K2
          refine wpAnyH_ready (rs := [16]) (by kernel_rfl) (by simp) ?_
          refine AllReadyH.cons rfl (fun K2 hK2 => ?_) AllReadyH.nil
          go_simp
          have hb : Below W24.heap.size W24 (W24.alloc (.cells #[.slice (some ⟨W23.heap.size, 0, none⟩) size cap43] 26)) := (Below.refl _ _).alloc (Nat.le_refl _) _
          have c44 : (W24.alloc (.cells #[.slice (some ⟨W23.heap.size, 0, none⟩) size cap43] 26)).cell? ⟨W24.heap.size, 0, none⟩ = some (.slice (some ⟨W23.heap.size, 0, none⟩) size cap43) := by rw [World.cell?_alloc_at _ _ _ _ rfl]; rfl
          have C := C.grew hb
          have B43 := B43.grew hb
          refine hK2.out _ _ ⟨(C.below.cell (p := ⟨sa, j, none⟩) (cell_lt q1)).trans q1, (C.below.cell (p := ⟨sb, j, none⟩) (cell_lt q2)).trans q2⟩ (fun hr => ?_)
          clear hK2 K2
          generalize W24.alloc (.cells #[.slice (some ⟨W23.heap.size, 0, none⟩) size cap43] 26) = W25 at *
          refine wpAnyH_ready (rs := [17]) (by kernel_rfl) (by simp) ?_
          refine AllReadyH.cons rfl (fun K2 hK2 => ?_) AllReadyH.nil
          obtain ⟨vb', W26, hrun, C'⟩ := C.turn.push W24.heap.size W23.heap.size cap43 77 c44 B43 (by omega) (by omega) (by omega)
          refine step_append_run rfl (.tmp 37) (.tmp 44) 77 rfl _ _ rfl rfl _ _ hrun ?_
          clear C hrun B43 c44
          have C := C'.turn
          clear C'
          refine hK2.out _ _ ⟨(C.below.cell (p := ⟨sa, j, none⟩) (cell_lt q1)).trans q1, (C.below.cell (p := ⟨sb, j, none⟩) (cell_lt q2)).trans q2⟩ (fun hr => ?_)
          clear hK2 K2
          refine wpAnyH_ready (rs := [18]) (by kernel_rfl) (by simp) ?_
          refine AllReadyH.cons rfl (fun K2 hK2 => ?_) AllReadyH.nil
          go_simp
          refine hK2.out _ _ ⟨(C.below.cell (p := ⟨sa, j, none⟩) (cell_lt q1)).trans q1, (C.below.cell (p := ⟨sb, j, none⟩) (cell_lt q2)).trans q2⟩ (fun hr => ?_)
          clear hK2 K2
          refine wpAnyH_ready (rs := [19]) (by kernel_rfl) (by simp) ?_
          refine AllReadyH.cons rfl (fun K2 hK2 => ?_) AllReadyH.nil
          go_simp
          refine hK2.out _ _ ⟨(C.below.cell (p := ⟨sa, j, none⟩) (cell_lt q1)).trans q1, (C.below.cell (p := ⟨sb, j, none⟩) (cell_lt q2)).trans q2⟩ (fun hr => ?_)
          clear hK2 K2
          refine wpAnyH_done (by kernel_rfl) ?_ _
          have C : Hid _ := C
          clear hr
          go_wp2
          go_roundw
          case rel => exact ⟨j + 1, by omega, by go_num, C.out⟩
          case measure => simp [intOf]; omega
      · go_simp
        have hb : Below W0.heap.size W0 (W0.alloc (.cells #[] 5)) := (Below.refl _ _).alloc (Nat.le_refl _) _
        have C := C.grew hb
        refine hK2.out _ _ ⟨(C.below.cell (p := ⟨sa, j, none⟩) (cell_lt q1)).trans q1, (C.below.cell (p := ⟨sb, j, none⟩) (cell_lt q2)).trans q2⟩ (fun hr => ?_)
        clear hK2 K2
        generalize W0.alloc (.cells #[] 5) = W27 at *
        refine wpAnyH_ready (rs := [1]) (by kernel_rfl) (by simp) ?_
        refine AllReadyH.cons rfl (fun K2 hK2 => ?_) AllReadyH.nil
        go_simp
        have hb : Below W27.heap.size W27 (W27.alloc (.cells #[] 5)) := (Below.refl _ _).alloc (Nat.le_refl _) _
        have C := C.grew hb
        refine hK2.out _ _ ⟨(C.below.cell (p := ⟨sa, j, none⟩) (cell_lt q1)).trans q1, (C.below.cell (p := ⟨sb, j, none⟩) (cell_lt q2)).trans q2⟩ (fun hr => ?_)
        clear hK2 K2
        generalize W27.alloc (.cells #[] 5) = W28 at *
        refine wpAnyH_ready (rs := [6]) (by kernel_rfl) (by simp) ?_
        refine AllReadyH.cons rfl (fun K2 hK2 => ?_) AllReadyH.nil
        obtain ⟨cap34, W29, hrun, B34, hb⟩ := clone_run ⟨W27.heap.size, 0, none⟩ 26 r1 k c1 (V j) W28 (RA.below C.below (Nat.le_refl _)) (by omega) (by omega)
        refine step_append_run rfl (.tmp 29) (.tmp 33) 26 rfl _ _ rfl rfl _ _ hrun ?_
        have C := C.grew hb
        clear hrun
        refine hK2.out _ _ ⟨(C.below.cell (p := ⟨sa, j, none⟩) (cell_lt q1)).trans q1, (C.below.cell (p := ⟨sb, j, none⟩) (cell_lt q2)).trans q2⟩ (fun hr => ?_)
        clear hK2 K2
        refine wpAnyH_ready (rs := [7]) (by kernel_rfl) (by simp) ?_
        refine AllReadyH.cons rfl (fun K2 hK2 => ?_) AllReadyH.nil
        go_simp
        have hb : Below W29.heap.size W29 (W29.alloc (.cells #[.slice (some ⟨W28.heap.size, 0, none⟩) k cap34] 26)) := (Below.refl _ _).alloc (Nat.le_refl _) _
        have c35 : (W29.alloc (.cells #[.slice (some ⟨W28.heap.size, 0, none⟩) k cap34] 26)).cell? ⟨W29.heap.size, 0, none⟩ = some (.slice (some ⟨W28.heap.size, 0, none⟩) k cap34) := by rw [World.cell?_alloc_at _ _ _ _ rfl]; rfl
        have C := C.grew hb
        have B34 := B34.grew hb
        refine hK2.out _ _ ⟨(C.below.cell (p := ⟨sa, j, none⟩) (cell_lt q1)).trans q1, (C.below.cell (p := ⟨sb, j, none⟩) (cell_lt q2)).trans q2⟩ (fun hr => ?_)
        clear hK2 K2
        generalize W29.alloc (.cells #[.slice (some ⟨W28.heap.size, 0, none⟩) k cap34] 26) = W30 at *
        refine wpAnyH_ready (rs := [8]) (by kernel_rfl) (by simp) ?_
        refine AllReadyH.cons rfl (fun K2 hK2 => ?_) AllReadyH.nil
        obtain ⟨va', W31, hrun, C'⟩ := C.push W29.heap.size W28.heap.size cap34 77 c35 B34 (by omega) (by omega) (by omega)
        refine step_append_run rfl (.tmp 28) (.tmp 35) 77 rfl _ _ rfl rfl _ _ hrun ?_
        clear C hrun B34 c35
        have C := C'
        clear C'
        refine hK2.out _ _ ⟨(C.below.cell (p := ⟨sa, j, none⟩) (cell_lt q1)).trans q1, (C.below.cell (p := ⟨sb, j, none⟩) (cell_lt q2)).trans q2⟩ (fun hr => ?_)
        clear hK2 K2
        refine wpAnyH_ready (rs := [15]) (by kernel_rfl) (by simp) ?_
        refine AllReadyH.cons rfl (fun K2 hK2 => ?_) AllReadyH.nil
        obtain ⟨cap43, W32, hrun, B43, hb⟩ := clone_run ⟨W0.heap.size, 0, none⟩ 26 r2 size c2 (Y j) W31 (RB.below C.below (Nat.le_refl _)) (by omega) (by omega)
        refine step_append_run rfl (.tmp 38) (.tmp 42) 26 rfl _ _ rfl rfl _ _ hrun ?_
        have C := C.grew hb
        clear hrun
        refine hK2.out _ _ ⟨(C.below.cell (p := ⟨sa, j, none⟩) (cell_lt q1)).trans q1, (C.below.cell (p := ⟨sb, j, none⟩) (cell_lt q2)).trans q2⟩ (fun hr => ?_)
        clear hK2 K2
        refine wpAnyH_ready (rs := [16]) (by kernel_rfl) (by simp) ?_
        refine AllReadyH.cons rfl (fun K2 hK2 => ?_) AllReadyH.nil
        go_simp
        have hb : Below W32.heap.size W32 (W32.alloc (.cells #[.slice (some ⟨W31.heap.size, 0, none⟩) size cap43] 26)) := (Below.refl _ _).alloc (Nat.le_refl _) _
        have c44 : (W32.alloc (.cells #[.slice (some ⟨W31.heap.size, 0, none⟩) size cap43] 26)).cell? ⟨W32.heap.size, 0, none⟩ = some (.slice (some ⟨W31.heap.size, 0, none⟩) size cap43) := by rw [World.cell?_alloc_at _ _ _ _ rfl]; rfl
        have C := C.grew hb
        have B43 := B43.grew hb
        refine hK2.out _ _ ⟨(C.below.cell (p := ⟨sa, j, none⟩) (cell_lt q1)).trans q1, (C.below.cell (p := ⟨sb, j, none⟩) (cell_lt q2)).trans q2⟩ (fun hr => ?_)
        clear hK2 K2
        generalize W32.alloc (.cells #[.slice (some ⟨W31.heap.size, 0, none⟩) size cap43] 26) = W33 at *
        refine wpAnyH_ready (rs := [17]) (by kernel_rfl) (by simp) ?_
        refine AllReadyH.cons rfl (fun K2 hK2 => ?_) AllReadyH.nil
        obtain ⟨vb', W34, hrun, C'⟩ := C.turn.push W32.heap.size W31.heap.size cap43 77 c44 B43 (by omega) (by omega) (by omega)
        refine step_append_run rfl (.tmp 37) (.tmp 44) 77 rfl _ _ rfl rfl _ _ hrun ?_
        clear C hrun B43 c44
        have C := C'.turn
        clear C'
        refine hK2.out _ _ ⟨(C.below.cell (p := ⟨sa, j, none⟩) (cell_lt q1)).trans q1, (C.below.cell (p := ⟨sb, j, none⟩) (cell_lt q2)).trans q2⟩ (fun hr => ?_)
        clear hK2 K2
        refine wpAnyH_ready (rs := [18]) (by kernel_rfl) (by simp) ?_
        refine AllReadyH.cons rfl (fun K2 hK2 => ?_) AllReadyH.nil
        go_simp
        refine hK2.out _ _ ⟨(C.below.cell (p := ⟨sa, j, none⟩) (cell_lt q1)).trans q1, (C.below.cell (p := ⟨sb, j, none⟩) (cell_lt q2)).trans q2⟩ (fun hr => ?_)
        clear hK2 K2
        refine wpAnyH_ready (rs := [19]) (by kernel_rfl) (by simp) ?_
        refine AllReadyH.cons rfl (fun K2 hK2 => ?_) AllReadyH.nil
        go_simp
        refine hK2.out _ _ ⟨(C.below.cell (p := ⟨sa, j, none⟩) (cell_lt q1)).trans q1, (C.below.cell (p := ⟨sb, j, none⟩) (cell_lt q2)).trans q2⟩ (fun hr => ?_)
        clear hK2 K2
        refine wpAnyH_done (by kernel_rfl) ?_ _
        have C : Hid _ := C
        clear hr
        go_wp2
        go_roundw
        case rel => exact ⟨j + 1, by omega, by go_num, C.out⟩
        case measure => simp [intOf]; omega

    · have hjm2 : j = m := by omega
      subst j
      obtain ⟨ga, cpa, rfl, gga, hla⟩ := C.a.lst (by omega) (by omega)
      obtain ⟨gb, cpb, rfl, ggb, hlb⟩ := C.b.lst (by omega) (by omega)
      have hne : ga ≠ gb := fun e => C.ne ga rfl (by rw [e]; rfl)
      have hbel := C.below
      clear C
      have LA : Hid (Lst wr ga cpa m k V) := hla
      have LB : Hid (Lst wr gb cpb m size Y) := hlb
      have BL : Hid (Below w.heap.size w wr) := hbel
      have HN : Hid (ga ≠ gb) := hne
      have GA : Hid (w.heap.size ≤ ga) := gga
      have GB : Hid (w.heap.size ≤ gb) := ggb
      clear hla hlb hbel hne gga ggb HA HB
      go_wp2_with fail
      go_loopw [12, 13] (fun nv cv wr => ∃ (c n : Nat) (V1 : Nat → Nat → Nat) (T : Nat → Option (Nat → Nat)), c ≤ k ∧ cv = .int .i64 c ∧ nv = .int .i64 n ∧ Stg m c n V V1 T ∧ Lst wr ga cpa m k V1 ∧ Lst wr gb cpb m size (fun i t => V1 i (k + t)) ∧ Below w.heap.size w wr) (fun _ cv _ => k - (intOf cv).toNat)
      case atStart => exact ⟨0, 0, V, _, Nat.zero_le _, rfl, rfl, Stg.start HV.out, LA.out, by rw [← HY.out]; exact LB.out, BL.out⟩
      case round =>
        clear LA LB BL HY HV
        obtain ⟨c, n, V1, T, hc, rfl, rfl, st, la, lb, bl⟩ := hrel
        have ST : Hid (Stg m c n V V1 T) := st
        have LA : Hid (Lst wr ga cpa m k V1) := la
        have LB : Hid (Lst wr gb cpb m size (fun i t => V1 i (k + t))) := lb
        have BL : Hid (Below w.heap.size w wr) := bl
        have hnm := st.le
        clear st la lb bl
        by_cases hck : c < k
        · generalize wr = wo at *
          have i1 : (c : Int) < (k : Int) := by omega
          go_wp2_with fail
          go_loopw [14, 15] (fun av iv ws => ∃ i : Nat, n ≤ i ∧ i ≤ m ∧ iv = .int .i64 i ∧ ws = wo ∧ ((av = .int .i64 (-1) ∧ ∀ t, n ≤ t → t < i → V1 t c = 0) ∨ (∃ p : Nat, av = .int .i64 p ∧ n ≤ p ∧ p < m ∧ V1 p c ≠ 0))) (fun _ iv _ => m - (intOf iv).toNat)
          case atStart => exact ⟨n, Nat.le_refl _, hnm, rfl, rfl, .inl ⟨rfl, fun t h1 h2 => absurd h2 (by omega)⟩⟩
          case round =>
            obtain ⟨i, hni, him, rfl, hws, hcase⟩ := hrel
            subst wr
            rcases hcase with ⟨rfl, hz⟩ | ⟨p, rfl, hp1, hp2, hpc⟩
            · by_cases hlt : i < m
              · obtain ⟨b, cb1, q1, BB, -⟩ := LA.out.at i hlt
                have q2 := bytes_cell BB c hck
                rw [Nat.zero_add] at q2
                have l2 := BB.lt c hck
                have i2 : (i : Int) < (m : Int) := by omega
                by_cases hv : V1 i c = 0
                · have HZ : Hid (∀ t, n ≤ t → t < i + 1 → V1 t c = 0) := fun t h1 h2 => by
                    by_cases e : t = i
                    · rw [e]; exact hv
                    · exact hz t h1 (by omega)
                  rw [hv] at q2
                  clear hz hv BB l2
                  go_wp2_with fail
                  go_roundw
                  case rel => exact ⟨i + 1, by omega, by omega, by go_num, trivial, .inl ⟨rfl, HZ.out⟩⟩
                  case measure => simp [intOf]; omega
                · have HV1 : Hid (V1 i c ≠ 0) := hv
                  have hv2 : (((V1 i c : Nat) : Int) == 0) = false := by simp; omega
                  obtain ⟨vv, hvv⟩ : ∃ vv, vv = V1 i c := ⟨_, rfl⟩
                  rw [← hvv] at q2 l2 hv2
                  clear hz hv BB hvv
                  go_wp2_with fail
                  go_roundw
                  case rel => exact ⟨i + 1, by omega, by omega, by go_num, trivial, .inr ⟨i, rfl, hni, hlt, HV1.out⟩⟩
                  case measure => simp [intOf]; omega
              · have hie : i = m := by omega
                subst hie
                have SK : Hid (Stg i (c + 1) n V V1 T) := ST.out.skip hz
                clear hz
                go_wp2_with fail
                go_roundw
                case rel => exact ⟨c + 1, n, V1, T, by omega, by go_num, rfl, SK.out, LA.out, LB.out, BL.out⟩
                case measure => simp [intOf]; omega
            · have SP : Hid (Stg m (c + 1) (n + 1) V (gau V1 n p c) (tabN T (gau V1 n p c) n c)) := ST.out.pivot hp1 hp2 hpc
              have HPC : Hid (V1 p c ≠ 0) := hpc
              have PB : Hid (Byt (V1 p)) := ST.out.byt p hp2
              have WB : Hid (∀ t, t < m → Byt (V1 t)) := ST.out.byt
              clear ST hpc
              have ip : (p : Int) < (m : Int) := by omega
              have inn : (n : Int) < (m : Int) := by omega
              by_cases hlt : i < m
              all_goals
                first
                  | (have i2 : (i : Int) < (m : Int) := by omega)
                  | (have i2 : decide ((i : Int) < (m : Int)) = false := by simp; omega)
                obtain ⟨bp, cp, qp, BP, fp⟩ := LA.out.at p hp2
                obtain ⟨bn, cn, qn, BN, fn⟩ := LA.out.at n (by omega)
                have BP : Hid _ := BP
                have BN : Hid _ := BN
                go_wp2_with fail
                refine Hld.begin (fun listed w' => listed.getD 13 true = false → w'.cell? ⟨ga, p, none⟩ = some (.slice (some ⟨bp, 0, none⟩) k cp) ∧ w'.cell? ⟨ga, n, none⟩ = some (.slice (some ⟨bn, 0, none⟩) k cn)) (by kernel_rfl) ?_
                refine Hld.take (i := 0) (v := .slice (some ⟨ga, 0, none⟩) m cpa) rfl (by kernel_rfl) (by kernel_rfl) (by kernel_rfl) (fun _ _ _ h => h) (fun listed w h hl => h (by rw [getD_set_ne true (by decide)]; exact hl)) (Or.inl ⟨by kernel_rfl, fun _ => by kernel_rfl⟩) (fun _ => ⟨qp, qn⟩) ?_
                refine Hld.take (i := 1) (v := .int .i64 (n : Int)) rfl (by kernel_rfl) (by kernel_rfl) (by kernel_rfl) (fun _ _ _ h => h) (fun listed w h hl => h (by rw [getD_set_ne true (by decide)]; exact hl)) (Or.inl ⟨by kernel_rfl, fun _ => by kernel_rfl⟩) (fun _ => ⟨qp, qn⟩) ?_
                refine Hld.take (i := 2) (v := .slice (some ⟨ga, 0, none⟩) m cpa) rfl (by kernel_rfl) (by kernel_rfl) (by kernel_rfl) (fun _ _ _ h => h) (fun listed w h hl => h (by rw [getD_set_ne true (by decide)]; exact hl)) (Or.inl ⟨by kernel_rfl, fun _ => by kernel_rfl⟩) (fun _ => ⟨qp, qn⟩) ?_
                refine Hld.take (i := 3) (v := .int .i64 (p : Int)) rfl (by kernel_rfl) (by kernel_rfl) (by kernel_rfl) (fun _ _ _ h => h) (fun listed w h hl => h (by rw [getD_set_ne true (by decide)]; exact hl)) (Or.inl ⟨by kernel_rfl, fun _ => by kernel_rfl⟩) (fun _ => ⟨qp, qn⟩) ?_
                refine Hld.take (i := 4) (v := .slice (some ⟨ga, 0, none⟩) m cpa) rfl (by kernel_rfl) (by kernel_rfl) (by kernel_rfl) (fun _ _ _ h => h) (fun listed w h hl => h (by rw [getD_set_ne true (by decide)]; exact hl)) (Or.inl ⟨by kernel_rfl, fun _ => by kernel_rfl⟩) (fun _ => ⟨qp, qn⟩) ?_
                refine Hld.take (i := 5) (v := .int .i64 (p : Int)) rfl (by kernel_rfl) (by kernel_rfl) (by kernel_rfl) (fun _ _ _ h => h) (fun listed w h hl => h (by rw [getD_set_ne true (by decide)]; exact hl)) (Or.inl ⟨by kernel_rfl, fun _ => by kernel_rfl⟩) (fun _ => ⟨qp, qn⟩) ?_
                refine Hld.take (i := 6) (v := .pointer (some ⟨ga, p, none⟩)) rfl (by kernel_rfl) (by kernel_rfl) (by kernel_rfl) (fun _ _ _ h => h) (fun listed w h hl => h (by rw [getD_set_ne true (by decide)]; exact hl)) (Or.inl ⟨by kernel_rfl, fun _ => by go_simp⟩) (fun _ => ⟨qp, qn⟩) ?_
                refine Hld.takeT (i := 7) (v := .slice (some ⟨bp, 0, none⟩) k cp) 13 (fun w' => w'.cell? ⟨ga, p, none⟩ = some (.slice (some ⟨bp, 0, none⟩) k cp)) rfl (by kernel_rfl) (by kernel_rfl) (by kernel_rfl) (by kernel_rfl) (by kernel_rfl) (fun _ _ _ h => h) (fun listed w h hl => h (by rw [getD_set_ne true (by decide)]; exact hl)) (fun listed w hl h => (h hl).1) (Or.inl ⟨by kernel_rfl, fun W hW => by have g := hW; go_simp⟩) (fun _ => ⟨qp, qn⟩) ?_
                refine Hld.take (i := 8) (v := .slice (some ⟨ga, 0, none⟩) m cpa) rfl (by kernel_rfl) (by kernel_rfl) (by kernel_rfl) (fun _ _ _ h => h) (fun listed w h hl => h (by rw [getD_set_ne true (by decide)]; exact hl)) (Or.inl ⟨by kernel_rfl, fun _ => by kernel_rfl⟩) (fun _ => ⟨qp, qn⟩) ?_
                refine Hld.take (i := 9) (v := .int .i64 (n : Int)) rfl (by kernel_rfl) (by kernel_rfl) (by kernel_rfl) (fun _ _ _ h => h) (fun listed w h hl => h (by rw [getD_set_ne true (by decide)]; exact hl)) (Or.inl ⟨by kernel_rfl, fun _ => by kernel_rfl⟩) (fun _ => ⟨qp, qn⟩) ?_
                refine Hld.take (i := 10) (v := .pointer (some ⟨ga, n, none⟩)) rfl (by kernel_rfl) (by kernel_rfl) (by kernel_rfl) (fun _ _ _ h => h) (fun listed w h hl => h (by rw [getD_set_ne true (by decide)]; exact hl)) (Or.inl ⟨by kernel_rfl, fun _ => by go_simp⟩) (fun _ => ⟨qp, qn⟩) ?_
                refine Hld.takeT (i := 11) (v := .slice (some ⟨bn, 0, none⟩) k cn) 13 (fun w' => w'.cell? ⟨ga, n, none⟩ = some (.slice (some ⟨bn, 0, none⟩) k cn)) rfl (by kernel_rfl) (by kernel_rfl) (by kernel_rfl) (by kernel_rfl) (by kernel_rfl) (fun _ _ _ h => h) (fun listed w h hl => h (by rw [getD_set_ne true (by decide)]; exact hl)) (fun listed w hl h => (h hl).2) (Or.inl ⟨by kernel_rfl, fun W hW => by have g := hW; go_simp⟩) (fun _ => ⟨qp, qn⟩) ?_
                refine Hld.take (i := 12) (v := .pointer (some ⟨ga, n, none⟩)) rfl (by kernel_rfl) (by kernel_rfl) (by kernel_rfl) (fun _ _ _ h => h) (fun listed w h hl => h (by rw [getD_set_ne true (by decide)]; exact hl)) (Or.inl ⟨by kernel_rfl, fun _ => by go_simp⟩) (fun _ => ⟨qp, qn⟩) ?_
                refine Hld.next (i := 13) (by kernel_rfl) rfl (fun K2 hK2 => ?_)
                go_simp
                refine hK2.out _ _ (fun h => absurd (Eq.trans (Eq.symm (by kernel_rfl)) h) (by decide : ¬ (true = false))) ?_
                clear hK2 K2
                have L1 : Lst (wo.setCell ⟨ga, n, none⟩ (.slice (some ⟨bp, 0, none⟩) k cp)) ga cpa m k (fun t => if t = n then V1 p else V1 t) := LA.out.set n BP.out _ (fun t _ => rfl)
                have O1 := LB.out.other LA.out HN.out.symm n (.slice (some ⟨bp, 0, none⟩) k cp)
                have BN1 := BN.out.setOther (i := n) (v := .slice (some ⟨bp, 0, none⟩) k cp) (LA.out.ne BN.out (by omega))
                have BL1 := BL.out.setCell (p := ⟨ga, n, none⟩) GA.out (.slice (some ⟨bp, 0, none⟩) k cp)
                have L1 := L1.grew (w' := (wo.setCell ⟨ga, n, none⟩ (.slice (some ⟨bp, 0, none⟩) k cp)).drew) (Below.refl _ _).drew
                have O1 := O1.grew (w' := (wo.setCell ⟨ga, n, none⟩ (.slice (some ⟨bp, 0, none⟩) k cp)).drew) (Below.refl _ _).drew
                have BN1 := BN1.grew (w' := (wo.setCell ⟨ga, n, none⟩ (.slice (some ⟨bp, 0, none⟩) k cp)).drew) (Below.refl _ _).drew
                have BL1 := BL1.drew
                change Hld.wpAnyM _ _ _ _ _ _ _ _ (wo.setCell ⟨ga, n, none⟩ (.slice (some ⟨bp, 0, none⟩) k cp)).drew
                generalize (wo.setCell ⟨ga, n, none⟩ (.slice (some ⟨bp, 0, none⟩) k cp)).drew = W1 at *
                clear LA LB BL BP BN qp qn fp fn
                obtain ⟨bq, cq, qq, -, fq⟩ := L1.at p hp2
                refine Hld.take (i := 14) (v := .pointer (some ⟨ga, p, none⟩)) rfl (by kernel_rfl) (by kernel_rfl) (by kernel_rfl) (fun _ _ _ h => h) (fun listed w h hl => h (by rw [getD_set_ne true (by decide)]; exact hl)) (Or.inl ⟨by kernel_rfl, fun _ => by go_simp⟩) (fun h => absurd (Eq.trans (Eq.symm (by kernel_rfl)) h) (by decide : ¬ (true = false))) ?_
                refine Hld.next (i := 15) (by kernel_rfl) rfl (fun K2 hK2 => ?_)
                go_simp
                refine hK2.out _ _ (fun h => absurd (Eq.trans (Eq.symm (by kernel_rfl)) h) (by decide : ¬ (true = false))) ?_
                clear hK2 K2
                have LA : Hid (Lst (W1.setCell ⟨ga, p, none⟩ (.slice (some ⟨bn, 0, none⟩) k cn)) ga cpa m k (swp V1 n p)) := L1.set p BN1 _ (fun t _ => swp_set V1 n p t)
                have LB : Hid _ := O1.other L1 HN.out.symm p (.slice (some ⟨bn, 0, none⟩) k cn)
                have BL : Hid _ := BL1.setCell (p := ⟨ga, p, none⟩) GA.out (.slice (some ⟨bn, 0, none⟩) k cn)
                generalize W1.setCell ⟨ga, p, none⟩ (.slice (some ⟨bn, 0, none⟩) k cn) = W2 at *
                clear L1 O1 BN1 BL1 qq fq
                refine Hld.done (by kernel_rfl) ?_ _
                obtain ⟨bp, cp, qp, BP, fp⟩ := LB.out.at p hp2
                obtain ⟨bn, cn, qn, BN, fn⟩ := LB.out.at n (by omega)
                have BP : Hid _ := BP
                have BN : Hid _ := BN
                go_wp2_with fail
                refine Hld.begin (fun listed w' => listed.getD 13 true = false → w'.cell? ⟨gb, p, none⟩ = some (.slice (some ⟨bp, 0, none⟩) size cp) ∧ w'.cell? ⟨gb, n, none⟩ = some (.slice (some ⟨bn, 0, none⟩) size cn)) (by kernel_rfl) ?_
                refine Hld.take (i := 0) (v := .slice (some ⟨gb, 0, none⟩) m cpb) rfl (by kernel_rfl) (by kernel_rfl) (by kernel_rfl) (fun _ _ _ h => h) (fun listed w h hl => h (by rw [getD_set_ne true (by decide)]; exact hl)) (Or.inl ⟨by kernel_rfl, fun _ => by kernel_rfl⟩) (fun _ => ⟨qp, qn⟩) ?_
                refine Hld.take (i := 1) (v := .int .i64 (n : Int)) rfl (by kernel_rfl) (by kernel_rfl) (by kernel_rfl) (fun _ _ _ h => h) (fun listed w h hl => h (by rw [getD_set_ne true (by decide)]; exact hl)) (Or.inl ⟨by kernel_rfl, fun _ => by kernel_rfl⟩) (fun _ => ⟨qp, qn⟩) ?_
                refine Hld.take (i := 2) (v := .slice (some ⟨gb, 0, none⟩) m cpb) rfl (by kernel_rfl) (by kernel_rfl) (by kernel_rfl) (fun _ _ _ h => h) (fun listed w h hl => h (by rw [getD_set_ne true (by decide)]; exact hl)) (Or.inl ⟨by kernel_rfl, fun _ => by kernel_rfl⟩) (fun _ => ⟨qp, qn⟩) ?_
                refine Hld.take (i := 3) (v := .int .i64 (p : Int)) rfl (by kernel_rfl) (by kernel_rfl) (by kernel_rfl) (fun _ _ _ h => h) (fun listed w h hl => h (by rw [getD_set_ne true (by decide)]; exact hl)) (Or.inl ⟨by kernel_rfl, fun _ => by kernel_rfl⟩) (fun _ => ⟨qp, qn⟩) ?_
                refine Hld.take (i := 4) (v := .slice (some ⟨gb, 0, none⟩) m cpb) rfl (by kernel_rfl) (by kernel_rfl) (by kernel_rfl) (fun _ _ _ h => h) (fun listed w h hl => h (by rw [getD_set_ne true (by decide)]; exact hl)) (Or.inl ⟨by kernel_rfl, fun _ => by kernel_rfl⟩) (fun _ => ⟨qp, qn⟩) ?_
                refine Hld.take (i := 5) (v := .int .i64 (p : Int)) rfl (by kernel_rfl) (by kernel_rfl) (by kernel_rfl) (fun _ _ _ h => h) (fun listed w h hl => h (by rw [getD_set_ne true (by decide)]; exact hl)) (Or.inl ⟨by kernel_rfl, fun _ => by kernel_rfl⟩) (fun _ => ⟨qp, qn⟩) ?_
                refine Hld.take (i := 6) (v := .pointer (some ⟨gb, p, none⟩)) rfl (by kernel_rfl) (by kernel_rfl) (by kernel_rfl) (fun _ _ _ h => h) (fun listed w h hl => h (by rw [getD_set_ne true (by decide)]; exact hl)) (Or.inl ⟨by kernel_rfl, fun _ => by go_simp⟩) (fun _ => ⟨qp, qn⟩) ?_
                refine Hld.takeT (i := 7) (v := .slice (some ⟨bp, 0, none⟩) size cp) 13 (fun w' => w'.cell? ⟨gb, p, none⟩ = some (.slice (some ⟨bp, 0, none⟩) size cp)) rfl (by kernel_rfl) (by kernel_rfl) (by kernel_rfl) (by kernel_rfl) (by kernel_rfl) (fun _ _ _ h => h) (fun listed w h hl => h (by rw [getD_set_ne true (by decide)]; exact hl)) (fun listed w hl h => (h hl).1) (Or.inl ⟨by kernel_rfl, fun W hW => by have g := hW; go_simp⟩) (fun _ => ⟨qp, qn⟩) ?_
                refine Hld.take (i := 8) (v := .slice (some ⟨gb, 0, none⟩) m cpb) rfl (by kernel_rfl) (by kernel_rfl) (by kernel_rfl) (fun _ _ _ h => h) (fun listed w h hl => h (by rw [getD_set_ne true (by decide)]; exact hl)) (Or.inl ⟨by kernel_rfl, fun _ => by kernel_rfl⟩) (fun _ => ⟨qp, qn⟩) ?_
                refine Hld.take (i := 9) (v := .int .i64 (n : Int)) rfl (by kernel_rfl) (by kernel_rfl) (by kernel_rfl) (fun _ _ _ h => h) (fun listed w h hl => h (by rw [getD_set_ne true (by decide)]; exact hl)) (Or.inl ⟨by kernel_rfl, fun _ => by kernel_rfl⟩) (fun _ => ⟨qp, qn⟩) ?_
                refine Hld.take (i := 10) (v := .pointer (some ⟨gb, n, none⟩)) rfl (by kernel_rfl) (by kernel_rfl) (by kernel_rfl) (fun _ _ _ h => h) (fun listed w h hl => h (by rw [getD_set_ne true (by decide)]; exact hl)) (Or.inl ⟨by kernel_rfl, fun _ => by go_simp⟩) (fun _ => ⟨qp, qn⟩) ?_
                refine Hld.takeT (i := 11) (v := .slice (some ⟨bn, 0, none⟩) size cn) 13 (fun w' => w'.cell? ⟨gb, n, none⟩ = some (.slice (some ⟨bn, 0, none⟩) size cn)) rfl (by kernel_rfl) (by kernel_rfl) (by kernel_rfl) (by kernel_rfl) (by kernel_rfl) (fun _ _ _ h => h) (fun listed w h hl => h (by rw [getD_set_ne true (by decide)]; exact hl)) (fun listed w hl h => (h hl).2) (Or.inl ⟨by kernel_rfl, fun W hW => by have g := hW; go_simp⟩) (fun _ => ⟨qp, qn⟩) ?_
                refine Hld.take (i := 12) (v := .pointer (some ⟨gb, n, none⟩)) rfl (by kernel_rfl) (by kernel_rfl) (by kernel_rfl) (fun _ _ _ h => h) (fun listed w h hl => h (by rw [getD_set_ne true (by decide)]; exact hl)) (Or.inl ⟨by kernel_rfl, fun _ => by go_simp⟩) (fun _ => ⟨qp, qn⟩) ?_
                refine Hld.next (i := 13) (by kernel_rfl) rfl (fun K2 hK2 => ?_)
                go_simp
                refine hK2.out _ _ (fun h => absurd (Eq.trans (Eq.symm (by kernel_rfl)) h) (by decide : ¬ (true = false))) ?_
                clear hK2 K2
                have L1 : Lst (W2.setCell ⟨gb, n, none⟩ (.slice (some ⟨bp, 0, none⟩) size cp)) gb cpb m size (fun t s => (if t = n then V1 p else V1 t) (k + s)) := LB.out.set n BP.out _ (fun t _ => by by_cases e : t = n <;> simp [e])
                have O1 := LA.out.other LB.out HN.out n (.slice (some ⟨bp, 0, none⟩) size cp)
                have BN1 := BN.out.setOther (i := n) (v := .slice (some ⟨bp, 0, none⟩) size cp) (LB.out.ne BN.out (by omega))
                have BL1 := BL.out.setCell (p := ⟨gb, n, none⟩) GB.out (.slice (some ⟨bp, 0, none⟩) size cp)
                have L1 := L1.grew (w' := (W2.setCell ⟨gb, n, none⟩ (.slice (some ⟨bp, 0, none⟩) size cp)).drew) (Below.refl _ _).drew
                have O1 := O1.grew (w' := (W2.setCell ⟨gb, n, none⟩ (.slice (some ⟨bp, 0, none⟩) size cp)).drew) (Below.refl _ _).drew
                have BN1 := BN1.grew (w' := (W2.setCell ⟨gb, n, none⟩ (.slice (some ⟨bp, 0, none⟩) size cp)).drew) (Below.refl _ _).drew
                have BL1 := BL1.drew
                change Hld.wpAnyM _ _ _ _ _ _ _ _ (W2.setCell ⟨gb, n, none⟩ (.slice (some ⟨bp, 0, none⟩) size cp)).drew
                generalize (W2.setCell ⟨gb, n, none⟩ (.slice (some ⟨bp, 0, none⟩) size cp)).drew = W1 at *
                clear LA LB BL BP BN qp qn fp fn
                obtain ⟨bq, cq, qq, -, fq⟩ := L1.at p hp2
                refine Hld.take (i := 14) (v := .pointer (some ⟨gb, p, none⟩)) rfl (by kernel_rfl) (by kernel_rfl) (by kernel_rfl) (fun _ _ _ h => h) (fun listed w h hl => h (by rw [getD_set_ne true (by decide)]; exact hl)) (Or.inl ⟨by kernel_rfl, fun _ => by go_simp⟩) (fun h => absurd (Eq.trans (Eq.symm (by kernel_rfl)) h) (by decide : ¬ (true = false))) ?_
                refine Hld.next (i := 15) (by kernel_rfl) rfl (fun K2 hK2 => ?_)
                go_simp
                refine hK2.out _ _ (fun h => absurd (Eq.trans (Eq.symm (by kernel_rfl)) h) (by decide : ¬ (true = false))) ?_
                clear hK2 K2
                have LB : Hid (Lst (W1.setCell ⟨gb, p, none⟩ (.slice (some ⟨bn, 0, none⟩) size cn)) gb cpb m size (fun t s => swp V1 n p t (k + s))) := L1.set p BN1 _ (fun t _ => by funext s; rw [swp_set]; by_cases e : t = p <;> simp [e])
                have LA : Hid _ := O1.other L1 HN.out p (.slice (some ⟨bn, 0, none⟩) size cn)
                have BL : Hid _ := BL1.setCell (p := ⟨gb, p, none⟩) GB.out (.slice (some ⟨bn, 0, none⟩) size cn)
                generalize W1.setCell ⟨gb, p, none⟩ (.slice (some ⟨bn, 0, none⟩) size cn) = W3 at *
                clear L1 O1 BN1 BL1 qq fq
                refine Hld.done (by kernel_rfl) ?_ _
                obtain ⟨bn, cn, qn, BN, -⟩ := LA.out.at n (by omega)
                have en : swp V1 n p n = V1 p := by unfold swp; rw [if_pos rfl]
                rw [en] at BN
                have q2 := bytes_cell BN c hck
                rw [Nat.zero_add] at q2
                clear BN en
                go_wp2_with fail
                refine (rinv_ne (V1 p c) (PB.out c) HPC.out _).mono ?_
                rintro e wx ⟨rfl, hx⟩
                subst wx
                clear qn q2
                go_wp2_with fail
                go_loopw [18] (fun iv ws => ∃ i : Nat, i ≤ m ∧ iv = .int .i64 i ∧ Lst ws ga cpa m k (mid V1 n p c i) ∧ Lst ws gb cpb m size (fun t s => mid V1 n p c i t (k + s)) ∧ Below w.heap.size w ws) (fun iv _ => m - (intOf iv).toNat)
                case atStart =>
                  have e0 : mid V1 n p c 0 = swp V1 n p := funext fun t => mid_zero V1 n p c t
                  exact ⟨0, Nat.zero_le _, rfl, by rw [e0]; exact LA.out, by rw [e0]; exact LB.out, BL.out⟩
                case round =>
                  clear LA LB BL
                  obtain ⟨i, him2, rfl, la, lb, bl⟩ := hrel
                  have LA : Hid (Lst wr ga cpa m k (mid V1 n p c i)) := la
                  have LB : Hid (Lst wr gb cpb m size (fun t s => mid V1 n p c i t (k + s))) := lb
                  have BL : Hid (Below w.heap.size w wr) := bl
                  clear la lb bl
                  by_cases hlti : i < m
                  · have i3 : (i : Int) < (m : Int) := by omega
                    by_cases hin : i = n
                    · have e1 : ((i : Int) == (n : Int)) = true := by simp; omega
                      have hes := hin
                      clear hin
                      have ES : Hid (mid V1 n p c (i + 1) = mid V1 n p c i) := funext fun t => mid_same V1 n p c i t (.inl hes)
                      go_wp2_with fail
                      go_roundw
                      case rel => exact ⟨i + 1, by omega, by go_num, by rw [ES.out]; exact LA.out, by rw [ES.out]; exact LB.out, BL.out⟩
                      case measure => simp [intOf]; omega
                    · have e1 : ((i : Int) == (n : Int)) = false := by simp; omega
                      obtain ⟨bi, ci, qi, BI, -⟩ := LA.out.at i hlti
                      rw [mid_own] at BI
                      have q3 := bytes_cell BI c hck
                      rw [Nat.zero_add] at q3
                      have l3 := BI.lt c hck
                      by_cases hz3 : swp V1 n p i c = 0
                      · have ES : Hid (mid V1 n p c (i + 1) = mid V1 n p c i) := funext fun t => mid_same V1 n p c i t (.inr hz3)
                        rw [hz3] at q3
                        clear BI l3 hz3
                        go_wp2_with fail
                        go_roundw
                        case rel => exact ⟨i + 1, by omega, by go_num, by rw [ES.out]; exact LA.out, by rw [ES.out]; exact LB.out, BL.out⟩
                        case measure => simp [intOf]; omega
                      · have hv3 : (((swp V1 n p i c : Nat) : Int) == 0) = false := by simp; omega
                        obtain ⟨mm, hmm0⟩ : ∃ mm, mm = Gf.mul (swp V1 n p i c) (Gf.inv (V1 p c)) := ⟨_, rfl⟩
                        have HMM : Hid (mm = Gf.mul (swp V1 n p i c) (Gf.inv (V1 p c))) := hmm0
                        have hmm : mm < 256 := by rw [hmm0]; exact Gf.mul_lt _ _
                        have CM : Hid (∀ w', Calls Try.prog 39 #[.int .u8 (swp V1 n p i c), .int .u8 (Gf.inv (V1 p c))] w' fun e w'' => e = .returned (.int .u8 (mm : Int)) ∧ w'' = w') := by
                          intro w'
                          rw [hmm0]
                          exact rmul_any _ _ l3 (Gf.inv_lt _) w'
                        obtain ⟨bn, cn, qn, BN, -⟩ := LA.out.at n (by omega)
                        rw [mid_n] at BN
                        obtain ⟨di, ei, ri, DI, -⟩ := LB.out.at i hlti
                        obtain ⟨dn, en, rn, DN, -⟩ := LB.out.at n (by omega)
                        simp only [mid_own] at DI
                        simp only [mid_n] at DN
                        have BI : Hid _ := BI
                        have BN : Hid _ := BN
                        have DI : Hid _ := DI
                        have DN : Hid _ := DN
                        clear hmm0 hz3
                        go_wp2_with fail
                        refine Calls.mono (CM.out _) ?_
                        rintro e wx ⟨rfl, hx⟩
                        subst wx
                        clear q3 l3 hv3 CM
                        go_wp2_with fail
                        refine Hld.begin (fun listed w' => (listed.getD 13 true = false → w'.cell? ⟨ga, i, none⟩ = some (.slice (some ⟨bi, 0, none⟩) k ci) ∧ w'.cell? ⟨ga, n, none⟩ = some (.slice (some ⟨bn, 0, none⟩) k cn)) ∧ (listed.getD 23 true = false → w'.cell? ⟨gb, i, none⟩ = some (.slice (some ⟨di, 0, none⟩) size ei) ∧ w'.cell? ⟨gb, n, none⟩ = some (.slice (some ⟨dn, 0, none⟩) size en))) (by kernel_rfl) ?_
                        refine Hld.take (i := 0) (v := .slice (some ⟨ga, 0, none⟩) m cpa) rfl (by kernel_rfl) (by kernel_rfl) (by kernel_rfl) (fun _ _ _ h => h) (fun listed w h => ⟨fun hl => h.1 (by rw [getD_set_ne true (by decide)]; exact hl), fun hl => h.2 (by rw [getD_set_ne true (by decide)]; exact hl)⟩) (Or.inl ⟨by kernel_rfl, fun _ => by kernel_rfl⟩) ⟨fun _ => ⟨qi, qn⟩, fun _ => ⟨ri, rn⟩⟩ ?_
                        refine Hld.take (i := 1) (v := .int .i64 (i : Int)) rfl (by kernel_rfl) (by kernel_rfl) (by kernel_rfl) (fun _ _ _ h => h) (fun listed w h => ⟨fun hl => h.1 (by rw [getD_set_ne true (by decide)]; exact hl), fun hl => h.2 (by rw [getD_set_ne true (by decide)]; exact hl)⟩) (Or.inl ⟨by kernel_rfl, fun _ => by kernel_rfl⟩) ⟨fun _ => ⟨qi, qn⟩, fun _ => ⟨ri, rn⟩⟩ ?_
                        refine Hld.take (i := 2) (v := .slice (some ⟨gb, 0, none⟩) m cpb) rfl (by kernel_rfl) (by kernel_rfl) (by kernel_rfl) (fun _ _ _ h => h) (fun listed w h => ⟨fun hl => h.1 (by rw [getD_set_ne true (by decide)]; exact hl), fun hl => h.2 (by rw [getD_set_ne true (by decide)]; exact hl)⟩) (Or.inl ⟨by kernel_rfl, fun _ => by kernel_rfl⟩) ⟨fun _ => ⟨qi, qn⟩, fun _ => ⟨ri, rn⟩⟩ ?_
                        refine Hld.take (i := 3) (v := .int .i64 (i : Int)) rfl (by kernel_rfl) (by kernel_rfl) (by kernel_rfl) (fun _ _ _ h => h) (fun listed w h => ⟨fun hl => h.1 (by rw [getD_set_ne true (by decide)]; exact hl), fun hl => h.2 (by rw [getD_set_ne true (by decide)]; exact hl)⟩) (Or.inl ⟨by kernel_rfl, fun _ => by kernel_rfl⟩) ⟨fun _ => ⟨qi, qn⟩, fun _ => ⟨ri, rn⟩⟩ ?_
                        refine Hld.take (i := 4) (v := .slice (some ⟨ga, 0, none⟩) m cpa) rfl (by kernel_rfl) (by kernel_rfl) (by kernel_rfl) (fun _ _ _ h => h) (fun listed w h => ⟨fun hl => h.1 (by rw [getD_set_ne true (by decide)]; exact hl), fun hl => h.2 (by rw [getD_set_ne true (by decide)]; exact hl)⟩) (Or.inl ⟨by kernel_rfl, fun _ => by kernel_rfl⟩) ⟨fun _ => ⟨qi, qn⟩, fun _ => ⟨ri, rn⟩⟩ ?_
                        refine Hld.take (i := 5) (v := .int .i64 (i : Int)) rfl (by kernel_rfl) (by kernel_rfl) (by kernel_rfl) (fun _ _ _ h => h) (fun listed w h => ⟨fun hl => h.1 (by rw [getD_set_ne true (by decide)]; exact hl), fun hl => h.2 (by rw [getD_set_ne true (by decide)]; exact hl)⟩) (Or.inl ⟨by kernel_rfl, fun _ => by kernel_rfl⟩) ⟨fun _ => ⟨qi, qn⟩, fun _ => ⟨ri, rn⟩⟩ ?_
                        refine Hld.take (i := 6) (v := .pointer (some ⟨ga, i, none⟩)) rfl (by kernel_rfl) (by kernel_rfl) (by kernel_rfl) (fun _ _ _ h => h) (fun listed w h => ⟨fun hl => h.1 (by rw [getD_set_ne true (by decide)]; exact hl), fun hl => h.2 (by rw [getD_set_ne true (by decide)]; exact hl)⟩) (Or.inl ⟨by kernel_rfl, fun _ => by go_simp⟩) ⟨fun _ => ⟨qi, qn⟩, fun _ => ⟨ri, rn⟩⟩ ?_
                        refine Hld.takeT (i := 7) (v := .slice (some ⟨bi, 0, none⟩) k ci) 13 (fun w' => w'.cell? ⟨ga, i, none⟩ = some (.slice (some ⟨bi, 0, none⟩) k ci)) rfl (by kernel_rfl) (by kernel_rfl) (by kernel_rfl) (by kernel_rfl) (by kernel_rfl) (fun _ _ _ h => h) (fun listed w h => ⟨fun hl => h.1 (by rw [getD_set_ne true (by decide)]; exact hl), fun hl => h.2 (by rw [getD_set_ne true (by decide)]; exact hl)⟩) (fun listed w hl h => (h.1 hl).1) (Or.inl ⟨by kernel_rfl, fun W hW => by have g := hW; go_simp⟩) ⟨fun _ => ⟨qi, qn⟩, fun _ => ⟨ri, rn⟩⟩ ?_
                        refine Hld.take (i := 8) (v := .slice (some ⟨ga, 0, none⟩) m cpa) rfl (by kernel_rfl) (by kernel_rfl) (by kernel_rfl) (fun _ _ _ h => h) (fun listed w h => ⟨fun hl => h.1 (by rw [getD_set_ne true (by decide)]; exact hl), fun hl => h.2 (by rw [getD_set_ne true (by decide)]; exact hl)⟩) (Or.inl ⟨by kernel_rfl, fun _ => by kernel_rfl⟩) ⟨fun _ => ⟨qi, qn⟩, fun _ => ⟨ri, rn⟩⟩ ?_
                        refine Hld.take (i := 9) (v := .int .i64 (n : Int)) rfl (by kernel_rfl) (by kernel_rfl) (by kernel_rfl) (fun _ _ _ h => h) (fun listed w h => ⟨fun hl => h.1 (by rw [getD_set_ne true (by decide)]; exact hl), fun hl => h.2 (by rw [getD_set_ne true (by decide)]; exact hl)⟩) (Or.inl ⟨by kernel_rfl, fun _ => by kernel_rfl⟩) ⟨fun _ => ⟨qi, qn⟩, fun _ => ⟨ri, rn⟩⟩ ?_
                        refine Hld.take (i := 10) (v := .pointer (some ⟨ga, n, none⟩)) rfl (by kernel_rfl) (by kernel_rfl) (by kernel_rfl) (fun _ _ _ h => h) (fun listed w h => ⟨fun hl => h.1 (by rw [getD_set_ne true (by decide)]; exact hl), fun hl => h.2 (by rw [getD_set_ne true (by decide)]; exact hl)⟩) (Or.inl ⟨by kernel_rfl, fun _ => by go_simp⟩) ⟨fun _ => ⟨qi, qn⟩, fun _ => ⟨ri, rn⟩⟩ ?_
                        refine Hld.takeT (i := 11) (v := .slice (some ⟨bn, 0, none⟩) k cn) 13 (fun w' => w'.cell? ⟨ga, n, none⟩ = some (.slice (some ⟨bn, 0, none⟩) k cn)) rfl (by kernel_rfl) (by kernel_rfl) (by kernel_rfl) (by kernel_rfl) (by kernel_rfl) (fun _ _ _ h => h) (fun listed w h => ⟨fun hl => h.1 (by rw [getD_set_ne true (by decide)]; exact hl), fun hl => h.2 (by rw [getD_set_ne true (by decide)]; exact hl)⟩) (fun listed w hl h => (h.1 hl).2) (Or.inl ⟨by kernel_rfl, fun W hW => by have g := hW; go_simp⟩) ⟨fun _ => ⟨qi, qn⟩, fun _ => ⟨ri, rn⟩⟩ ?_
                        refine Hld.take (i := 12) (v := .int .u8 (mm : Int)) rfl (by kernel_rfl) (by kernel_rfl) (by kernel_rfl) (fun _ _ _ h => h) (fun listed w h => ⟨fun hl => h.1 (by rw [getD_set_ne true (by decide)]; exact hl), fun hl => h.2 (by rw [getD_set_ne true (by decide)]; exact hl)⟩) (Or.inl ⟨by kernel_rfl, fun _ => by kernel_rfl⟩) ⟨fun _ => ⟨qi, qn⟩, fun _ => ⟨ri, rn⟩⟩ ?_
                        refine Hld.take (i := 14) (v := .slice (some ⟨gb, 0, none⟩) m cpb) rfl (by kernel_rfl) (by kernel_rfl) (by kernel_rfl) (fun _ _ _ h => h) (fun listed w h => ⟨fun hl => h.1 (by rw [getD_set_ne true (by decide)]; exact hl), fun hl => h.2 (by rw [getD_set_ne true (by decide)]; exact hl)⟩) (Or.inl ⟨by kernel_rfl, fun _ => by kernel_rfl⟩) ⟨fun _ => ⟨qi, qn⟩, fun _ => ⟨ri, rn⟩⟩ ?_
                        refine Hld.take (i := 15) (v := .int .i64 (i : Int)) rfl (by kernel_rfl) (by kernel_rfl) (by kernel_rfl) (fun _ _ _ h => h) (fun listed w h => ⟨fun hl => h.1 (by rw [getD_set_ne true (by decide)]; exact hl), fun hl => h.2 (by rw [getD_set_ne true (by decide)]; exact hl)⟩) (Or.inl ⟨by kernel_rfl, fun _ => by kernel_rfl⟩) ⟨fun _ => ⟨qi, qn⟩, fun _ => ⟨ri, rn⟩⟩ ?_
                        refine Hld.take (i := 16) (v := .pointer (some ⟨gb, i, none⟩)) rfl (by kernel_rfl) (by kernel_rfl) (by kernel_rfl) (fun _ _ _ h => h) (fun listed w h => ⟨fun hl => h.1 (by rw [getD_set_ne true (by decide)]; exact hl), fun hl => h.2 (by rw [getD_set_ne true (by decide)]; exact hl)⟩) (Or.inl ⟨by kernel_rfl, fun _ => by go_simp⟩) ⟨fun _ => ⟨qi, qn⟩, fun _ => ⟨ri, rn⟩⟩ ?_
                        refine Hld.takeT (i := 17) (v := .slice (some ⟨di, 0, none⟩) size ei) 23 (fun w' => w'.cell? ⟨gb, i, none⟩ = some (.slice (some ⟨di, 0, none⟩) size ei)) rfl (by kernel_rfl) (by kernel_rfl) (by kernel_rfl) (by kernel_rfl) (by kernel_rfl) (fun _ _ _ h => h) (fun listed w h => ⟨fun hl => h.1 (by rw [getD_set_ne true (by decide)]; exact hl), fun hl => h.2 (by rw [getD_set_ne true (by decide)]; exact hl)⟩) (fun listed w hl h => (h.2 hl).1) (Or.inl ⟨by kernel_rfl, fun W hW => by have g := hW; go_simp⟩) ⟨fun _ => ⟨qi, qn⟩, fun _ => ⟨ri, rn⟩⟩ ?_
                        refine Hld.take (i := 18) (v := .slice (some ⟨gb, 0, none⟩) m cpb) rfl (by kernel_rfl) (by kernel_rfl) (by kernel_rfl) (fun _ _ _ h => h) (fun listed w h => ⟨fun hl => h.1 (by rw [getD_set_ne true (by decide)]; exact hl), fun hl => h.2 (by rw [getD_set_ne true (by decide)]; exact hl)⟩) (Or.inl ⟨by kernel_rfl, fun _ => by kernel_rfl⟩) ⟨fun _ => ⟨qi, qn⟩, fun _ => ⟨ri, rn⟩⟩ ?_
                        refine Hld.take (i := 19) (v := .int .i64 (n : Int)) rfl (by kernel_rfl) (by kernel_rfl) (by kernel_rfl) (fun _ _ _ h => h) (fun listed w h => ⟨fun hl => h.1 (by rw [getD_set_ne true (by decide)]; exact hl), fun hl => h.2 (by rw [getD_set_ne true (by decide)]; exact hl)⟩) (Or.inl ⟨by kernel_rfl, fun _ => by kernel_rfl⟩) ⟨fun _ => ⟨qi, qn⟩, fun _ => ⟨ri, rn⟩⟩ ?_
                        refine Hld.take (i := 20) (v := .pointer (some ⟨gb, n, none⟩)) rfl (by kernel_rfl) (by kernel_rfl) (by kernel_rfl) (fun _ _ _ h => h) (fun listed w h => ⟨fun hl => h.1 (by rw [getD_set_ne true (by decide)]; exact hl), fun hl => h.2 (by rw [getD_set_ne true (by decide)]; exact hl)⟩) (Or.inl ⟨by kernel_rfl, fun _ => by go_simp⟩) ⟨fun _ => ⟨qi, qn⟩, fun _ => ⟨ri, rn⟩⟩ ?_
                        refine Hld.takeT (i := 21) (v := .slice (some ⟨dn, 0, none⟩) size en) 23 (fun w' => w'.cell? ⟨gb, n, none⟩ = some (.slice (some ⟨dn, 0, none⟩) size en)) rfl (by kernel_rfl) (by kernel_rfl) (by kernel_rfl) (by kernel_rfl) (by kernel_rfl) (fun _ _ _ h => h) (fun listed w h => ⟨fun hl => h.1 (by rw [getD_set_ne true (by decide)]; exact hl), fun hl => h.2 (by rw [getD_set_ne true (by decide)]; exact hl)⟩) (fun listed w hl h => (h.2 hl).2) (Or.inl ⟨by kernel_rfl, fun W hW => by have g := hW; go_simp⟩) ⟨fun _ => ⟨qi, qn⟩, fun _ => ⟨ri, rn⟩⟩ ?_
                        refine Hld.take (i := 22) (v := .int .u8 (mm : Int)) rfl (by kernel_rfl) (by kernel_rfl) (by kernel_rfl) (fun _ _ _ h => h) (fun listed w h => ⟨fun hl => h.1 (by rw [getD_set_ne true (by decide)]; exact hl), fun hl => h.2 (by rw [getD_set_ne true (by decide)]; exact hl)⟩) (Or.inl ⟨by kernel_rfl, fun _ => by kernel_rfl⟩) ⟨fun _ => ⟨qi, qn⟩, fun _ => ⟨ri, rn⟩⟩ ?_
                        refine Hld.next (i := 13) (by kernel_rfl) rfl (fun K2 hK2 => ?_)
                        go_simp
                        refine (raxpy_new k ci cn mm _ _ (swp V1 n p i) (V1 p) _ ?_ ?_ (by omega) (by omega) hmm).mono ?_
                        · exact ⟨BI.out.cells, BI.out.lt⟩
                        · exact ⟨BN.out.cells, BN.out.lt⟩
                        rintro e W4 ⟨g4, c4, rfl, hg4, N4, hb4⟩
                        have hb4 : Below wr.heap.size wr W4 := (Below.refl _ wr).drew.trans hb4
                        have ri1 := (hb4.cell (p := ⟨gb, i, none⟩) (cell_lt ri)).trans ri
                        have rn1 := (hb4.cell (p := ⟨gb, n, none⟩) (cell_lt rn)).trans rn
                        have DI := DI.out.grew hb4
                        have DN := DN.out.grew hb4
                        have LA := LA.out.grew hb4
                        have LB := LB.out.grew hb4
                        have BL := BL.out.trans (hb4.mono BL.out.size)
                        refine hK2.out _ _ ⟨(fun h => absurd (Eq.trans (Eq.symm (by kernel_rfl)) h) (by decide : ¬ (true = false))), fun _ => ⟨ri1, rn1⟩⟩ ?_
                        clear hK2 K2 hb4 ri rn qi qn BI BN hg4
                        refine Hld.next (i := 23) (by kernel_rfl) rfl (fun K2 hK2 => ?_)
                        go_simp
                        refine (raxpy_new size ei en mm _ _ (fun s => swp V1 n p i (k + s)) (fun s => V1 p (k + s)) _ DI DN (by omega) (by omega) hmm).mono ?_
                        rintro e W5 ⟨g5, c5, rfl, hg5, N5, hb5⟩
                        have LA := LA.grew hb5
                        have LB := LB.grew hb5
                        have BL := BL.trans (hb5.mono BL.size)
                        have N4 := N4.grew hb5
                        refine hK2.out _ _ ⟨(fun h => absurd (Eq.trans (Eq.symm (by kernel_rfl)) h) (by decide : ¬ (true = false))), (fun h => absurd (Eq.trans (Eq.symm (by kernel_rfl)) h) (by decide : ¬ (true = false)))⟩ ?_
                        clear hK2 K2 hb5 ri1 rn1 DI DN hg5
                        obtain ⟨x1, y1, qx, -, fx⟩ := LA.at i hlti
                        refine Hld.take (i := 24) (v := .pointer (some ⟨ga, i, none⟩)) rfl (by kernel_rfl) (by kernel_rfl) (by kernel_rfl) (fun _ _ _ h => h) (fun listed w h => ⟨fun hl => h.1 (by rw [getD_set_ne true (by decide)]; exact hl), fun hl => h.2 (by rw [getD_set_ne true (by decide)]; exact hl)⟩) (Or.inl ⟨by kernel_rfl, fun _ => by go_simp⟩) ⟨(fun h => absurd (Eq.trans (Eq.symm (by kernel_rfl)) h) (by decide : ¬ (true = false))), (fun h => absurd (Eq.trans (Eq.symm (by kernel_rfl)) h) (by decide : ¬ (true = false)))⟩ ?_
                        refine Hld.next (i := 25) (by kernel_rfl) rfl (fun K2 hK2 => ?_)
                        go_simp
                        refine hK2.out _ _ ⟨(fun h => absurd (Eq.trans (Eq.symm (by kernel_rfl)) h) (by decide : ¬ (true = false))), (fun h => absurd (Eq.trans (Eq.symm (by kernel_rfl)) h) (by decide : ¬ (true = false)))⟩ ?_
                        clear hK2 K2
                        rw [HMM.out] at N4 N5
                        have LA1 : Lst (W5.setCell ⟨ga, i, none⟩ (.slice (some ⟨g4, 0, none⟩) k c4)) ga cpa m k (mid V1 n p c (i + 1)) := LA.set i N4 _ (fun t _ => by rw [mid_next V1 n p c i t hin])
                        have LB1 := LB.other LA HN.out.symm i (.slice (some ⟨g4, 0, none⟩) k c4)
                        have N51 := N5.setOther (i := i) (v := .slice (some ⟨g4, 0, none⟩) k c4) (LA.ne N5 (by omega))
                        have BL1 := BL.setCell (p := ⟨ga, i, none⟩) GA.out (.slice (some ⟨g4, 0, none⟩) k c4)
                        generalize W5.setCell ⟨ga, i, none⟩ (.slice (some ⟨g4, 0, none⟩) k c4) = W6 at *
                        clear LA LB BL N4 N5 qx fx
                        obtain ⟨x2, y2, qy, -, fy⟩ := LB1.at i hlti
                        refine Hld.take (i := 26) (v := .pointer (some ⟨gb, i, none⟩)) rfl (by kernel_rfl) (by kernel_rfl) (by kernel_rfl) (fun _ _ _ h => h) (fun listed w h => ⟨fun hl => h.1 (by rw [getD_set_ne true (by decide)]; exact hl), fun hl => h.2 (by rw [getD_set_ne true (by decide)]; exact hl)⟩) (Or.inl ⟨by kernel_rfl, fun _ => by go_simp⟩) ⟨(fun h => absurd (Eq.trans (Eq.symm (by kernel_rfl)) h) (by decide : ¬ (true = false))), (fun h => absurd (Eq.trans (Eq.symm (by kernel_rfl)) h) (by decide : ¬ (true = false)))⟩ ?_
                        refine Hld.next (i := 27) (by kernel_rfl) rfl (fun K2 hK2 => ?_)
                        go_simp
                        refine hK2.out _ _ ⟨(fun h => absurd (Eq.trans (Eq.symm (by kernel_rfl)) h) (by decide : ¬ (true = false))), (fun h => absurd (Eq.trans (Eq.symm (by kernel_rfl)) h) (by decide : ¬ (true = false)))⟩ ?_
                        clear hK2 K2
                        have LA : Hid (Lst (W6.setCell ⟨gb, i, none⟩ (.slice (some ⟨g5, 0, none⟩) size c5)) ga cpa m k (mid V1 n p c (i + 1))) := LA1.other LB1 HN.out i (.slice (some ⟨g5, 0, none⟩) size c5)
                        have LB : Hid (Lst (W6.setCell ⟨gb, i, none⟩ (.slice (some ⟨g5, 0, none⟩) size c5)) gb cpb m size (fun t s => mid V1 n p c (i + 1) t (k + s))) := LB1.set i N51 _ (fun t _ => by funext s; rw [mid_next V1 n p c i t hin]; by_cases e : t = i <;> simp [e] <;> rfl)
                        have BL : Hid (Below w.heap.size w (W6.setCell ⟨gb, i, none⟩ (.slice (some ⟨g5, 0, none⟩) size c5))) := BL1.setCell (p := ⟨gb, i, none⟩) GB.out (.slice (some ⟨g5, 0, none⟩) size c5)
                        generalize W6.setCell ⟨gb, i, none⟩ (.slice (some ⟨g5, 0, none⟩) size c5) = W7 at *
                        clear LA1 LB1 BL1 N51 qy fy
                        refine Hld.done (by kernel_rfl) ?_ _
                        go_wp2_with fail
                        go_roundw
                        case rel => exact ⟨i + 1, by omega, by go_num, LA.out, LB.out, BL.out⟩
                        case measure => simp [intOf]; omega
                  · have hie : i = m := by omega
                    rw [hie] at LA LB
                    obtain ⟨bn, cn, qn, BN, -⟩ := LA.out.at n (by omega)
                    rw [mid_n] at BN
                    obtain ⟨dn, en, rn, DN, -⟩ := LB.out.at n (by omega)
                    simp only [mid_n] at DN
                    have BN : Hid _ := BN
                    have DN : Hid _ := DN
                    have hk1 := run_make_row' (P := Try.prog) 26 5 (.int .u8 0) 1 Try.underlying26 Try.infoByte rfl .i64 .i64 k (by omega) (by omega)
                    have hk2 := run_make_row' (P := Try.prog) 26 5 (.int .u8 0) 1 Try.underlying26 Try.infoByte rfl .i64 .i64 size (by omega) (by omega)
                    have hb8 : Below wr.heap.size wr (wr.alloc (.cells (madeCells #[.int .u8 0] k) 5)) := (Below.refl _ _).alloc (Nat.le_refl _) _
                    have rn8 := (hb8.cell (p := ⟨gb, n, none⟩) (cell_lt rn)).trans rn
                    go_wp2_with fail
                    have hb9 : Below wr.heap.size wr ((wr.alloc (.cells (madeCells #[.int .u8 0] k) 5)).alloc (.cells (madeCells #[.int .u8 0] size) 5)) := below_two _ _ _
                    have z1' : BytesAt ((wr.alloc (.cells (madeCells #[.int .u8 0] k) 5)).alloc (.cells (madeCells #[.int .u8 0] size) 5)) (some ⟨wr.heap.size, 0, none⟩) k (fun _ => 0) := (zeros_at wr k).grew ((Below.refl _ _).alloc (Nat.le_refl _) _)
                    have z2' : BytesAt ((wr.alloc (.cells (madeCells #[.int .u8 0] k) 5)).alloc (.cells (madeCells #[.int .u8 0] size) 5)) (some ⟨wr.heap.size + 1, 0, none⟩) size (fun _ => 0) := by have := zeros_at (wr.alloc (.cells (madeCells #[.int .u8 0] k) 5)) size; rwa [World.size_alloc] at this
                    have qn := (hb9.cell (p := ⟨ga, n, none⟩) (cell_lt qn)).trans qn
                    have rn := (hb9.cell (p := ⟨gb, n, none⟩) (cell_lt rn)).trans rn
                    have BN : Hid _ := BN.out.grew hb9
                    have DN : Hid _ := DN.out.grew hb9
                    have LA : Hid _ := LA.out.grew hb9
                    have LB : Hid _ := LB.out.grew hb9
                    have BL : Hid _ := BL.out.trans (hb9.mono BL.out.size)
                    have Z1 : Hid _ := z1'
                    have Z2 : Hid _ := z2'
                    generalize ((wr.alloc (.cells (madeCells #[.int .u8 0] k) 5)).alloc (.cells (madeCells #[.int .u8 0] size) 5)) = W9 at *
                    generalize wr.heap.size + 1 = z2 at *
                    generalize wr.heap.size = z1 at *
                    clear hb8 hb9 rn8 hk1 hk2 z1' z2'
                    refine Hld.begin (fun listed w' => (listed.getD 10 true = false → w'.cell? ⟨ga, n, none⟩ = some (.slice (some ⟨bn, 0, none⟩) k cn)) ∧ (listed.getD 17 true = false → w'.cell? ⟨gb, n, none⟩ = some (.slice (some ⟨dn, 0, none⟩) size en))) (by kernel_rfl) ?_
                    refine Hld.take (i := 0) (v := .slice (some ⟨ga, 0, none⟩) m cpa) rfl (by kernel_rfl) (by kernel_rfl) (by kernel_rfl) (fun _ _ _ h => h) (fun listed w h => ⟨fun hl => h.1 (by rw [getD_set_ne true (by decide)]; exact hl), fun hl => h.2 (by rw [getD_set_ne true (by decide)]; exact hl)⟩) (Or.inl ⟨by kernel_rfl, fun _ => by kernel_rfl⟩) ⟨fun _ => qn, fun _ => rn⟩ ?_
                    refine Hld.take (i := 1) (v := .int .i64 (n : Int)) rfl (by kernel_rfl) (by kernel_rfl) (by kernel_rfl) (fun _ _ _ h => h) (fun listed w h => ⟨fun hl => h.1 (by rw [getD_set_ne true (by decide)]; exact hl), fun hl => h.2 (by rw [getD_set_ne true (by decide)]; exact hl)⟩) (Or.inl ⟨by kernel_rfl, fun _ => by kernel_rfl⟩) ⟨fun _ => qn, fun _ => rn⟩ ?_
                    refine Hld.take (i := 2) (v := .slice (some ⟨gb, 0, none⟩) m cpb) rfl (by kernel_rfl) (by kernel_rfl) (by kernel_rfl) (fun _ _ _ h => h) (fun listed w h => ⟨fun hl => h.1 (by rw [getD_set_ne true (by decide)]; exact hl), fun hl => h.2 (by rw [getD_set_ne true (by decide)]; exact hl)⟩) (Or.inl ⟨by kernel_rfl, fun _ => by kernel_rfl⟩) ⟨fun _ => qn, fun _ => rn⟩ ?_
                    refine Hld.take (i := 3) (v := .int .i64 (n : Int)) rfl (by kernel_rfl) (by kernel_rfl) (by kernel_rfl) (fun _ _ _ h => h) (fun listed w h => ⟨fun hl => h.1 (by rw [getD_set_ne true (by decide)]; exact hl), fun hl => h.2 (by rw [getD_set_ne true (by decide)]; exact hl)⟩) (Or.inl ⟨by kernel_rfl, fun _ => by kernel_rfl⟩) ⟨fun _ => qn, fun _ => rn⟩ ?_
                    refine Hld.take (i := 4) (v := .slice (some ⟨z1, 0, none⟩) k k) rfl (by kernel_rfl) (by kernel_rfl) (by kernel_rfl) (fun _ _ _ h => h) (fun listed w h => ⟨fun hl => h.1 (by rw [getD_set_ne true (by decide)]; exact hl), fun hl => h.2 (by rw [getD_set_ne true (by decide)]; exact hl)⟩) (Or.inl ⟨by kernel_rfl, fun _ => by kernel_rfl⟩) ⟨fun _ => qn, fun _ => rn⟩ ?_
                    refine Hld.take (i := 5) (v := .slice (some ⟨ga, 0, none⟩) m cpa) rfl (by kernel_rfl) (by kernel_rfl) (by kernel_rfl) (fun _ _ _ h => h) (fun listed w h => ⟨fun hl => h.1 (by rw [getD_set_ne true (by decide)]; exact hl), fun hl => h.2 (by rw [getD_set_ne true (by decide)]; exact hl)⟩) (Or.inl ⟨by kernel_rfl, fun _ => by kernel_rfl⟩) ⟨fun _ => qn, fun _ => rn⟩ ?_
                    refine Hld.take (i := 6) (v := .int .i64 (n : Int)) rfl (by kernel_rfl) (by kernel_rfl) (by kernel_rfl) (fun _ _ _ h => h) (fun listed w h => ⟨fun hl => h.1 (by rw [getD_set_ne true (by decide)]; exact hl), fun hl => h.2 (by rw [getD_set_ne true (by decide)]; exact hl)⟩) (Or.inl ⟨by kernel_rfl, fun _ => by kernel_rfl⟩) ⟨fun _ => qn, fun _ => rn⟩ ?_
                    refine Hld.take (i := 7) (v := .pointer (some ⟨ga, n, none⟩)) rfl (by kernel_rfl) (by kernel_rfl) (by kernel_rfl) (fun _ _ _ h => h) (fun listed w h => ⟨fun hl => h.1 (by rw [getD_set_ne true (by decide)]; exact hl), fun hl => h.2 (by rw [getD_set_ne true (by decide)]; exact hl)⟩) (Or.inl ⟨by kernel_rfl, fun _ => by go_simp⟩) ⟨fun _ => qn, fun _ => rn⟩ ?_
                    refine Hld.takeT (i := 8) (v := .slice (some ⟨bn, 0, none⟩) k cn) 10 (fun w' => w'.cell? ⟨ga, n, none⟩ = some (.slice (some ⟨bn, 0, none⟩) k cn)) rfl (by kernel_rfl) (by kernel_rfl) (by kernel_rfl) (by kernel_rfl) (by kernel_rfl) (fun _ _ _ h => h) (fun listed w h => ⟨fun hl => h.1 (by rw [getD_set_ne true (by decide)]; exact hl), fun hl => h.2 (by rw [getD_set_ne true (by decide)]; exact hl)⟩) (fun listed w hl h => h.1 hl) (Or.inl ⟨by kernel_rfl, fun W hW => by have g := hW; go_simp⟩) ⟨fun _ => qn, fun _ => rn⟩ ?_
                    refine Hld.take (i := 9) (v := .int .u8 (Gf.inv (V1 p c) : Int)) rfl (by kernel_rfl) (by kernel_rfl) (by kernel_rfl) (fun _ _ _ h => h) (fun listed w h => ⟨fun hl => h.1 (by rw [getD_set_ne true (by decide)]; exact hl), fun hl => h.2 (by rw [getD_set_ne true (by decide)]; exact hl)⟩) (Or.inl ⟨by kernel_rfl, fun _ => by kernel_rfl⟩) ⟨fun _ => qn, fun _ => rn⟩ ?_
                    refine Hld.take (i := 11) (v := .slice (some ⟨z2, 0, none⟩) size size) rfl (by kernel_rfl) (by kernel_rfl) (by kernel_rfl) (fun _ _ _ h => h) (fun listed w h => ⟨fun hl => h.1 (by rw [getD_set_ne true (by decide)]; exact hl), fun hl => h.2 (by rw [getD_set_ne true (by decide)]; exact hl)⟩) (Or.inl ⟨by kernel_rfl, fun _ => by kernel_rfl⟩) ⟨fun _ => qn, fun _ => rn⟩ ?_
                    refine Hld.take (i := 12) (v := .slice (some ⟨gb, 0, none⟩) m cpb) rfl (by kernel_rfl) (by kernel_rfl) (by kernel_rfl) (fun _ _ _ h => h) (fun listed w h => ⟨fun hl => h.1 (by rw [getD_set_ne true (by decide)]; exact hl), fun hl => h.2 (by rw [getD_set_ne true (by decide)]; exact hl)⟩) (Or.inl ⟨by kernel_rfl, fun _ => by kernel_rfl⟩) ⟨fun _ => qn, fun _ => rn⟩ ?_
                    refine Hld.take (i := 13) (v := .int .i64 (n : Int)) rfl (by kernel_rfl) (by kernel_rfl) (by kernel_rfl) (fun _ _ _ h => h) (fun listed w h => ⟨fun hl => h.1 (by rw [getD_set_ne true (by decide)]; exact hl), fun hl => h.2 (by rw [getD_set_ne true (by decide)]; exact hl)⟩) (Or.inl ⟨by kernel_rfl, fun _ => by kernel_rfl⟩) ⟨fun _ => qn, fun _ => rn⟩ ?_
                    refine Hld.take (i := 14) (v := .pointer (some ⟨gb, n, none⟩)) rfl (by kernel_rfl) (by kernel_rfl) (by kernel_rfl) (fun _ _ _ h => h) (fun listed w h => ⟨fun hl => h.1 (by rw [getD_set_ne true (by decide)]; exact hl), fun hl => h.2 (by rw [getD_set_ne true (by decide)]; exact hl)⟩) (Or.inl ⟨by kernel_rfl, fun _ => by go_simp⟩) ⟨fun _ => qn, fun _ => rn⟩ ?_
                    refine Hld.takeT (i := 15) (v := .slice (some ⟨dn, 0, none⟩) size en) 17 (fun w' => w'.cell? ⟨gb, n, none⟩ = some (.slice (some ⟨dn, 0, none⟩) size en)) rfl (by kernel_rfl) (by kernel_rfl) (by kernel_rfl) (by kernel_rfl) (by kernel_rfl) (fun _ _ _ h => h) (fun listed w h => ⟨fun hl => h.1 (by rw [getD_set_ne true (by decide)]; exact hl), fun hl => h.2 (by rw [getD_set_ne true (by decide)]; exact hl)⟩) (fun listed w hl h => h.2 hl) (Or.inl ⟨by kernel_rfl, fun W hW => by have g := hW; go_simp⟩) ⟨fun _ => qn, fun _ => rn⟩ ?_
                    refine Hld.take (i := 16) (v := .int .u8 (Gf.inv (V1 p c) : Int)) rfl (by kernel_rfl) (by kernel_rfl) (by kernel_rfl) (fun _ _ _ h => h) (fun listed w h => ⟨fun hl => h.1 (by rw [getD_set_ne true (by decide)]; exact hl), fun hl => h.2 (by rw [getD_set_ne true (by decide)]; exact hl)⟩) (Or.inl ⟨by kernel_rfl, fun _ => by kernel_rfl⟩) ⟨fun _ => qn, fun _ => rn⟩ ?_
                    refine Hld.next (i := 10) (by kernel_rfl) rfl (fun K2 hK2 => ?_)
                    go_simp
                    refine (raxpy_new k k cn (Gf.inv (V1 p c)) _ _ (fun _ => 0) (V1 p) _ ?_ ?_ (by omega) (by omega) (Gf.inv_lt _)).mono ?_
                    · exact ⟨Z1.out.cells, Z1.out.lt⟩
                    · exact ⟨BN.out.cells, BN.out.lt⟩
                    rintro e W4 ⟨g4, c4, rfl, hg4, N4, hb4⟩
                    have hb4 : Below W9.heap.size W9 W4 := (Below.refl _ W9).drew.trans hb4
                    have rn1 := (hb4.cell (p := ⟨gb, n, none⟩) (cell_lt rn)).trans rn
                    have DN := DN.out.grew hb4
                    have Z2 := Z2.out.grew hb4
                    have LA := LA.out.grew hb4
                    have LB := LB.out.grew hb4
                    have BL := BL.out.trans (hb4.mono BL.out.size)
                    refine hK2.out _ _ ⟨(fun h => absurd (Eq.trans (Eq.symm (by kernel_rfl)) h) (by decide : ¬ (true = false))), fun _ => rn1⟩ ?_
                    clear hK2 K2 hb4 rn qn BN hg4 Z1
                    refine Hld.next (i := 17) (by kernel_rfl) rfl (fun K2 hK2 => ?_)
                    go_simp
                    refine (raxpy_new size size en (Gf.inv (V1 p c)) _ _ (fun _ => 0) (fun s => V1 p (k + s)) _ Z2 DN (by omega) (by omega) (Gf.inv_lt _)).mono ?_
                    rintro e W5 ⟨g5, c5, rfl, hg5, N5, hb5⟩
                    have LA := LA.grew hb5
                    have LB := LB.grew hb5
                    have BL := BL.trans (hb5.mono BL.size)
                    have N4 := N4.grew hb5
                    refine hK2.out _ _ ⟨(fun h => absurd (Eq.trans (Eq.symm (by kernel_rfl)) h) (by decide : ¬ (true = false))), (fun h => absurd (Eq.trans (Eq.symm (by kernel_rfl)) h) (by decide : ¬ (true = false)))⟩ ?_
                    clear hK2 K2 hb5 rn1 DN Z2 hg5
                    obtain ⟨x1, y1, qx, -, fx⟩ := LA.at n (by omega)
                    refine Hld.take (i := 18) (v := .pointer (some ⟨ga, n, none⟩)) rfl (by kernel_rfl) (by kernel_rfl) (by kernel_rfl) (fun _ _ _ h => h) (fun listed w h => ⟨fun hl => h.1 (by rw [getD_set_ne true (by decide)]; exact hl), fun hl => h.2 (by rw [getD_set_ne true (by decide)]; exact hl)⟩) (Or.inl ⟨by kernel_rfl, fun _ => by go_simp⟩) ⟨(fun h => absurd (Eq.trans (Eq.symm (by kernel_rfl)) h) (by decide : ¬ (true = false))), (fun h => absurd (Eq.trans (Eq.symm (by kernel_rfl)) h) (by decide : ¬ (true = false)))⟩ ?_
                    refine Hld.next (i := 19) (by kernel_rfl) rfl (fun K2 hK2 => ?_)
                    go_simp
                    refine hK2.out _ _ ⟨(fun h => absurd (Eq.trans (Eq.symm (by kernel_rfl)) h) (by decide : ¬ (true = false))), (fun h => absurd (Eq.trans (Eq.symm (by kernel_rfl)) h) (by decide : ¬ (true = false)))⟩ ?_
                    clear hK2 K2
                    have LA1 : Lst (W5.setCell ⟨ga, n, none⟩ (.slice (some ⟨g4, 0, none⟩) k c4)) ga cpa m k (gau V1 n p c) := LA.set n N4 _ (fun t ht => mid_end V1 n p c m t ht)
                    have LB1 := LB.other LA HN.out.symm n (.slice (some ⟨g4, 0, none⟩) k c4)
                    have N51 := N5.setOther (i := n) (v := .slice (some ⟨g4, 0, none⟩) k c4) (LA.ne N5 (by omega))
                    have BL1 := BL.setCell (p := ⟨ga, n, none⟩) GA.out (.slice (some ⟨g4, 0, none⟩) k c4)
                    generalize W5.setCell ⟨ga, n, none⟩ (.slice (some ⟨g4, 0, none⟩) k c4) = W6 at *
                    clear LA LB BL N4 N5 qx fx
                    obtain ⟨x2, y2, qy, -, fy⟩ := LB1.at n (by omega)
                    refine Hld.take (i := 20) (v := .pointer (some ⟨gb, n, none⟩)) rfl (by kernel_rfl) (by kernel_rfl) (by kernel_rfl) (fun _ _ _ h => h) (fun listed w h => ⟨fun hl => h.1 (by rw [getD_set_ne true (by decide)]; exact hl), fun hl => h.2 (by rw [getD_set_ne true (by decide)]; exact hl)⟩) (Or.inl ⟨by kernel_rfl, fun _ => by go_simp⟩) ⟨(fun h => absurd (Eq.trans (Eq.symm (by kernel_rfl)) h) (by decide : ¬ (true = false))), (fun h => absurd (Eq.trans (Eq.symm (by kernel_rfl)) h) (by decide : ¬ (true = false)))⟩ ?_
                    refine Hld.next (i := 21) (by kernel_rfl) rfl (fun K2 hK2 => ?_)
                    go_simp
                    refine hK2.out _ _ ⟨(fun h => absurd (Eq.trans (Eq.symm (by kernel_rfl)) h) (by decide : ¬ (true = false))), (fun h => absurd (Eq.trans (Eq.symm (by kernel_rfl)) h) (by decide : ¬ (true = false)))⟩ ?_
                    clear hK2 K2
                    have LA : Hid (Lst (W6.setCell ⟨gb, n, none⟩ (.slice (some ⟨g5, 0, none⟩) size c5)) ga cpa m k (gau V1 n p c)) := LA1.other LB1 HN.out n (.slice (some ⟨g5, 0, none⟩) size c5)
                    have LB : Hid (Lst (W6.setCell ⟨gb, n, none⟩ (.slice (some ⟨g5, 0, none⟩) size c5)) gb cpb m size (fun t s => gau V1 n p c t (k + s))) := LB1.set n N51 _ (fun t ht => by funext s; rw [mid_end V1 n p c m t ht]; by_cases e : t = n <;> simp [e] <;> rfl)
                    have BL : Hid (Below w.heap.size w (W6.setCell ⟨gb, n, none⟩ (.slice (some ⟨g5, 0, none⟩) size c5))) := BL1.setCell (p := ⟨gb, n, none⟩) GB.out (.slice (some ⟨g5, 0, none⟩) size c5)
                    generalize W6.setCell ⟨gb, n, none⟩ (.slice (some ⟨g5, 0, none⟩) size c5) = W7 at *
                    clear LA1 LB1 BL1 N51 qy fy
                    refine Hld.done (by kernel_rfl) ?_ _
                    go_wp2_with fail
                    go_roundw
                    case rel => exact ⟨c + 1, n + 1, _, _, by omega, by go_num, by go_num, SP.out, LA.out, LB.out, BL.out⟩
                    case measure => simp [intOf]; omega
        · have hck2 : c = k := by omega
          subst hck2
          go_wp2
          exact bodyPost_ret (v := .tuple #[.slice (some ⟨ga, 0, none⟩) m cpa, .slice (some ⟨gb, 0, none⟩) m cpb, .int .i64 (n : Int)]) (by simp [results, Try.results33, go_sem]) rfl ⟨ga, gb, cpa, cpb, n, V1, T, rfl, ST.out, LA.out, LB.out, GA.out, GB.out, HN.out, BL.out⟩

end Go.Proofs.Ythlidbenhlidjaa

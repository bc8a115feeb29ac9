/-
  Package packet: what its faces do with its refusals.
-/
import Derived.Test.YtcflaklnafggmaaPpm
namespace Go.Proofs.Ytcflaklnafggmaa
open Go.RowKit Go.Deep

theorem assertP_no (w : World) : (Instr.typeAssert .nilIface 20 49 true).run Try.prog w = .ok (.tuple #[.agg #[.int .i64 0], .bool false]) w := by kernel_rfl
theorem assertP_yes (E : Int) (w : World) : (Instr.typeAssert (.iface 49 (.agg #[.int .i64 E])) 20 49 true).run Try.prog w = .ok (.tuple #[.agg #[.int .i64 E], .bool true]) w := by kernel_rfl
theorem tmpsP (n : Nat) (a b v2 v3 v4 v5 v6 v7 v8 : Value) : #[a, b] ++ (((((((Array.replicate (n + 7) undef).setIfInBounds 3 v5).setIfInBounds 4 v6).setIfInBounds 2 v4).setIfInBounds 5 v7).setIfInBounds 6 v8).setIfInBounds 0 v2).setIfInBounds 1 v3 = #[a, b, v2, v3, v4, v5, v6, v7, v8] ++ Array.replicate n undef := by
  apply Array.toList_inj.mp
  simp [List.replicate_succ]
theorem catchP_idle (p q : Addr) (w : World) :
    CallsD Try.prog 18 #[.pointer (some p), .pointer (some q)] .returning w fun e u' w' => e = .returned (.tuple #[]) ∧ u' = .returning ∧ Below w.heap.size w w' := by
  refine callsD_of_wpS Try.func18 rfl fun c₀ cs hu => ?_
  apply wpS_seq
  apply wpS_region
  simp [wpOpsS, go_sem, recoverD, hu, assertP_no, Try.ntmps18, Exit.thenS]
  refine wpS_of_wp ?_
  rw [tmpsP 3]
  go_wp2
  have hb : Below w.heap.size w (w.alloc (.cells #[.int .i64 0] 49)) := (Below.refl _ _).alloc (Nat.le_refl _) _
  generalize w.alloc (.cells #[.int .i64 0] 49) = w1 at *
  cases c₀
  simp_all [bodyPostS, results, Try.results18]
set_option maxRecDepth 100000 in
set_option maxHeartbeats 1000000 in
theorem catchP_yes (b1 b2 B : Nat) (x y : Value) (E : Int) (older : List PanicEntry) (w : World) (hc : w.cell? ⟨b1, 0, none⟩ = some x) (hz : w.frozen? ⟨b1, 0, none⟩ = false) (hd : w.cell? ⟨b2, 0, none⟩ = some y) (hy : w.frozen? ⟨b2, 0, none⟩ = false) (hne : b1 ≠ b2) (h1 : B ≤ b1) (h2 : B ≤ b2) :
    CallsD Try.prog 18 #[.pointer (some ⟨b1, 0, none⟩), .pointer (some ⟨b2, 0, none⟩)] (.panicking ({ v := .iface 49 (.agg #[.int .i64 E]), recovered := false } :: older)) w fun e u' w' =>
      e = .returned (.tuple #[]) ∧ u' = .panicking ({ v := .iface 49 (.agg #[.int .i64 E]), recovered := true } :: older) ∧ w'.cell? ⟨b1, 0, none⟩ = some (.slice none 0 0) ∧ w'.cell? ⟨b2, 0, none⟩ = some (.int .i64 E) ∧ Below B w w' := by
  refine callsD_of_wpS Try.func18 rfl fun c₀ cs hu => ?_
  apply wpS_seq
  apply wpS_region
  simp [wpOpsS, go_sem, recoverD, hu, assertP_yes, Try.ntmps18, Exit.thenS]
  refine wpS_of_wp ?_
  rw [tmpsP 3]
  have l1 := cell_lt hc
  have l2 := cell_lt hd
  have b1' : Below w.heap.size w (w.alloc (.cells #[.int .i64 E] 49)) := (Below.refl _ _).alloc (Nat.le_refl _) _
  have hB : Below B w (w.alloc (.cells #[.int .i64 E] 49)) := b1'.mono (by omega)
  have c1 := (b1'.cell (p := ⟨b1, 0, none⟩) l1).trans hc
  have z1 := (World.frozen?_of_block (a := ⟨b1, 0, none⟩) (b1'.block _ l1)).trans hz
  have c2 := (b1'.cell (p := ⟨b2, 0, none⟩) l2).trans hd
  have z2 := (World.frozen?_of_block (a := ⟨b2, 0, none⟩) (b1'.block _ l2)).trans hy
  have c3 : (w.alloc (.cells #[.int .i64 E] 49)).cell? ⟨w.heap.size, 0, none⟩ = some (.int .i64 E) := by rw [World.cell?_alloc_at _ _ _ _ rfl]; rfl
  clear b1' hc hz hd hy
  generalize w.alloc (.cells #[.int .i64 E] 49) = w1 at *
  generalize w.heap.size = G at *
  have d2 := (World.cell?_setCell_other w1 ⟨b1, 0, none⟩ ⟨b2, 0, none⟩ (.slice none 0 0) (blk_ne hne)).trans c2
  have d3 := (World.cell?_setCell_other w1 ⟨b1, 0, none⟩ ⟨G, 0, none⟩ (.slice none 0 0) (blk_ne (by omega))).trans c3
  have k1 : (((w1.setCell ⟨b1, 0, none⟩ (.slice none 0 0)).setCell ⟨b2, 0, none⟩ (.int .i64 E)).drew).cell? ⟨b1, 0, none⟩ = some (.slice none 0 0) := (World.cell?_setCell_other (w1.setCell ⟨b1, 0, none⟩ (.slice none 0 0)) ⟨b2, 0, none⟩ ⟨b1, 0, none⟩ (.int .i64 E) (blk_ne (Ne.symm hne))).trans (World.cell?_setCell_same _ _ _ c1)
  have k2 : (((w1.setCell ⟨b1, 0, none⟩ (.slice none 0 0)).setCell ⟨b2, 0, none⟩ (.int .i64 E)).drew).cell? ⟨b2, 0, none⟩ = some (.int .i64 E) := World.cell?_setCell_same _ _ _ d2
  have k3 : Below B w (((w1.setCell ⟨b1, 0, none⟩ (.slice none 0 0)).setCell ⟨b2, 0, none⟩ (.int .i64 E)).drew) := ((hB.setCell (p := ⟨b1, 0, none⟩) h1 _).setCell (p := ⟨b2, 0, none⟩) h2 _).drew
  have HA : Hid ((((w1.setCell ⟨b1, 0, none⟩ (.slice none 0 0)).setCell ⟨b2, 0, none⟩ (.int .i64 E)).drew).cell? ⟨b1, 0, none⟩ = some (.slice none 0 0) ∧ (((w1.setCell ⟨b1, 0, none⟩ (.slice none 0 0)).setCell ⟨b2, 0, none⟩ (.int .i64 E)).drew).cell? ⟨b2, 0, none⟩ = some (.int .i64 E) ∧ Below B w (((w1.setCell ⟨b1, 0, none⟩ (.slice none 0 0)).setCell ⟨b2, 0, none⟩ (.int .i64 E)).drew)) := ⟨k1, k2, k3⟩
  clear k1 k2 k3 hB
  go_wp2_with fail
  go_region
  all_goals
    go_wp2
    have HA := HA.out
    generalize (((w1.setCell ⟨b1, 0, none⟩ (.slice none 0 0)).setCell ⟨b2, 0, none⟩ (.int .i64 E)).drew) = w2 at *
    cases c₀
    simp_all [bodyPostS, results, Try.results18]
theorem cell_drew (w : World) (a : Addr) : w.drew.cell? a = w.cell? a := rfl
theorem catchT_idle (p q : Addr) (w : World) :
    CallsD Try.prog 25 #[.pointer (some p), .pointer (some q)] .returning w fun e u' w' => e = .returned (.tuple #[]) ∧ u' = .returning ∧ Below w.heap.size w w' := by
  refine callsD_of_wpS Try.func25 rfl fun c₀ cs hu => ?_
  apply wpS_seq
  apply wpS_region
  simp [wpOpsS, go_sem, recoverD, hu, assertP_no, Try.ntmps25, Exit.thenS]
  refine wpS_of_wp ?_
  rw [tmpsP 4]
  go_wp2
  have hb : Below w.heap.size w (w.alloc (.cells #[.int .i64 0] 49)) := (Below.refl _ _).alloc (Nat.le_refl _) _
  generalize (w.alloc (.cells #[.int .i64 0] 49)) = w1 at *
  cases c₀
  simp_all [bodyPostS, results, Try.results25]
set_option maxRecDepth 100000 in
set_option maxHeartbeats 1000000 in
theorem catchT_yes (b1 b2 B : Nat) (k : Pk) (r : Option Addr) (c : Nat) (y : Value) (E : Int) (older : List PanicEntry) (w : World) (D : PkAt w b1 k r c) (hd : w.cell? ⟨b2, 0, none⟩ = some y) (hy : w.frozen? ⟨b2, 0, none⟩ = false) (hne : b1 ≠ b2) (h1 : B ≤ b1) (h2 : B ≤ b2) :
    CallsD Try.prog 25 #[.pointer (some ⟨b1, 0, none⟩), .pointer (some ⟨b2, 0, none⟩)] (.panicking ({ v := .iface 49 (.agg #[.int .i64 E]), recovered := false } :: older)) w fun e u' w' =>
      e = .returned (.tuple #[]) ∧ u' = .panicking ({ v := .iface 49 (.agg #[.int .i64 E]), recovered := true } :: older) ∧ PkAt w' b1 Pk.zero none 0 ∧ w'.cell? ⟨b2, 0, none⟩ = some (.int .i64 E) ∧ Below B w w' := by
  refine callsD_of_wpS Try.func25 rfl fun c₀ cs hu => ?_
  apply wpS_seq
  apply wpS_region
  simp [wpOpsS, go_sem, recoverD, hu, assertP_yes, Try.ntmps25, Exit.thenS]
  refine wpS_of_wp ?_
  rw [tmpsP 4]
  have l1 := D.lt
  have l2 := cell_lt hd
  have b1' : Below w.heap.size w (w.alloc (.cells #[.int .i64 E] 49)) := (Below.refl _ _).alloc (Nat.le_refl _) _
  have hB : Below B w (w.alloc (.cells #[.int .i64 E] 49)) := b1'.mono (by omega)
  have D1 := D.grew b1'
  have c2 := (b1'.cell (p := ⟨b2, 0, none⟩) l2).trans hd
  have z2 := (World.frozen?_of_block (a := ⟨b2, 0, none⟩) (b1'.block _ l2)).trans hy
  have c3 : (w.alloc (.cells #[.int .i64 E] 49)).cell? ⟨w.heap.size, 0, none⟩ = some (.int .i64 E) := by rw [World.cell?_alloc_at _ _ _ _ rfl]; rfl
  clear b1' D hd hy
  generalize (w.alloc (.cells #[.int .i64 E] 49)) = w1 at *
  generalize w.heap.size = G at *
  have HD : Hid (PkAt w1 b1 k r c) := D1
  have HB : Hid (Below B w w1) := hB
  clear D1 hB
  go_wp2_with fail
  refine wp_region_held (S := fun w' => w'.cell? ⟨G, 0, none⟩ = some (.int .i64 E)) (by kernel_rfl) ?_
  change wpAnyH _ _ _ _ _ _ _ _ w1.drew
  have hr : w1.drew.cell? ⟨G, 0, none⟩ = some (.int .i64 E) := c3
  have D1 := HD.out.grew (Below.refl _ _).drew
  have hB : Below B w w1.drew := HB.out.drew
  have c2 : w1.drew.cell? ⟨b2, 0, none⟩ = some y := c2
  have z2 : w1.drew.frozen? ⟨b2, 0, none⟩ = false := z2
  clear c3 HD HB
  generalize w1.drew = w1 at *
  refine wpAnyH_take (i := 0) (v := .agg #[.int .i64 0, .int .u16 0, .int .u16 0, .int .u32 0, .int .u16 0, .slice none 0 0, .int .u64 0, .int .u32 0, .int .u32 0, .int .u16 0, .int .u16 0, .int .u32 0, .int .u16 0]) rfl (by kernel_rfl) (by kernel_rfl) (by kernel_rfl) (fun _ _ _ h => h) (Yields.yieldsIf (Or.inl ⟨by kernel_rfl, fun _ => by kernel_rfl⟩)) hr ?_
  refine wpAnyH_take (i := 1) (v := .pointer (some ⟨G, 0, none⟩)) rfl (by kernel_rfl) (by kernel_rfl) (by kernel_rfl) (fun _ _ _ h => h) (Yields.yieldsIf (Or.inl ⟨by kernel_rfl, fun _ => by go_simp⟩)) hr ?_
  refine wpAnyH_take (i := 2) (v := .int .i64 E) rfl (by kernel_rfl) (by kernel_rfl) (by kernel_rfl) (fun _ _ _ h => h) (Or.inl ⟨by kernel_rfl, fun W hW => by go_simp⟩) hr ?_
  have q0 : w1.cell? ⟨b1, 0, none⟩ = some (.int .i64 k.k) := D1.cell 0 (by decide)
  have q1 : w1.cell? ⟨b1, 1, none⟩ = some (.int .u16 (k.s : Int)) := D1.cell 1 (by decide)
  have q2 : w1.cell? ⟨b1, 2, none⟩ = some (.int .u16 (k.t : Int)) := D1.cell 2 (by decide)
  have q3 : w1.cell? ⟨b1, 3, none⟩ = some (.int .u32 (k.f : Int)) := D1.cell 3 (by decide)
  have q4 : w1.cell? ⟨b1, 4, none⟩ = some (.int .u16 (k.y : Int)) := D1.cell 4 (by decide)
  have q5 : w1.cell? ⟨b1, 5, none⟩ = some (.slice r k.n c) := D1.cell 5 (by decide)
  have q6 : w1.cell? ⟨b1, 6, none⟩ = some (.int .u64 (k.T : Int)) := D1.cell 6 (by decide)
  have q7 : w1.cell? ⟨b1, 7, none⟩ = some (.int .u32 (k.l : Int)) := D1.cell 7 (by decide)
  have q8 : w1.cell? ⟨b1, 8, none⟩ = some (.int .u32 (k.g : Int)) := D1.cell 8 (by decide)
  have q9 : w1.cell? ⟨b1, 9, none⟩ = some (.int .u16 (k.u : Int)) := D1.cell 9 (by decide)
  have q10 : w1.cell? ⟨b1, 10, none⟩ = some (.int .u16 (k.j : Int)) := D1.cell 10 (by decide)
  have q11 : w1.cell? ⟨b1, 11, none⟩ = some (.int .u32 (k.F : Int)) := D1.cell 11 (by decide)
  have q12 : w1.cell? ⟨b1, 12, none⟩ = some (.int .u16 (k.d : Int)) := D1.cell 12 (by decide)
  have z0 := D1.frz 0
  have z1 := D1.frz 1
  have zz2 := D1.frz 2
  have z3 := D1.frz 3
  have z4 := D1.frz 4
  have z5 := D1.frz 5
  have z6 := D1.frz 6
  have z7 := D1.frz 7
  have z8 := D1.frz 8
  have z9 := D1.frz 9
  have z10 := D1.frz 10
  have z11 := D1.frz 11
  have z12 := D1.frz 12
  refine wpAnyH_ready (rs := [3]) (by kernel_rfl) (by simp) ?_
  refine AllReadyH.cons rfl (fun K2 hK2 => ?_) AllReadyH.nil
  go_simp
  refine hK2.out _ _ (puts_cell (by omega) [.int .i64 0, .int .u16 0, .int .u16 0, .int .u32 0, .int .u16 0, .slice none 0 0, .int .u64 0, .int .u32 0, .int .u32 0, .int .u16 0, .int .u16 0, .int .u32 0, .int .u16 0] 0 hr) (fun hr => ?_)
  clear hK2 K2 q0 q1 q2 q3 q4 q5 q6 q7 q8 q9 q10 q11 q12 z0 z1 zz2 z3 z4 z5 z6 z7 z8 z9 z10 z11 z12
  have y2 : (((((((((((((w1.setCell ⟨b1, 0, none⟩ (.int .i64 0)).setCell ⟨b1, 1, none⟩ (.int .u16 0)).setCell ⟨b1, 2, none⟩ (.int .u16 0)).setCell ⟨b1, 3, none⟩ (.int .u32 0)).setCell ⟨b1, 4, none⟩ (.int .u16 0)).setCell ⟨b1, 5, none⟩ (.slice none 0 0)).setCell ⟨b1, 6, none⟩ (.int .u64 0)).setCell ⟨b1, 7, none⟩ (.int .u32 0)).setCell ⟨b1, 8, none⟩ (.int .u32 0)).setCell ⟨b1, 9, none⟩ (.int .u16 0)).setCell ⟨b1, 10, none⟩ (.int .u16 0)).setCell ⟨b1, 11, none⟩ (.int .u32 0)).setCell ⟨b1, 12, none⟩ (.int .u16 0)).frozen? ⟨b2, 0, none⟩ = false := by simpa [World.frozen?_setCell] using z2
  have d2 : (((((((((((((w1.setCell ⟨b1, 0, none⟩ (.int .i64 0)).setCell ⟨b1, 1, none⟩ (.int .u16 0)).setCell ⟨b1, 2, none⟩ (.int .u16 0)).setCell ⟨b1, 3, none⟩ (.int .u32 0)).setCell ⟨b1, 4, none⟩ (.int .u16 0)).setCell ⟨b1, 5, none⟩ (.slice none 0 0)).setCell ⟨b1, 6, none⟩ (.int .u64 0)).setCell ⟨b1, 7, none⟩ (.int .u32 0)).setCell ⟨b1, 8, none⟩ (.int .u32 0)).setCell ⟨b1, 9, none⟩ (.int .u16 0)).setCell ⟨b1, 10, none⟩ (.int .u16 0)).setCell ⟨b1, 11, none⟩ (.int .u32 0)).setCell ⟨b1, 12, none⟩ (.int .u16 0)).cell? ⟨b2, 0, none⟩ = some y := puts_cell hne [.int .i64 0, .int .u16 0, .int .u16 0, .int .u32 0, .int .u16 0, .slice none 0 0, .int .u64 0, .int .u32 0, .int .u32 0, .int .u16 0, .int .u16 0, .int .u32 0, .int .u16 0] 0 c2
  have D2 : PkAt (((((((((((((w1.setCell ⟨b1, 0, none⟩ (.int .i64 0)).setCell ⟨b1, 1, none⟩ (.int .u16 0)).setCell ⟨b1, 2, none⟩ (.int .u16 0)).setCell ⟨b1, 3, none⟩ (.int .u32 0)).setCell ⟨b1, 4, none⟩ (.int .u16 0)).setCell ⟨b1, 5, none⟩ (.slice none 0 0)).setCell ⟨b1, 6, none⟩ (.int .u64 0)).setCell ⟨b1, 7, none⟩ (.int .u32 0)).setCell ⟨b1, 8, none⟩ (.int .u32 0)).setCell ⟨b1, 9, none⟩ (.int .u16 0)).setCell ⟨b1, 10, none⟩ (.int .u16 0)).setCell ⟨b1, 11, none⟩ (.int .u32 0)).setCell ⟨b1, 12, none⟩ (.int .u16 0)) b1 Pk.zero none 0 := D1.write Pk.zero none 0
  have k0 : Below B w (((((((((((((w1.setCell ⟨b1, 0, none⟩ (.int .i64 0)).setCell ⟨b1, 1, none⟩ (.int .u16 0)).setCell ⟨b1, 2, none⟩ (.int .u16 0)).setCell ⟨b1, 3, none⟩ (.int .u32 0)).setCell ⟨b1, 4, none⟩ (.int .u16 0)).setCell ⟨b1, 5, none⟩ (.slice none 0 0)).setCell ⟨b1, 6, none⟩ (.int .u64 0)).setCell ⟨b1, 7, none⟩ (.int .u32 0)).setCell ⟨b1, 8, none⟩ (.int .u32 0)).setCell ⟨b1, 9, none⟩ (.int .u16 0)).setCell ⟨b1, 10, none⟩ (.int .u16 0)).setCell ⟨b1, 11, none⟩ (.int .u32 0)).setCell ⟨b1, 12, none⟩ (.int .u16 0)) := puts_below h1 [.int .i64 0, .int .u16 0, .int .u16 0, .int .u32 0, .int .u16 0, .slice none 0 0, .int .u64 0, .int .u32 0, .int .u32 0, .int .u16 0, .int .u16 0, .int .u32 0, .int .u16 0] 0 hB
  clear c2 z2 D1 hB
  generalize (((((((((((((w1.setCell ⟨b1, 0, none⟩ (.int .i64 0)).setCell ⟨b1, 1, none⟩ (.int .u16 0)).setCell ⟨b1, 2, none⟩ (.int .u16 0)).setCell ⟨b1, 3, none⟩ (.int .u32 0)).setCell ⟨b1, 4, none⟩ (.int .u16 0)).setCell ⟨b1, 5, none⟩ (.slice none 0 0)).setCell ⟨b1, 6, none⟩ (.int .u64 0)).setCell ⟨b1, 7, none⟩ (.int .u32 0)).setCell ⟨b1, 8, none⟩ (.int .u32 0)).setCell ⟨b1, 9, none⟩ (.int .u16 0)).setCell ⟨b1, 10, none⟩ (.int .u16 0)).setCell ⟨b1, 11, none⟩ (.int .u32 0)).setCell ⟨b1, 12, none⟩ (.int .u16 0)) = w2 at *
  refine wpAnyH_ready (rs := [4]) (by kernel_rfl) (by simp) ?_
  refine AllReadyH.cons rfl (fun K2 hK2 => ?_) AllReadyH.nil
  go_simp
  refine hK2.out _ _ ((World.cell?_setCell_other _ _ _ _ (blk_ne (by omega))).trans hr) (fun hr => ?_)
  clear hK2 K2
  have HA : Hid (PkAt (w2.setCell ⟨b2, 0, none⟩ (.int .i64 E)) b1 Pk.zero none 0 ∧ (w2.setCell ⟨b2, 0, none⟩ (.int .i64 E)).cell? ⟨b2, 0, none⟩ = some (.int .i64 E) ∧ Below B w (w2.setCell ⟨b2, 0, none⟩ (.int .i64 E))) :=
    ⟨D2.other _ (Ne.symm hne), World.cell?_setCell_same _ _ _ d2, k0.setCell (p := ⟨b2, 0, none⟩) h2 _⟩
  clear d2 D2 k0 y2
  refine wpAnyH_done (by kernel_rfl) ?_ _
  go_wp2
  have HA := HA.out
  generalize w2.setCell ⟨b2, 0, none⟩ (.int .i64 E) = w3 at *
  cases c₀
  simp_all [bodyPostS, results, Try.results25]
end Go.Proofs.Ytcflaklnafggmaa

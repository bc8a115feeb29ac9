/-
  Package pace: New, waiting, Len, Put.
-/
import Derived.Test.YtaikkoijoolhkaaPc0
import Derived.OrdersHeld
import Derived.Deep.RegionHeld
namespace Go.Proofs.Ytaikkoijoolhkaa
open Go.RowKit Go.Deep

/-- The Queue B has become l'. -/
def QTo (w w' : World) (base B : Nat) (v : Value) (l' : List It) : Prop :=
  ∃ v', QAt w' base B v' l' ∧ But (feet B v) w w' ∧ ∀ g, v'.ownBlock = some g → v.ownBlock = some g ∨ w.heap.size ≤ g
theorem QTo.same {w w' : World} {base B : Nat} {v : Value} {l : List It} (h : QAt w base B v l) (hb : Below w.heap.size w w') : QTo w w' base B v l := ⟨v, h.grew hb, But.of_below hb, fun _ e => .inl e⟩
/-- What a Queue holds, as a slice. -/
theorem QAt.shape {w : World} {base B : Nat} {v : Value} {l : List It} (h : QAt w base B v l) : ∃ r cap, v = .slice r l.length cap := by
  obtain ⟨r, cap, e, -⟩ := Lr.any h.row
  exact ⟨r, cap, e⟩
theorem QAt.made (w : World) (base : Nat) (T : TypeId) (hb : base ≤ w.heap.size) : QAt (w.alloc (.cells #[.slice none 0 0] T)) base w.heap.size (.slice none 0 0) [] :=
  ⟨by rw [World.cell?_alloc_at _ _ _ _ rfl]; rfl, by rw [World.frozen?_alloc_at _ _ _ _ rfl], Lr.nil _ _, by simp [Value.ownBlock], hb⟩

set_option maxRecDepth 100000 in
theorem pnew_any (w : World) : Calls Try.prog 9 #[] w fun e w' => e = .returned (.pointer (some ⟨w.heap.size, 0, none⟩)) ∧ w' = w.alloc (.cells #[.slice none 0 0] 55) := by
  go_enter Try.func9, Try.ntmps9
  go_wp2
  go_ret
  exact ⟨rfl, rfl⟩
set_option maxRecDepth 100000 in
theorem waiting_nil (w : World) : Calls Try.prog 28 #[.pointer none] w fun e w' => e = .returned (.slice none 0 0) ∧ w' = w := by
  go_enter Try.func28, Try.ntmps28
  go_wp2
  go_ret
  exact ⟨rfl, rfl⟩
set_option maxRecDepth 100000 in
theorem waiting_any (B n cap : Nat) (r : Option Addr) (w : World) (h : w.cell? ⟨B, 0, none⟩ = some (.slice r n cap)) : Calls Try.prog 28 #[.pointer (some ⟨B, 0, none⟩)] w fun e w' => e = .returned (.slice r n cap) ∧ w' = w := by
  go_enter Try.func28, Try.ntmps28
  go_wp2
  go_ret
  exact ⟨rfl, rfl⟩
set_option maxRecDepth 100000 in
theorem len_nil (w : World) : Calls Try.prog 23 #[.pointer none] w fun e w' => e = .returned (.int .i64 0) ∧ w' = w := by
  have H : Hid (Calls Try.prog 28 #[.pointer none] w fun e w' => e = .returned (.slice none 0 0) ∧ w' = w) := waiting_nil w
  go_enter Try.func23, Try.ntmps23
  go_wp2_with fail
  refine H.out.mono ?_
  rintro e w' ⟨rfl, rfl⟩
  go_wp2
  go_ret
  exact ⟨rfl, rfl⟩
set_option maxRecDepth 100000 in
theorem len_any (base B : Nat) (v : Value) (l : List It) (w : World) (h : QAt w base B v l) : Calls Try.prog 23 #[.pointer (some ⟨B, 0, none⟩)] w fun e w' => e = .returned (.int .i64 (l.length : Int)) ∧ w' = w := by
  obtain ⟨r, cap, rfl⟩ := h.shape
  have H : Hid (Calls Try.prog 28 #[.pointer (some ⟨B, 0, none⟩)] w fun e w' => e = .returned (.slice r l.length cap) ∧ w' = w) := waiting_any B l.length cap r w h.c0
  clear h
  go_enter Try.func23, Try.ntmps23
  go_wp2_with fail
  refine H.out.mono ?_
  rintro e w' ⟨rfl, rfl⟩
  go_wp2
  go_ret
  exact ⟨rfl, rfl⟩
set_option maxRecDepth 100000 in
theorem put_nil (a : It) (w : World) : Calls Try.prog 10 #[.pointer none, a.val] w fun e w' => e = .returned (.bool false) ∧ Below w.heap.size w w' := by
  obtain ⟨x0, e0⟩ : ∃ x, w.alloc (.cells #[.int .u32 (a.f : Int), .int .i64 a.s, .int .i64 a.r, .int .i64 a.b, .int .i64 a.d] 32) = x := ⟨_, rfl⟩
  have HB : Hid (Below w.heap.size w x0) := e0 ▸ (Below.refl _ _).alloc (Nat.le_refl _) _
  unfold It.val
  go_enter Try.func10, Try.ntmps10
  go_wp2
  go_ret
  exact ⟨rfl, HB.out⟩
/-- May it wait? -/
def may (l : List It) (a : It) : Prop := 1 ≤ a.b ∧ a.b ≤ 65536 ∧ l.length < 2000
instance (l : List It) (a : It) : Decidable (may l a) := inferInstanceAs (Decidable (_ ∧ _ ∧ _))

set_option maxRecDepth 100000 in
set_option maxHeartbeats 400000 in
theorem put_no (base B : Nat) (v : Value) (l : List It) (a : It) (w : World) (h : QAt w base B v l) (hl : l.length ≤ 2000) (hm : ¬ may l a) : Calls Try.prog 10 #[.pointer (some ⟨B, 0, none⟩), a.val] w fun e w' => e = .returned (.bool false) ∧ Below w.heap.size w w' := by
  obtain ⟨G, hG⟩ : ∃ G, w.heap.size = G := ⟨_, rfl⟩
  obtain ⟨x0, e0⟩ : ∃ x, w.alloc (.cells #[.int .u32 (a.f : Int), .int .i64 a.s, .int .i64 a.r, .int .i64 a.b, .int .i64 a.d] 32) = x := ⟨_, rfl⟩
  have A0 : ItAt x0 G 0 a := by rw [← e0, ← hG]; exact ItAt.made w _ a
  have B0 : Below w.heap.size w x0 := e0 ▸ (Below.refl _ _).alloc (Nat.le_refl _) _
  have Q0 := h.grew B0
  have HB : Hid (Below G w x0) := hG ▸ B0
  obtain ⟨r, cap, rfl⟩ := h.shape
  obtain ⟨c0, c1, c2, c3, c4⟩ := A0
  have q0 := Q0.c0
  unfold It.val
  clear h Q0 B0
  by_cases h1 : a.b < 1
  · have i1 : decide (a.b < 1) = true := by simpa using h1
    clear hm
    go_enter Try.func10, Try.ntmps10
    go_wp2
    go_ret
    exact ⟨rfl, hG ▸ HB.out⟩
  · have i1 : decide (a.b < 1) = false := by simpa using h1
    by_cases h2 : 65536 < a.b
    · have i2 : decide (65536 < a.b) = true := by simpa using h2
      clear hm
      go_enter Try.func10, Try.ntmps10
      go_wp2
      go_ret
      exact ⟨rfl, HB.out⟩
    · have i2 : decide (65536 < a.b) = false := by simpa using h2
      have hn : l.length = 2000 := by
        unfold may at hm
        omega
      rw [hn] at q0
      clear hm
      go_enter Try.func10, Try.ntmps10
      go_wp2
      go_ret
      exact ⟨rfl, HB.out⟩

set_option maxRecDepth 100000 in
set_option maxHeartbeats 4000000 in
theorem put_yes (base B : Nat) (v : Value) (l : List It) (a : It) (w : World) (h : QAt w base B v l) (hm : may l a) (hb : base ≤ w.heap.size) : Calls Try.prog 10 #[.pointer (some ⟨B, 0, none⟩), a.val] w fun e w' => e = .returned (.bool true) ∧ QTo w w' base B v (l ++ [a]) := by
  obtain ⟨G, hG⟩ : ∃ G, w.heap.size = G := ⟨_, rfl⟩
  obtain ⟨x0, e0⟩ : ∃ x, w.alloc (.cells #[.int .u32 (a.f : Int), .int .i64 a.s, .int .i64 a.r, .int .i64 a.b, .int .i64 a.d] 32) = x := ⟨_, rfl⟩
  have A0 : ItAt x0 G 0 a := by rw [← e0, ← hG]; exact ItAt.made w _ a
  have B0 : Below w.heap.size w x0 := e0 ▸ (Below.refl _ _).alloc (Nat.le_refl _) _
  obtain ⟨H, hH⟩ : ∃ H, x0.heap.size = H := ⟨_, rfl⟩
  obtain ⟨x1, e1⟩ : ∃ x, x0.drew.alloc (.cells #[.int .u32 (a.f : Int), .int .i64 a.s, .int .i64 a.r, .int .i64 a.b, .int .i64 a.d] 32) = x := ⟨_, rfl⟩
  have A1 : ItAt x1 H 0 a := by rw [← e1, ← hH]; exact ItAt.made x0.drew _ a
  have B1 : Below x0.heap.size x0 x1 := e1 ▸ (show Below x0.heap.size x0 x0.drew from below_drews 1).trans ((Below.refl x0.heap.size x0.drew).alloc (Nat.le_refl _) _)
  have B2 : Below w.heap.size w x1 := B0.trans (B1.mono B0.size)
  have Q0 := h.grew B0
  have Q1 := h.grew B2
  obtain ⟨v2, x2, happ, R2, g2, w2⟩ := ir_push 27 Q1.row A1 (by have := hm.2.2; omega) (by have := B2.size; omega)
  obtain ⟨r2, cap2, rfl, -⟩ := Lr.any R2
  have hq : x2.heap[B]? = x1.heap[B]? := g2.block B Q1.lt (fun e => h.ne e.symm)
  have z0 : x2.cell? ⟨B, 0, none⟩ = some v := (World.cell?_of_block (a := ⟨B, 0, none⟩) hq).trans Q1.c0
  have z1 : x2.frozen? ⟨B, 0, none⟩ = false := (World.frozen?_of_block (a := ⟨B, 0, none⟩) hq).trans Q1.thaw
  have HE : Hid (QTo w (x2.setCell ⟨B, 0, none⟩ (.slice r2 (l ++ [a]).length cap2)) base B v (l ++ [a])) := by
    have hne : (Value.slice r2 (l ++ [a]).length cap2).ownBlock ≠ some B := by
      intro e
      rcases w2 with w2 | w2
      · rw [w2] at e; exact h.ne e
      · rw [w2] at e
        have := Q1.lt
        cases e
        omega
    refine ⟨_, ⟨World.cell?_setCell_same _ _ _ z0, by rw [World.frozen?_setCell]; exact z1, Lr.block R2 (fun g e => Below.heap_setCell x2 ⟨B, 0, none⟩ _ g (fun e2 => hne (e.trans (congrArg some e2)))), hne, h.base⟩, ?_, fun g e => ?_⟩
    · refine ((But.of_below B2).trans (But.of_grown g2 (fun g e _ => mem_feet.2 (.inr e)))).trans (But.set _ B 0 _ (mem_feet.2 (.inl rfl)))
    · rcases w2 with w2 | w2
      · exact .inl (by rw [← w2]; exact e)
      · refine .inr ?_
        rw [w2] at e
        cases e
        exact B2.size
  obtain ⟨r, cap, rfl⟩ := h.shape
  have A2 := A0.grew B1
  have A3 : ItAt x2 G 0 a := A2.block (g2.block G (cell_lt A2.c0) (fun e => by have := (Lr.lt h.row G e.symm).2; omega))
  have HT : Hid (ItAt x0.drew G 0 a ∧ ItAt x1 G 0 a ∧ ItAt x2 G 0 a ∧ ItAt (x2.setCell ⟨B, 0, none⟩ (.slice r2 (l ++ [a]).length cap2)) G 0 a) :=
    ⟨A0.grew (below_drews 1), A2, A3, A3.block (Below.heap_setCell x2 ⟨B, 0, none⟩ _ G (fun e => by have : G = B := e; have := h.lt; omega))⟩
  obtain ⟨c0, c1, c2, c3, c4⟩ := A0
  have q0 := Q0.c0
  have q1 := Q1.c0
  generalize (l ++ [a]).length = N at *
  obtain ⟨n1, n2, n3⟩ := hm
  have i1 : decide (a.b < 1) = false := by simp; omega
  have i2 : decide (65536 < a.b) = false := by simp; omega
  have i3 : ((l.length : Int) == 2000) = false := by simp; omega
  unfold It.val
  clear h Q0 Q1 B0 B1 B2 A1 A2 A3 R2 g2 w2 hq n1 n2 n3
  go_enter Try.func10, Try.ntmps10
  go_wp2_with fail
  -- [held
  refine wp_region_held (S := fun W => ItAt W G 0 a) (by kernel_rfl) ?_
  change wpAnyH _ _ _ _ _ _ _ _ x0.drew
  have hr := HT.out.1
  have hr1 := HT.out.2.1
  have hr2 := HT.out.2.2.1
  have hr3 := HT.out.2.2.2
  have q9 : x0.drew.cell? ⟨B, 0, none⟩ = some (.slice r l.length cap) := q0
  have hy : x0.drew.heap.size = H := hH
  clear HT e0
  generalize x0.drew = y0 at *
  refine wpAnyH_take (i := 0) (v := .pointer (some ⟨B, 0, none⟩)) rfl (by kernel_rfl) (by kernel_rfl) (by kernel_rfl) (fun _ _ _ h => h) (Yields.yieldsIf (Or.inl ⟨by kernel_rfl, fun _ => by go_simp⟩)) hr ?_
  refine wpAnyH_take (i := 1) (v := .pointer (some ⟨B, 0, none⟩)) rfl (by kernel_rfl) (by kernel_rfl) (by kernel_rfl) (fun _ _ _ h => h) (Yields.yieldsIf (Or.inl ⟨by kernel_rfl, fun _ => by go_simp⟩)) hr ?_
  refine wpAnyH_take (i := 2) (v := .pointer (some ⟨B, 0, none⟩)) rfl (by kernel_rfl) (by kernel_rfl) (by kernel_rfl) (fun _ _ _ h => h) (Yields.yieldsIf (Or.inl ⟨by kernel_rfl, fun _ => by go_simp⟩)) hr ?_
  refine wpAnyH_take (i := 3) (v := .pointer (some ⟨B, 0, none⟩)) rfl (by kernel_rfl) (by kernel_rfl) (by kernel_rfl) (fun _ _ _ h => h) (Yields.yieldsIf (Or.inl ⟨by kernel_rfl, fun _ => by go_simp⟩)) hr ?_
  refine wpAnyH_take (i := 5) (v := .agg #[.int .u32 (a.f : Int), .int .i64 a.s, .int .i64 a.r, .int .i64 a.b, .int .i64 a.d]) rfl (by kernel_rfl) (by kernel_rfl) (by kernel_rfl) (fun _ _ _ h => h) (Or.inl ⟨by kernel_rfl, fun W hW => by have c0 := hW.c0; have c1 := hW.c1; have c2 := hW.c2; have c3 := hW.c3; have c4 := hW.c4; go_simp⟩) hr ?_
  refine wpAnyH_ready (rs := [4, 6]) (by kernel_rfl) (by simp) ?_
  refine AllReadyH.cons rfl (fun K2 hK2 => ?_) (AllReadyH.cons rfl (fun K2 hK2 => ?_) AllReadyH.nil)
  · skip
    go_simp
    refine hK2.out _ _ hr (fun hr => ?_)
    clear hK2 K2
    refine wpAnyH_ready (rs := [6]) (by kernel_rfl) (by simp) ?_
    refine AllReadyH.cons rfl (fun K2 hK2 => ?_) AllReadyH.nil
    go_simp
    refine hK2.out _ _ hr1 (fun hr => ?_)
    clear hK2 K2
    refine wpAnyH_ready (rs := [7]) (by kernel_rfl) (by simp) ?_
    refine AllReadyH.cons rfl (fun K2 hK2 => ?_) AllReadyH.nil
    refine step_append_run rfl (.tmp 29) (.tmp 31) 27 rfl _ _ rfl rfl _ _ happ ?_
    refine hK2.out _ _ hr2 (fun hr => ?_)
    clear hK2 K2
    refine wpAnyH_take (i := 8) (v := .pointer (some ⟨B, 0, none⟩)) rfl (by kernel_rfl) (by kernel_rfl) (by kernel_rfl) (fun _ _ _ h => h) (Yields.yieldsIf (Or.inl ⟨by kernel_rfl, fun _ => by go_simp⟩)) hr ?_
    refine wpAnyH_take (i := 9) (v := .pointer (some ⟨B, 0, none⟩)) rfl (by kernel_rfl) (by kernel_rfl) (by kernel_rfl) (fun _ _ _ h => h) (Yields.yieldsIf (Or.inl ⟨by kernel_rfl, fun _ => by go_simp⟩)) hr ?_
    refine wpAnyH_ready (rs := [10]) (by kernel_rfl) (by simp) ?_
    refine AllReadyH.cons rfl (fun K2 hK2 => ?_) AllReadyH.nil
    go_simp
    refine hK2.out _ _ hr3 (fun hr => ?_)
    clear hK2 K2
    refine wpAnyH_done (by kernel_rfl) ?_ _
    clear hr hr1 hr2 hr3 z0 z1 q0 q9 q1
    go_wp2_with fail
    go_ret
    exact ⟨rfl, HE.out⟩
  · skip
    go_simp
    refine hK2.out _ _ hr1 (fun hr => ?_)
    clear hK2 K2
    refine wpAnyH_ready (rs := [4]) (by kernel_rfl) (by simp) ?_
    refine AllReadyH.cons rfl (fun K2 hK2 => ?_) AllReadyH.nil
    go_simp
    refine hK2.out _ _ hr1 (fun hr => ?_)
    clear hK2 K2
    refine wpAnyH_ready (rs := [7]) (by kernel_rfl) (by simp) ?_
    refine AllReadyH.cons rfl (fun K2 hK2 => ?_) AllReadyH.nil
    refine step_append_run rfl (.tmp 29) (.tmp 31) 27 rfl _ _ rfl rfl _ _ happ ?_
    refine hK2.out _ _ hr2 (fun hr => ?_)
    clear hK2 K2
    refine wpAnyH_take (i := 8) (v := .pointer (some ⟨B, 0, none⟩)) rfl (by kernel_rfl) (by kernel_rfl) (by kernel_rfl) (fun _ _ _ h => h) (Yields.yieldsIf (Or.inl ⟨by kernel_rfl, fun _ => by go_simp⟩)) hr ?_
    refine wpAnyH_take (i := 9) (v := .pointer (some ⟨B, 0, none⟩)) rfl (by kernel_rfl) (by kernel_rfl) (by kernel_rfl) (fun _ _ _ h => h) (Yields.yieldsIf (Or.inl ⟨by kernel_rfl, fun _ => by go_simp⟩)) hr ?_
    refine wpAnyH_ready (rs := [10]) (by kernel_rfl) (by simp) ?_
    refine AllReadyH.cons rfl (fun K2 hK2 => ?_) AllReadyH.nil
    go_simp
    refine hK2.out _ _ hr3 (fun hr => ?_)
    clear hK2 K2
    refine wpAnyH_done (by kernel_rfl) ?_ _
    clear hr hr1 hr2 hr3 z0 z1 q0 q9 q1
    go_wp2_with fail
    go_ret
    exact ⟨rfl, HE.out⟩
end Go.Proofs.Ytaikkoijoolhkaa

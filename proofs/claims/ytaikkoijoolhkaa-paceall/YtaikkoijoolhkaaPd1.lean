/-
  The document's Queue: Put.
-/
import Derived.Test.YtaikkoijoolhkaaPc1
import Derived.Deep.Upon
namespace Go.Proofs.Ytaikkoijoolhkaa
open Go.RowKit Go.Deep

/-- On the way: the Queue as it was, the item, all else behind w. -/
structure Rq (w : World) (base B : Nat) (v : Value) (l : List It) (a : It) (G : Nat) (W : World) : Prop where
  q : QAt W base B v l
  A : ItAt W G 0 a
  bel : Below w.heap.size w W
  ql : ∀ k, k ∈ feet B v → k < w.heap.size
  gl : w.heap.size ≤ G
section
variable {w W W' : World} {base B G : Nat} {v : Value} {l : List It} {a : It}
theorem Rq.grew (h : Rq w base B v l a G W) (b : Below W.heap.size W W') : Rq w base B v l a G W' := ⟨h.q.grew b, h.A.grew b, h.bel.trans (b.mono h.bel.size), h.ql, h.gl⟩
theorem Rq.emp (h : Rq w base B v l a G W) : Rq w base B v l a G (W.alloc (.cells #[] 32)) ∧ Ir (W.alloc (.cells #[] 32)) w.heap.size (.slice (some ⟨W.heap.size, 0, none⟩) 0 0) [] ∧ G ≠ W.heap.size :=
  ⟨h.grew ((Below.refl _ _).alloc (Nat.le_refl _) _), Lr.empty _ h.bel.size, by have := cell_lt h.A.c0; omega⟩
theorem Rq.lit (h : Rq w base B v l a G W) : Rq w base B v l a G (W.alloc (.cells #[.int .u32 (a.f : Int), .int .i64 a.s, .int .i64 a.r, .int .i64 a.b, .int .i64 a.d] 32)) ∧ ItAt (W.alloc (.cells #[.int .u32 (a.f : Int), .int .i64 a.s, .int .i64 a.r, .int .i64 a.b, .int .i64 a.d] 32)) W.heap.size 0 a :=
  ⟨h.grew ((Below.refl _ _).alloc (Nat.le_refl _) _), ItAt.made W _ a⟩
/-- Rows of the call's own that grow leave it. -/
theorem Rq.grown {row : Value} {m : List It} (h : Rq w base B v l a G W) (hr : Ir W w.heap.size row m) (hG : row.ownBlock ≠ some G) (g : W.grownBy W' row.ownBlock) : Rq w base B v l a G W' := by
  have hs := h.bel.size
  have hl : ∀ k, row.ownBlock = some k → w.heap.size ≤ k := fun k e => (Lr.lt hr k e).1
  refine ⟨h.q.block (fun k hk => g.block k (h.q.feet hk).2 (fun e => by have := hl k e.symm; have := h.ql k hk; omega)), h.A.block (g.block G (cell_lt h.A.c0) (fun e => hG e.symm)), h.bel.trans ⟨g.os, g.tape, g.output, g.size, fun k hk => g.block k (by omega) (fun e => by have := hl k e.symm; omega)⟩, h.ql, h.gl⟩
/-- All that waits, behind nothing. -/
theorem Rq.all {E : Nat} (ty : TypeId) (h : Rq w base B v l a G W) (hE : Ir W w.heap.size (.slice (some ⟨E, 0, none⟩) 0 0) []) (hG : G ≠ E) (hl : l.length ≤ 100000) :
    ∃ r2 n2 c2 W2, (Builtin.append_ #[27, 27] ty #[.slice (some ⟨E, 0, none⟩) 0 0, v]).run Try.prog W = .ok (.slice r2 n2 c2) W2 ∧ Rq w base B v l a G W2 ∧ Ir W2 w.heap.size (.slice r2 n2 c2) l ∧ (Value.slice r2 n2 c2).ownBlock ≠ some G ∧
      ∀ H, ItAt W H 0 a → H ≠ E → ItAt W2 H 0 a ∧ (Value.slice r2 n2 c2).ownBlock ≠ some H := by
  obtain ⟨i0, hi, hz0, hz1, hz2⟩ := info_parts Try.infoItem
  have hs := h.bel.size
  obtain ⟨r, cap, e, hls, hle, hnone, hsome⟩ := Lr.any h.q.row
  cases r with
  | none =>
    have h0 := hnone rfl
    subst h0
    subst e
    have hc : cap = 0 := by
      rcases h.q.row.2 with ⟨e1, -⟩ | ⟨g, c2, cur, e1, -⟩
      · injection e1
      · cases e1
    subst hc
    have hr := run_append_nothing (P := Try.prog) W 27 27 ty 32 i0 Try.underlying27 hi (some ⟨E, 0, none⟩) 0 0 (Nat.le_refl _) (.slice none 0 0) (Src.ofNil (P := Try.prog) W Try.underlying27 0)
    refine ⟨_, _, _, W, hr, h, hE, fun e => hG ?_, fun H hH hne => ⟨hH, fun e => hne ?_⟩⟩
    · injection e with e; exact e.symm
    · injection e with e; exact e.symm
  | some x =>
    obtain ⟨g, e2, -⟩ := hsome x rfl
    cases e2
    subst e
    obtain ⟨v2, W2, hr, R2, g2, w2⟩ := Lr.pushAll (c := cap) ty Try.underlying27 hi hz0 hz1 hz2 rfl hE hls (by simp; omega) (by decide) hs
    obtain ⟨r2, c2, e3, -⟩ := Lr.any R2
    have hE0 : (Value.slice (some ⟨E, 0, none⟩) 0 0).ownBlock = some E := rfl
    have hne : ∀ H, H < W.heap.size → H ≠ E → v2.ownBlock ≠ some H := by
      intro H hH hne e
      rcases w2 with w2 | w2
      · rw [w2, hE0] at e; injection e with e; omega
      · rw [w2] at e; injection e with e; omega
    rw [List.nil_append] at R2
    subst e3
    refine ⟨_, _, _, W2, hr, h.grown hE (fun e => hG (by injection e with e; exact e.symm)) g2, R2, hne G (cell_lt h.A.c0) hG, fun H hH hHE => ⟨hH.block (g2.block H (cell_lt hH.c0) (fun e => hHE (by injection e with e))), hne H (cell_lt hH.c0) hHE⟩⟩
/-- One more. -/
theorem Rq.more {H n2 c2 : Nat} {r2 : Option Addr} (ty : TypeId) (h : Rq w base B v l a G W) (hL : Ir W w.heap.size (.slice r2 n2 c2) l) (hG : (Value.slice r2 n2 c2).ownBlock ≠ some G) (hA : ItAt W H 0 a) (hl : l.length ≤ 100000) :
    ∃ r3 n3 c3 W3, (Builtin.append_ #[27, 27] ty #[.slice r2 n2 c2, .slice (some ⟨H, 0, none⟩) 1 1]).run Try.prog W = .ok (.slice r3 n3 c3) W3 ∧ Rq w base B v l a G W3 ∧ Ir W3 w.heap.size (.slice r3 n3 c3) (l ++ [a]) := by
  obtain ⟨v3, W3, hr, R3, g3, w3⟩ := ir_push ty hL hA hl h.bel.size
  obtain ⟨r3, c3, rfl, -⟩ := Lr.any R3
  exact ⟨_, _, _, W3, hr, h.grown hL hG g3, R3⟩
/-- It is put down. -/
theorem Rq.down {r3 : Option Addr} {n3 c3 : Nat} {l' : List It} (h : Rq w base B v l a G W) (hL : Ir W w.heap.size (.slice r3 n3 c3) l') (hb : base ≤ w.heap.size) :
    W.cell? ⟨B, 0, none⟩ = some v ∧ W.frozen? ⟨B, 0, none⟩ = false ∧ ItAt (W.setCell ⟨B, 0, none⟩ (.slice r3 n3 c3)) G 0 a ∧ QTo w (W.setCell ⟨B, 0, none⟩ (.slice r3 n3 c3)) base B v l' := by
  have hB := h.ql B (mem_feet.2 (.inl rfl))
  have hlt : ∀ g, (Value.slice r3 n3 c3).ownBlock = some g → w.heap.size ≤ g := fun g e => (Lr.lt hL g e).1
  have hne : (Value.slice r3 n3 c3).ownBlock ≠ some B := fun e => by have := hlt B e; omega
  refine ⟨h.q.c0, h.q.thaw, h.A.block (Below.heap_setCell W ⟨B, 0, none⟩ _ G (fun e => by have : G = B := e; have := h.gl; omega)), _, ⟨World.cell?_setCell_same _ _ _ h.q.c0, by rw [World.frozen?_setCell]; exact h.q.thaw, Lr.base_le (Lr.block hL (fun g e => Below.heap_setCell W ⟨B, 0, none⟩ _ g (fun e2 => by have := hlt g e; have : g = B := e2; omega))) hb, hne, h.q.base⟩, (But.of_below h.bel).trans (But.set _ B 0 _ (mem_feet.2 (.inl rfl))), fun g e => .inr (hlt g e)⟩
end

set_option maxRecDepth 100000 in
set_option maxHeartbeats 400000 in
theorem rput_no (base B : Nat) (v : Value) (l : List It) (a : It) (w : World) (h : QAt w base B v l) (hl : l.length ≤ 2000) (hm : ¬ may l a) : Calls Try.prog 11 #[.pointer (some ⟨B, 0, none⟩), a.val] w fun e w' => e = .returned (.bool false) ∧ Below w.heap.size w w' := by
  obtain ⟨G, hG⟩ : ∃ G, w.heap.size = G := ⟨_, rfl⟩
  obtain ⟨x0, e0⟩ : ∃ x, w.alloc (.cells #[.int .u32 (a.f : Int), .int .i64 a.s, .int .i64 a.r, .int .i64 a.b, .int .i64 a.d] 32) = x := ⟨_, rfl⟩
  have A0 : ItAt x0 G 0 a := by rw [← e0, ← hG]; exact ItAt.made w _ a
  have B0 : Below w.heap.size w x0 := e0 ▸ (Below.refl _ _).alloc (Nat.le_refl _) _
  have Q0 := h.grew B0
  have HB : Hid (Below G w x0) := hG ▸ B0
  obtain ⟨r, cap, rfl⟩ := h.shape
  obtain ⟨c0, c1, c2, c3, c4⟩ := A0
  have q0 := Q0.c0
  unfold It.val
  clear h Q0 B0
  by_cases h1 : a.b < 1
  · have i1 : decide (a.b < 1) = true := by simpa using h1
    clear hm
    go_enter Try.func11, Try.ntmps11
    go_wp2
    go_ret
    exact ⟨rfl, hG ▸ HB.out⟩
  · have i1 : decide (a.b < 1) = false := by simpa using h1
    by_cases h2 : 65536 < a.b
    · have i2 : decide (65536 < a.b) = true := by simpa using h2
      clear hm
      go_enter Try.func11, Try.ntmps11
      go_wp2
      go_ret
      exact ⟨rfl, HB.out⟩
    · have i2 : decide (65536 < a.b) = false := by simpa using h2
      have hn : l.length = 2000 := by
        unfold may at hm
        omega
      rw [hn] at q0
      clear hm
      go_enter Try.func11, Try.ntmps11
      go_wp2
      go_ret
      exact ⟨rfl, HB.out⟩

set_option maxRecDepth 100000 in
set_option maxHeartbeats 4000000 in
theorem rput_yes (base B : Nat) (v : Value) (l : List It) (a : It) (w : World) (h : QAt w base B v l) (hm : may l a) (hb : base ≤ w.heap.size) : Calls Try.prog 11 #[.pointer (some ⟨B, 0, none⟩), a.val] w fun e w' => e = .returned (.bool true) ∧ QTo w w' base B v (l ++ [a]) := by
  obtain ⟨G, hG⟩ : ∃ G, w.heap.size = G := ⟨_, rfl⟩
  obtain ⟨x0, e0⟩ : ∃ x, w.alloc (.cells #[.int .u32 (a.f : Int), .int .i64 a.s, .int .i64 a.r, .int .i64 a.b, .int .i64 a.d] 32) = x := ⟨_, rfl⟩
  have A0 : ItAt x0 G 0 a := by rw [← e0, ← hG]; exact ItAt.made w _ a
  have B0 : Below w.heap.size w x0 := e0 ▸ (Below.refl _ _).alloc (Nat.le_refl _) _
  obtain ⟨r, cap, rfl⟩ := h.shape
  have R0 : Rq w base B (.slice r l.length cap) l a G x0 := ⟨h.grew B0, A0, B0, fun k hk => (h.feet hk).2, Nat.le_of_eq hG⟩
  have HR : Hid (Rq w base B (.slice r l.length cap) l a G x0.drew) := R0.grew (below_drews 1)
  have HB : Hid (base ≤ w.heap.size) := hb
  have q0 := R0.q.c0
  obtain ⟨c0, c1, c2, c3, c4⟩ := A0
  obtain ⟨n1, n2, n3⟩ := hm
  have Hl : Hid (l.length ≤ 100000) := by show _ ≤ _; omega
  have i1 : decide (a.b < 1) = false := by simp; omega
  have i2 : decide (65536 < a.b) = false := by simp; omega
  have i3 : decide (2000 ≤ (l.length : Int)) = false := by simp; omega
  unfold It.val
  clear h B0 R0 n1 n2 n3 hb
  go_enter Try.func11, Try.ntmps11
  go_wp2_with fail
  refine wp_region_held (S := fun W => ItAt W G 0 a) (by kernel_rfl) ?_
  change wpAnyH _ _ _ _ _ _ _ _ x0.drew
  have R := HR.out
  clear HR hG e0 q0 c0 c1 c2 c3 c4
  have hr := R.A
  generalize x0.drew = W0 at *
  refine wpAnyH_take (i := 0) (v := .pointer (some ⟨B, 0, none⟩)) rfl (by kernel_rfl) (by kernel_rfl) (by kernel_rfl) (fun _ _ _ h => h) (Yields.yieldsIf (Or.inl ⟨by kernel_rfl, fun _ => by go_simp⟩)) hr ?_
  refine wpAnyH_take (i := 2) (v := .pointer (some ⟨B, 0, none⟩)) rfl (by kernel_rfl) (by kernel_rfl) (by kernel_rfl) (fun _ _ _ h => h) (Yields.yieldsIf (Or.inl ⟨by kernel_rfl, fun _ => by go_simp⟩)) hr ?_
  refine wpAnyH_take (i := 3) (v := .pointer (some ⟨B, 0, none⟩)) rfl (by kernel_rfl) (by kernel_rfl) (by kernel_rfl) (fun _ _ _ h => h) (Yields.yieldsIf (Or.inl ⟨by kernel_rfl, fun _ => by go_simp⟩)) hr ?_
  refine wpAnyH_take (i := 4) (v := .pointer (some ⟨B, 0, none⟩)) rfl (by kernel_rfl) (by kernel_rfl) (by kernel_rfl) (fun _ _ _ h => h) (Yields.yieldsIf (Or.inl ⟨by kernel_rfl, fun _ => by go_simp⟩)) hr ?_
  refine wpAnyH_take (i := 7) (v := .agg #[.int .u32 (a.f : Int), .int .i64 a.s, .int .i64 a.r, .int .i64 a.b, .int .i64 a.d]) rfl (by kernel_rfl) (by kernel_rfl) (by kernel_rfl) (fun _ _ _ h => h) (Or.inl ⟨by kernel_rfl, fun W hW => by have c0 := hW.c0; have c1 := hW.c1; have c2 := hW.c2; have c3 := hW.c3; have c4 := hW.c4; go_simp⟩) hr ?_
  refine wpAnyH_ready (rs := [1, 5, 8]) (by kernel_rfl) (by simp) ?_
  refine AllReadyH.cons rfl (fun K2 hK2 => ?_) (AllReadyH.cons rfl (fun K2 hK2 => ?_) (AllReadyH.cons rfl (fun K2 hK2 => ?_) AllReadyH.nil))
  · skip
    go_simp
    have HX := R.emp
    obtain ⟨R', E, GE⟩ := HX
    clear R
    have hr := R'.A
    have R := R'
    clear R'
    generalize W0.heap.size = Eb at *
    refine hK2.out _ _ hr (fun hr => ?_)
    clear hK2 K2
    generalize W0.alloc (.cells #[] 32) = W1 at *
    refine wpAnyH_ready (rs := [5, 8]) (by kernel_rfl) (by simp) ?_
    refine AllReadyH.cons rfl (fun K2 hK2 => ?_) (AllReadyH.cons rfl (fun K2 hK2 => ?_) AllReadyH.nil)
    · skip
      have q9 := R.q.c0
      have hr := R.A
      go_simp
      refine hK2.out _ _ hr (fun hr => ?_)
      clear hK2 K2 q9
      refine wpAnyH_ready (rs := [6, 8]) (by kernel_rfl) (by simp) ?_
      refine AllReadyH.cons rfl (fun K2 hK2 => ?_) (AllReadyH.cons rfl (fun K2 hK2 => ?_) AllReadyH.nil)
      · skip
        obtain ⟨r2, n2, c2, W2, happ, R', L, LG, LT⟩ := R.all 27 E GE Hl.out
        refine step_append_run rfl (.tmp 22) (.tmp 26) 27 rfl _ _ rfl rfl _ _ happ ?_
        clear R E GE LT happ
        have hr := R'.A
        have R := R'
        clear R'
        refine hK2.out _ _ hr (fun hr => ?_)
        clear hK2 K2
        refine wpAnyH_ready (rs := [8]) (by kernel_rfl) (by simp) ?_
        refine AllReadyH.cons rfl (fun K2 hK2 => ?_) AllReadyH.nil
        · skip
          go_simp
          obtain ⟨R', T⟩ := R.lit
          have HbL : (Value.slice r2 n2 c2).ownBlock ≠ some W2.heap.size := fun e => by have := (Lr.lt L _ e).2; omega
          have L' := Lr.grew L ((Below.refl _ _).alloc (Nat.le_refl _) (.cells #[.int .u32 (a.f : Int), .int .i64 a.s, .int .i64 a.r, .int .i64 a.b, .int .i64 a.d] 32))
          clear L
          have L := L'
          clear L'
          have hr := R'.A
          clear R
          have R := R'
          clear R'
          generalize W2.heap.size = Hb at *
          refine hK2.out _ _ hr (fun hr => ?_)
          clear hK2 K2
          generalize W2.alloc (.cells #[.int .u32 (a.f : Int), .int .i64 a.s, .int .i64 a.r, .int .i64 a.b, .int .i64 a.d] 32) = W3 at *
          obtain ⟨r3, n3, c3, W9, happ, R, L3⟩ := Rq.more 27 R L LG T Hl.out
          refine wpAnyH_ready (rs := [9]) (by kernel_rfl) (by simp) ?_
          refine AllReadyH.cons rfl (fun K2 hK2 => ?_) AllReadyH.nil
          refine step_append_run rfl (.tmp 27) (.tmp 29) 27 rfl _ _ rfl rfl _ _ happ ?_
          obtain ⟨z0, z1, z2, z3⟩ := R.down L3 HB.out
          have HE : Hid (QTo w (W9.setCell ⟨B, 0, none⟩ (.slice r3 n3 c3)) base B (.slice r l.length cap) (l ++ [a])) := z3
          have HZ : Hid (ItAt (W9.setCell ⟨B, 0, none⟩ (.slice r3 n3 c3)) G 0 a) := z2
          have hr := R.A
          clear happ z2 z3
          refine hK2.out _ _ hr (fun hr => ?_)
          clear hK2 K2 R L3 L LG T
          refine wpAnyH_take (i := 10) (v := .pointer (some ⟨B, 0, none⟩)) rfl (by kernel_rfl) (by kernel_rfl) (by kernel_rfl) (fun _ _ _ h => h) (Yields.yieldsIf (Or.inl ⟨by kernel_rfl, fun _ => by go_simp⟩)) hr ?_
          refine wpAnyH_take (i := 11) (v := .pointer (some ⟨B, 0, none⟩)) rfl (by kernel_rfl) (by kernel_rfl) (by kernel_rfl) (fun _ _ _ h => h) (Yields.yieldsIf (Or.inl ⟨by kernel_rfl, fun _ => by go_simp⟩)) hr ?_
          refine wpAnyH_ready (rs := [12]) (by kernel_rfl) (by simp) ?_
          refine AllReadyH.cons rfl (fun K2 hK2 => ?_) AllReadyH.nil
          go_simp
          refine hK2.out _ _ HZ.out (fun hr => ?_)
          clear hK2 K2 hr HZ z0 z1
          refine wpAnyH_done (by kernel_rfl) ?_ _
          go_wp2_with fail
          go_ret
          exact ⟨rfl, HE.out⟩
      · skip
        go_simp
        obtain ⟨R', T⟩ := R.lit
        have TE : W1.heap.size ≠ Eb := by have := (Lr.lt E Eb rfl).2; omega
        have E' := Lr.grew E ((Below.refl _ _).alloc (Nat.le_refl _) (.cells #[.int .u32 (a.f : Int), .int .i64 a.s, .int .i64 a.r, .int .i64 a.b, .int .i64 a.d] 32))
        clear E
        have E := E'
        clear E'
        have hr := R'.A
        clear R
        have R := R'
        clear R'
        generalize W1.heap.size = Hb at *
        refine hK2.out _ _ hr (fun hr => ?_)
        clear hK2 K2
        generalize W1.alloc (.cells #[.int .u32 (a.f : Int), .int .i64 a.s, .int .i64 a.r, .int .i64 a.b, .int .i64 a.d] 32) = W2 at *
        refine wpAnyH_ready (rs := [6]) (by kernel_rfl) (by simp) ?_
        refine AllReadyH.cons rfl (fun K2 hK2 => ?_) AllReadyH.nil
        · skip
          obtain ⟨r2, n2, c2, W3, happ, R', L, LG, LT⟩ := R.all 27 E GE Hl.out
          refine step_append_run rfl (.tmp 22) (.tmp 26) 27 rfl _ _ rfl rfl _ _ happ ?_
          obtain ⟨T', HbL⟩ := LT Hb T TE
          clear T TE
          have T := T'
          clear T'
          clear R E GE LT happ
          have hr := R'.A
          have R := R'
          clear R'
          refine hK2.out _ _ hr (fun hr => ?_)
          clear hK2 K2
          obtain ⟨r3, n3, c3, W9, happ, R, L3⟩ := Rq.more 27 R L LG T Hl.out
          refine wpAnyH_ready (rs := [9]) (by kernel_rfl) (by simp) ?_
          refine AllReadyH.cons rfl (fun K2 hK2 => ?_) AllReadyH.nil
          refine step_append_run rfl (.tmp 27) (.tmp 29) 27 rfl _ _ rfl rfl _ _ happ ?_
          obtain ⟨z0, z1, z2, z3⟩ := R.down L3 HB.out
          have HE : Hid (QTo w (W9.setCell ⟨B, 0, none⟩ (.slice r3 n3 c3)) base B (.slice r l.length cap) (l ++ [a])) := z3
          have HZ : Hid (ItAt (W9.setCell ⟨B, 0, none⟩ (.slice r3 n3 c3)) G 0 a) := z2
          have hr := R.A
          clear happ z2 z3
          refine hK2.out _ _ hr (fun hr => ?_)
          clear hK2 K2 R L3 L LG T
          refine wpAnyH_take (i := 10) (v := .pointer (some ⟨B, 0, none⟩)) rfl (by kernel_rfl) (by kernel_rfl) (by kernel_rfl) (fun _ _ _ h => h) (Yields.yieldsIf (Or.inl ⟨by kernel_rfl, fun _ => by go_simp⟩)) hr ?_
          refine wpAnyH_take (i := 11) (v := .pointer (some ⟨B, 0, none⟩)) rfl (by kernel_rfl) (by kernel_rfl) (by kernel_rfl) (fun _ _ _ h => h) (Yields.yieldsIf (Or.inl ⟨by kernel_rfl, fun _ => by go_simp⟩)) hr ?_
          refine wpAnyH_ready (rs := [12]) (by kernel_rfl) (by simp) ?_
          refine AllReadyH.cons rfl (fun K2 hK2 => ?_) AllReadyH.nil
          go_simp
          refine hK2.out _ _ HZ.out (fun hr => ?_)
          clear hK2 K2 hr HZ z0 z1
          refine wpAnyH_done (by kernel_rfl) ?_ _
          go_wp2_with fail
          go_ret
          exact ⟨rfl, HE.out⟩
    · skip
      go_simp
      obtain ⟨R', T⟩ := R.lit
      have TE : W1.heap.size ≠ Eb := by have := (Lr.lt E Eb rfl).2; omega
      have E' := Lr.grew E ((Below.refl _ _).alloc (Nat.le_refl _) (.cells #[.int .u32 (a.f : Int), .int .i64 a.s, .int .i64 a.r, .int .i64 a.b, .int .i64 a.d] 32))
      clear E
      have E := E'
      clear E'
      have hr := R'.A
      clear R
      have R := R'
      clear R'
      generalize W1.heap.size = Hb at *
      refine hK2.out _ _ hr (fun hr => ?_)
      clear hK2 K2
      generalize W1.alloc (.cells #[.int .u32 (a.f : Int), .int .i64 a.s, .int .i64 a.r, .int .i64 a.b, .int .i64 a.d] 32) = W2 at *
      refine wpAnyH_ready (rs := [5]) (by kernel_rfl) (by simp) ?_
      refine AllReadyH.cons rfl (fun K2 hK2 => ?_) AllReadyH.nil
      · skip
        have q9 := R.q.c0
        have hr := R.A
        go_simp
        refine hK2.out _ _ hr (fun hr => ?_)
        clear hK2 K2 q9
        refine wpAnyH_ready (rs := [6]) (by kernel_rfl) (by simp) ?_
        refine AllReadyH.cons rfl (fun K2 hK2 => ?_) AllReadyH.nil
        · skip
          obtain ⟨r2, n2, c2, W3, happ, R', L, LG, LT⟩ := R.all 27 E GE Hl.out
          refine step_append_run rfl (.tmp 22) (.tmp 26) 27 rfl _ _ rfl rfl _ _ happ ?_
          obtain ⟨T', HbL⟩ := LT Hb T TE
          clear T TE
          have T := T'
          clear T'
          clear R E GE LT happ
          have hr := R'.A
          have R := R'
          clear R'
          refine hK2.out _ _ hr (fun hr => ?_)
          clear hK2 K2
          obtain ⟨r3, n3, c3, W9, happ, R, L3⟩ := Rq.more 27 R L LG T Hl.out
          refine wpAnyH_ready (rs := [9]) (by kernel_rfl) (by simp) ?_
          refine AllReadyH.cons rfl (fun K2 hK2 => ?_) AllReadyH.nil
          refine step_append_run rfl (.tmp 27) (.tmp 29) 27 rfl _ _ rfl rfl _ _ happ ?_
          obtain ⟨z0, z1, z2, z3⟩ := R.down L3 HB.out
          have HE : Hid (QTo w (W9.setCell ⟨B, 0, none⟩ (.slice r3 n3 c3)) base B (.slice r l.length cap) (l ++ [a])) := z3
          have HZ : Hid (ItAt (W9.setCell ⟨B, 0, none⟩ (.slice r3 n3 c3)) G 0 a) := z2
          have hr := R.A
          clear happ z2 z3
          refine hK2.out _ _ hr (fun hr => ?_)
          clear hK2 K2 R L3 L LG T
          refine wpAnyH_take (i := 10) (v := .pointer (some ⟨B, 0, none⟩)) rfl (by kernel_rfl) (by kernel_rfl) (by kernel_rfl) (fun _ _ _ h => h) (Yields.yieldsIf (Or.inl ⟨by kernel_rfl, fun _ => by go_simp⟩)) hr ?_
          refine wpAnyH_take (i := 11) (v := .pointer (some ⟨B, 0, none⟩)) rfl (by kernel_rfl) (by kernel_rfl) (by kernel_rfl) (fun _ _ _ h => h) (Yields.yieldsIf (Or.inl ⟨by kernel_rfl, fun _ => by go_simp⟩)) hr ?_
          refine wpAnyH_ready (rs := [12]) (by kernel_rfl) (by simp) ?_
          refine AllReadyH.cons rfl (fun K2 hK2 => ?_) AllReadyH.nil
          go_simp
          refine hK2.out _ _ HZ.out (fun hr => ?_)
          clear hK2 K2 hr HZ z0 z1
          refine wpAnyH_done (by kernel_rfl) ?_ _
          go_wp2_with fail
          go_ret
          exact ⟨rfl, HE.out⟩
  · skip
    have q9 := R.q.c0
    have hr := R.A
    go_simp
    refine hK2.out _ _ hr (fun hr => ?_)
    clear hK2 K2 q9
    refine wpAnyH_ready (rs := [1, 8]) (by kernel_rfl) (by simp) ?_
    refine AllReadyH.cons rfl (fun K2 hK2 => ?_) (AllReadyH.cons rfl (fun K2 hK2 => ?_) AllReadyH.nil)
    · skip
      go_simp
      have HX := R.emp
      obtain ⟨R', E, GE⟩ := HX
      clear R
      have hr := R'.A
      have R := R'
      clear R'
      generalize W0.heap.size = Eb at *
      refine hK2.out _ _ hr (fun hr => ?_)
      clear hK2 K2
      generalize W0.alloc (.cells #[] 32) = W1 at *
      refine wpAnyH_ready (rs := [6, 8]) (by kernel_rfl) (by simp) ?_
      refine AllReadyH.cons rfl (fun K2 hK2 => ?_) (AllReadyH.cons rfl (fun K2 hK2 => ?_) AllReadyH.nil)
      · skip
        obtain ⟨r2, n2, c2, W2, happ, R', L, LG, LT⟩ := R.all 27 E GE Hl.out
        refine step_append_run rfl (.tmp 22) (.tmp 26) 27 rfl _ _ rfl rfl _ _ happ ?_
        clear R E GE LT happ
        have hr := R'.A
        have R := R'
        clear R'
        refine hK2.out _ _ hr (fun hr => ?_)
        clear hK2 K2
        refine wpAnyH_ready (rs := [8]) (by kernel_rfl) (by simp) ?_
        refine AllReadyH.cons rfl (fun K2 hK2 => ?_) AllReadyH.nil
        · skip
          go_simp
          obtain ⟨R', T⟩ := R.lit
          have HbL : (Value.slice r2 n2 c2).ownBlock ≠ some W2.heap.size := fun e => by have := (Lr.lt L _ e).2; omega
          have L' := Lr.grew L ((Below.refl _ _).alloc (Nat.le_refl _) (.cells #[.int .u32 (a.f : Int), .int .i64 a.s, .int .i64 a.r, .int .i64 a.b, .int .i64 a.d] 32))
          clear L
          have L := L'
          clear L'
          have hr := R'.A
          clear R
          have R := R'
          clear R'
          generalize W2.heap.size = Hb at *
          refine hK2.out _ _ hr (fun hr => ?_)
          clear hK2 K2
          generalize W2.alloc (.cells #[.int .u32 (a.f : Int), .int .i64 a.s, .int .i64 a.r, .int .i64 a.b, .int .i64 a.d] 32) = W3 at *
          obtain ⟨r3, n3, c3, W9, happ, R, L3⟩ := Rq.more 27 R L LG T Hl.out
          refine wpAnyH_ready (rs := [9]) (by kernel_rfl) (by simp) ?_
          refine AllReadyH.cons rfl (fun K2 hK2 => ?_) AllReadyH.nil
          refine step_append_run rfl (.tmp 27) (.tmp 29) 27 rfl _ _ rfl rfl _ _ happ ?_
          obtain ⟨z0, z1, z2, z3⟩ := R.down L3 HB.out
          have HE : Hid (QTo w (W9.setCell ⟨B, 0, none⟩ (.slice r3 n3 c3)) base B (.slice r l.length cap) (l ++ [a])) := z3
          have HZ : Hid (ItAt (W9.setCell ⟨B, 0, none⟩ (.slice r3 n3 c3)) G 0 a) := z2
          have hr := R.A
          clear happ z2 z3
          refine hK2.out _ _ hr (fun hr => ?_)
          clear hK2 K2 R L3 L LG T
          refine wpAnyH_take (i := 10) (v := .pointer (some ⟨B, 0, none⟩)) rfl (by kernel_rfl) (by kernel_rfl) (by kernel_rfl) (fun _ _ _ h => h) (Yields.yieldsIf (Or.inl ⟨by kernel_rfl, fun _ => by go_simp⟩)) hr ?_
          refine wpAnyH_take (i := 11) (v := .pointer (some ⟨B, 0, none⟩)) rfl (by kernel_rfl) (by kernel_rfl) (by kernel_rfl) (fun _ _ _ h => h) (Yields.yieldsIf (Or.inl ⟨by kernel_rfl, fun _ => by go_simp⟩)) hr ?_
          refine wpAnyH_ready (rs := [12]) (by kernel_rfl) (by simp) ?_
          refine AllReadyH.cons rfl (fun K2 hK2 => ?_) AllReadyH.nil
          go_simp
          refine hK2.out _ _ HZ.out (fun hr => ?_)
          clear hK2 K2 hr HZ z0 z1
          refine wpAnyH_done (by kernel_rfl) ?_ _
          go_wp2_with fail
          go_ret
          exact ⟨rfl, HE.out⟩
      · skip
        go_simp
        obtain ⟨R', T⟩ := R.lit
        have TE : W1.heap.size ≠ Eb := by have := (Lr.lt E Eb rfl).2; omega
        have E' := Lr.grew E ((Below.refl _ _).alloc (Nat.le_refl _) (.cells #[.int .u32 (a.f : Int), .int .i64 a.s, .int .i64 a.r, .int .i64 a.b, .int .i64 a.d] 32))
        clear E
        have E := E'
        clear E'
        have hr := R'.A
        clear R
        have R := R'
        clear R'
        generalize W1.heap.size = Hb at *
        refine hK2.out _ _ hr (fun hr => ?_)
        clear hK2 K2
        generalize W1.alloc (.cells #[.int .u32 (a.f : Int), .int .i64 a.s, .int .i64 a.r, .int .i64 a.b, .int .i64 a.d] 32) = W2 at *
        refine wpAnyH_ready (rs := [6]) (by kernel_rfl) (by simp) ?_
        refine AllReadyH.cons rfl (fun K2 hK2 => ?_) AllReadyH.nil
        · skip
          obtain ⟨r2, n2, c2, W3, happ, R', L, LG, LT⟩ := R.all 27 E GE Hl.out
          refine step_append_run rfl (.tmp 22) (.tmp 26) 27 rfl _ _ rfl rfl _ _ happ ?_
          obtain ⟨T', HbL⟩ := LT Hb T TE
          clear T TE
          have T := T'
          clear T'
          clear R E GE LT happ
          have hr := R'.A
          have R := R'
          clear R'
          refine hK2.out _ _ hr (fun hr => ?_)
          clear hK2 K2
          obtain ⟨r3, n3, c3, W9, happ, R, L3⟩ := Rq.more 27 R L LG T Hl.out
          refine wpAnyH_ready (rs := [9]) (by kernel_rfl) (by simp) ?_
          refine AllReadyH.cons rfl (fun K2 hK2 => ?_) AllReadyH.nil
          refine step_append_run rfl (.tmp 27) (.tmp 29) 27 rfl _ _ rfl rfl _ _ happ ?_
          obtain ⟨z0, z1, z2, z3⟩ := R.down L3 HB.out
          have HE : Hid (QTo w (W9.setCell ⟨B, 0, none⟩ (.slice r3 n3 c3)) base B (.slice r l.length cap) (l ++ [a])) := z3
          have HZ : Hid (ItAt (W9.setCell ⟨B, 0, none⟩ (.slice r3 n3 c3)) G 0 a) := z2
          have hr := R.A
          clear happ z2 z3
          refine hK2.out _ _ hr (fun hr => ?_)
          clear hK2 K2 R L3 L LG T
          refine wpAnyH_take (i := 10) (v := .pointer (some ⟨B, 0, none⟩)) rfl (by kernel_rfl) (by kernel_rfl) (by kernel_rfl) (fun _ _ _ h => h) (Yields.yieldsIf (Or.inl ⟨by kernel_rfl, fun _ => by go_simp⟩)) hr ?_
          refine wpAnyH_take (i := 11) (v := .pointer (some ⟨B, 0, none⟩)) rfl (by kernel_rfl) (by kernel_rfl) (by kernel_rfl) (fun _ _ _ h => h) (Yields.yieldsIf (Or.inl ⟨by kernel_rfl, fun _ => by go_simp⟩)) hr ?_
          refine wpAnyH_ready (rs := [12]) (by kernel_rfl) (by simp) ?_
          refine AllReadyH.cons rfl (fun K2 hK2 => ?_) AllReadyH.nil
          go_simp
          refine hK2.out _ _ HZ.out (fun hr => ?_)
          clear hK2 K2 hr HZ z0 z1
          refine wpAnyH_done (by kernel_rfl) ?_ _
          go_wp2_with fail
          go_ret
          exact ⟨rfl, HE.out⟩
    · skip
      go_simp
      obtain ⟨R', T⟩ := R.lit
      have hr := R'.A
      clear R
      have R := R'
      clear R'
      generalize W0.heap.size = Hb at *
      refine hK2.out _ _ hr (fun hr => ?_)
      clear hK2 K2
      generalize W0.alloc (.cells #[.int .u32 (a.f : Int), .int .i64 a.s, .int .i64 a.r, .int .i64 a.b, .int .i64 a.d] 32) = W1 at *
      refine wpAnyH_ready (rs := [1]) (by kernel_rfl) (by simp) ?_
      refine AllReadyH.cons rfl (fun K2 hK2 => ?_) AllReadyH.nil
      · skip
        go_simp
        have HX := R.emp
        obtain ⟨R', E, GE⟩ := HX
        have TT := T.grew ((Below.refl _ _).alloc (Nat.le_refl _) (.cells #[] 32))
        have TE : Hb ≠ W1.heap.size := by have := cell_lt T.c0; omega
        clear R T
        have T := TT
        clear TT
        have hr := R'.A
        have R := R'
        clear R'
        generalize W1.heap.size = Eb at *
        refine hK2.out _ _ hr (fun hr => ?_)
        clear hK2 K2
        generalize W1.alloc (.cells #[] 32) = W2 at *
        refine wpAnyH_ready (rs := [6]) (by kernel_rfl) (by simp) ?_
        refine AllReadyH.cons rfl (fun K2 hK2 => ?_) AllReadyH.nil
        · skip
          obtain ⟨r2, n2, c2, W3, happ, R', L, LG, LT⟩ := R.all 27 E GE Hl.out
          refine step_append_run rfl (.tmp 22) (.tmp 26) 27 rfl _ _ rfl rfl _ _ happ ?_
          obtain ⟨T', HbL⟩ := LT Hb T TE
          clear T TE
          have T := T'
          clear T'
          clear R E GE LT happ
          have hr := R'.A
          have R := R'
          clear R'
          refine hK2.out _ _ hr (fun hr => ?_)
          clear hK2 K2
          obtain ⟨r3, n3, c3, W9, happ, R, L3⟩ := Rq.more 27 R L LG T Hl.out
          refine wpAnyH_ready (rs := [9]) (by kernel_rfl) (by simp) ?_
          refine AllReadyH.cons rfl (fun K2 hK2 => ?_) AllReadyH.nil
          refine step_append_run rfl (.tmp 27) (.tmp 29) 27 rfl _ _ rfl rfl _ _ happ ?_
          obtain ⟨z0, z1, z2, z3⟩ := R.down L3 HB.out
          have HE : Hid (QTo w (W9.setCell ⟨B, 0, none⟩ (.slice r3 n3 c3)) base B (.slice r l.length cap) (l ++ [a])) := z3
          have HZ : Hid (ItAt (W9.setCell ⟨B, 0, none⟩ (.slice r3 n3 c3)) G 0 a) := z2
          have hr := R.A
          clear happ z2 z3
          refine hK2.out _ _ hr (fun hr => ?_)
          clear hK2 K2 R L3 L LG T
          refine wpAnyH_take (i := 10) (v := .pointer (some ⟨B, 0, none⟩)) rfl (by kernel_rfl) (by kernel_rfl) (by kernel_rfl) (fun _ _ _ h => h) (Yields.yieldsIf (Or.inl ⟨by kernel_rfl, fun _ => by go_simp⟩)) hr ?_
          refine wpAnyH_take (i := 11) (v := .pointer (some ⟨B, 0, none⟩)) rfl (by kernel_rfl) (by kernel_rfl) (by kernel_rfl) (fun _ _ _ h => h) (Yields.yieldsIf (Or.inl ⟨by kernel_rfl, fun _ => by go_simp⟩)) hr ?_
          refine wpAnyH_ready (rs := [12]) (by kernel_rfl) (by simp) ?_
          refine AllReadyH.cons rfl (fun K2 hK2 => ?_) AllReadyH.nil
          go_simp
          refine hK2.out _ _ HZ.out (fun hr => ?_)
          clear hK2 K2 hr HZ z0 z1
          refine wpAnyH_done (by kernel_rfl) ?_ _
          go_wp2_with fail
          go_ret
          exact ⟨rfl, HE.out⟩
  · skip
    go_simp
    obtain ⟨R', T⟩ := R.lit
    have hr := R'.A
    clear R
    have R := R'
    clear R'
    generalize W0.heap.size = Hb at *
    refine hK2.out _ _ hr (fun hr => ?_)
    clear hK2 K2
    generalize W0.alloc (.cells #[.int .u32 (a.f : Int), .int .i64 a.s, .int .i64 a.r, .int .i64 a.b, .int .i64 a.d] 32) = W1 at *
    refine wpAnyH_ready (rs := [1, 5]) (by kernel_rfl) (by simp) ?_
    refine AllReadyH.cons rfl (fun K2 hK2 => ?_) (AllReadyH.cons rfl (fun K2 hK2 => ?_) AllReadyH.nil)
    · skip
      go_simp
      have HX := R.emp
      obtain ⟨R', E, GE⟩ := HX
      have TT := T.grew ((Below.refl _ _).alloc (Nat.le_refl _) (.cells #[] 32))
      have TE : Hb ≠ W1.heap.size := by have := cell_lt T.c0; omega
      clear R T
      have T := TT
      clear TT
      have hr := R'.A
      have R := R'
      clear R'
      generalize W1.heap.size = Eb at *
      refine hK2.out _ _ hr (fun hr => ?_)
      clear hK2 K2
      generalize W1.alloc (.cells #[] 32) = W2 at *
      refine wpAnyH_ready (rs := [5]) (by kernel_rfl) (by simp) ?_
      refine AllReadyH.cons rfl (fun K2 hK2 => ?_) AllReadyH.nil
      · skip
        have q9 := R.q.c0
        have hr := R.A
        go_simp
        refine hK2.out _ _ hr (fun hr => ?_)
        clear hK2 K2 q9
        refine wpAnyH_ready (rs := [6]) (by kernel_rfl) (by simp) ?_
        refine AllReadyH.cons rfl (fun K2 hK2 => ?_) AllReadyH.nil
        · skip
          obtain ⟨r2, n2, c2, W3, happ, R', L, LG, LT⟩ := R.all 27 E GE Hl.out
          refine step_append_run rfl (.tmp 22) (.tmp 26) 27 rfl _ _ rfl rfl _ _ happ ?_
          obtain ⟨T', HbL⟩ := LT Hb T TE
          clear T TE
          have T := T'
          clear T'
          clear R E GE LT happ
          have hr := R'.A
          have R := R'
          clear R'
          refine hK2.out _ _ hr (fun hr => ?_)
          clear hK2 K2
          obtain ⟨r3, n3, c3, W9, happ, R, L3⟩ := Rq.more 27 R L LG T Hl.out
          refine wpAnyH_ready (rs := [9]) (by kernel_rfl) (by simp) ?_
          refine AllReadyH.cons rfl (fun K2 hK2 => ?_) AllReadyH.nil
          refine step_append_run rfl (.tmp 27) (.tmp 29) 27 rfl _ _ rfl rfl _ _ happ ?_
          obtain ⟨z0, z1, z2, z3⟩ := R.down L3 HB.out
          have HE : Hid (QTo w (W9.setCell ⟨B, 0, none⟩ (.slice r3 n3 c3)) base B (.slice r l.length cap) (l ++ [a])) := z3
          have HZ : Hid (ItAt (W9.setCell ⟨B, 0, none⟩ (.slice r3 n3 c3)) G 0 a) := z2
          have hr := R.A
          clear happ z2 z3
          refine hK2.out _ _ hr (fun hr => ?_)
          clear hK2 K2 R L3 L LG T
          refine wpAnyH_take (i := 10) (v := .pointer (some ⟨B, 0, none⟩)) rfl (by kernel_rfl) (by kernel_rfl) (by kernel_rfl) (fun _ _ _ h => h) (Yields.yieldsIf (Or.inl ⟨by kernel_rfl, fun _ => by go_simp⟩)) hr ?_
          refine wpAnyH_take (i := 11) (v := .pointer (some ⟨B, 0, none⟩)) rfl (by kernel_rfl) (by kernel_rfl) (by kernel_rfl) (fun _ _ _ h => h) (Yields.yieldsIf (Or.inl ⟨by kernel_rfl, fun _ => by go_simp⟩)) hr ?_
          refine wpAnyH_ready (rs := [12]) (by kernel_rfl) (by simp) ?_
          refine AllReadyH.cons rfl (fun K2 hK2 => ?_) AllReadyH.nil
          go_simp
          refine hK2.out _ _ HZ.out (fun hr => ?_)
          clear hK2 K2 hr HZ z0 z1
          refine wpAnyH_done (by kernel_rfl) ?_ _
          go_wp2_with fail
          go_ret
          exact ⟨rfl, HE.out⟩
    · skip
      have q9 := R.q.c0
      have hr := R.A
      go_simp
      refine hK2.out _ _ hr (fun hr => ?_)
      clear hK2 K2 q9
      refine wpAnyH_ready (rs := [1]) (by kernel_rfl) (by simp) ?_
      refine AllReadyH.cons rfl (fun K2 hK2 => ?_) AllReadyH.nil
      · skip
        go_simp
        have HX := R.emp
        obtain ⟨R', E, GE⟩ := HX
        have TT := T.grew ((Below.refl _ _).alloc (Nat.le_refl _) (.cells #[] 32))
        have TE : Hb ≠ W1.heap.size := by have := cell_lt T.c0; omega
        clear R T
        have T := TT
        clear TT
        have hr := R'.A
        have R := R'
        clear R'
        generalize W1.heap.size = Eb at *
        refine hK2.out _ _ hr (fun hr => ?_)
        clear hK2 K2
        generalize W1.alloc (.cells #[] 32) = W2 at *
        refine wpAnyH_ready (rs := [6]) (by kernel_rfl) (by simp) ?_
        refine AllReadyH.cons rfl (fun K2 hK2 => ?_) AllReadyH.nil
        · skip
          obtain ⟨r2, n2, c2, W3, happ, R', L, LG, LT⟩ := R.all 27 E GE Hl.out
          refine step_append_run rfl (.tmp 22) (.tmp 26) 27 rfl _ _ rfl rfl _ _ happ ?_
          obtain ⟨T', HbL⟩ := LT Hb T TE
          clear T TE
          have T := T'
          clear T'
          clear R E GE LT happ
          have hr := R'.A
          have R := R'
          clear R'
          refine hK2.out _ _ hr (fun hr => ?_)
          clear hK2 K2
          obtain ⟨r3, n3, c3, W9, happ, R, L3⟩ := Rq.more 27 R L LG T Hl.out
          refine wpAnyH_ready (rs := [9]) (by kernel_rfl) (by simp) ?_
          refine AllReadyH.cons rfl (fun K2 hK2 => ?_) AllReadyH.nil
          refine step_append_run rfl (.tmp 27) (.tmp 29) 27 rfl _ _ rfl rfl _ _ happ ?_
          obtain ⟨z0, z1, z2, z3⟩ := R.down L3 HB.out
          have HE : Hid (QTo w (W9.setCell ⟨B, 0, none⟩ (.slice r3 n3 c3)) base B (.slice r l.length cap) (l ++ [a])) := z3
          have HZ : Hid (ItAt (W9.setCell ⟨B, 0, none⟩ (.slice r3 n3 c3)) G 0 a) := z2
          have hr := R.A
          clear happ z2 z3
          refine hK2.out _ _ hr (fun hr => ?_)
          clear hK2 K2 R L3 L LG T
          refine wpAnyH_take (i := 10) (v := .pointer (some ⟨B, 0, none⟩)) rfl (by kernel_rfl) (by kernel_rfl) (by kernel_rfl) (fun _ _ _ h => h) (Yields.yieldsIf (Or.inl ⟨by kernel_rfl, fun _ => by go_simp⟩)) hr ?_
          refine wpAnyH_take (i := 11) (v := .pointer (some ⟨B, 0, none⟩)) rfl (by kernel_rfl) (by kernel_rfl) (by kernel_rfl) (fun _ _ _ h => h) (Yields.yieldsIf (Or.inl ⟨by kernel_rfl, fun _ => by go_simp⟩)) hr ?_
          refine wpAnyH_ready (rs := [12]) (by kernel_rfl) (by simp) ?_
          refine AllReadyH.cons rfl (fun K2 hK2 => ?_) AllReadyH.nil
          go_simp
          refine hK2.out _ _ HZ.out (fun hr => ?_)
          clear hK2 K2 hr HZ z0 z1
          refine wpAnyH_done (by kernel_rfl) ?_ _
          go_wp2_with fail
          go_ret
          exact ⟨rfl, HE.out⟩
end Go.Proofs.Ytaikkoijoolhkaa

/-
  Package pace: New, waiting, Len; who goes: has, behind, holds.
-/
import Derived.Test.YtaikkoijoolhkaaItm
import Derived.Test.YtaikkoijoolhkaaMmx
namespace Go.Proofs.Ytaikkoijoolhkaa
open Go.RowKit Go.Deep

set_option maxRecDepth 100000 in
set_option maxHeartbeats 400000 in
theorem has_any (f : Nat) (a : It) (w : World) :
    Calls Try.prog 27 #[.int .u32 (f : Int), a.val] w fun e w' => e = .returned (.bool (decide (a.f = f))) ∧ Below w.heap.size w w' := by
  obtain ⟨x0, e0⟩ : ∃ x, w.alloc (.cells #[.int .u32 (a.f : Int), .int .i64 a.s, .int .i64 a.r, .int .i64 a.b, .int .i64 a.d] 32) = x := ⟨_, rfl⟩
  have A0 : ItAt x0 w.heap.size 0 a := e0 ▸ ItAt.made w _ a
  have HB : Hid (Below w.heap.size w x0) := e0 ▸ (Below.refl _ _).alloc (Nat.le_refl _) _
  obtain ⟨c0, c1, c2, c3, c4⟩ := A0
  have i1 : ((a.f : Int) == (f : Int)) = decide (a.f = f) := by
    by_cases h : a.f = f
    · simp [h]
    · have : ¬ (a.f : Int) = (f : Int) := by omega
      simp [h, this]
  generalize decide (a.f = f) = D at *
  unfold It.val
  go_enter Try.func27, Try.ntmps27
  go_wp2
  go_ret
  exact ⟨rfl, HB.out⟩
set_option maxRecDepth 100000 in
set_option maxHeartbeats 400000 in
theorem behind_any (c : Int) (a : It) (w : World) :
    Calls Try.prog 26 #[.int .i64 c, a.val] w fun e w' => e = .returned (.bool (decide (a.d ≤ c))) ∧ Below w.heap.size w w' := by
  obtain ⟨x0, e0⟩ : ∃ x, w.alloc (.cells #[.int .u32 (a.f : Int), .int .i64 a.s, .int .i64 a.r, .int .i64 a.b, .int .i64 a.d] 32) = x := ⟨_, rfl⟩
  have A0 : ItAt x0 w.heap.size 0 a := e0 ▸ ItAt.made w _ a
  have HB : Hid (Below w.heap.size w x0) := e0 ▸ (Below.refl _ _).alloc (Nat.le_refl _) _
  obtain ⟨c0, c1, c2, c3, c4⟩ := A0
  unfold It.val
  go_enter Try.func26, Try.ntmps26
  go_wp2
  go_ret
  exact ⟨rfl, HB.out⟩
/-- What is left for the items of a frame. -/
structure PorAt (w : World) (p f : Nat) (n : Int) : Prop where
  c0 : w.cell? ⟨p, 0, none⟩ = some (.int .u32 (f : Int))
  c1 : w.cell? ⟨p, 1, none⟩ = some (.int .i64 n)
  thaw : w.frozen? ⟨p, 1, none⟩ = false
theorem PorAt.block {w w' : World} {p f : Nat} {n : Int} (h : PorAt w p f n) (e : w'.heap[p]? = w.heap[p]?) : PorAt w' p f n :=
  ⟨(World.cell?_of_block (a := ⟨p, 0, none⟩) e).trans h.c0, (World.cell?_of_block (a := ⟨p, 1, none⟩) e).trans h.c1, (World.frozen?_of_block (a := ⟨p, 1, none⟩) e).trans h.thaw⟩
theorem PorAt.grew {w w' : World} {p f : Nat} {n : Int} (h : PorAt w p f n) (b : Below w.heap.size w w') : PorAt w' p f n := h.block (b.block p (cell_lt h.c0))
theorem PorAt.set {w : World} {p f : Nat} {n : Int} (h : PorAt w p f n) (m : Int) : PorAt (w.setCell ⟨p, 1, none⟩ (.int .i64 m)) p f m :=
  ⟨by rw [World.cell?_setCell_other _ _ _ _ (by intro e; cases e)]; exact h.c0, by rw [World.cell?_setCell_same _ _ _ h.c1], by rw [World.frozen?_setCell]; exact h.thaw⟩
/-- One more of that frame, out of what is left. -/
def hold (f : Nat) (n : Int) (a : It) : Bool × Int := if a.f = f then (if a.b ≤ n then (true, n - a.b) else (false, 0)) else (false, n)

set_option maxRecDepth 100000 in
set_option maxHeartbeats 1000000 in
theorem holds_any (p f : Nat) (n : Int) (a : It) (w : World) (h : PorAt w p f n) (hb : 1 ≤ a.b) (hn : n < 9223372036854775808) :
    Calls Try.prog 25 #[.pointer (some ⟨p, 0, none⟩), a.val] w fun e w' => e = .returned (.bool (hold f n a).1) ∧ PorAt w' p f (hold f n a).2 ∧ But [p] w w' := by
  obtain ⟨x0, e0⟩ : ∃ x, w.alloc (.cells #[.int .u32 (a.f : Int), .int .i64 a.s, .int .i64 a.r, .int .i64 a.b, .int .i64 a.d] 32) = x := ⟨_, rfl⟩
  obtain ⟨G, hG⟩ : ∃ G, w.heap.size = G := ⟨_, rfl⟩
  have B0 : Below w.heap.size w x0 := e0 ▸ (Below.refl _ _).alloc (Nat.le_refl _) _
  have B1 : Below w.heap.size w x0.drew := B0.trans (below_drews 1)
  have HB : Hid (But [p] w x0.drew) := But.of_below B1
  have HA : Hid (ItAt x0 G 0 a) := by rw [← e0, ← hG]; exact ItAt.made w _ a
  have HP : Hid (PorAt x0 p f n) := h.grew B0
  have HA1 : Hid (ItAt x0.drew G 0 a) := HA.out.grew (below_drews 1)
  have HP1 : Hid (PorAt x0.drew p f n) := h.grew B1
  have HC : Hid (Calls Try.prog 27 #[.int .u32 (f : Int), .agg #[.int .u32 (a.f : Int), .int .i64 a.s, .int .i64 a.r, .int .i64 a.b, .int .i64 a.d]] x0.drew fun e w' => e = .returned (.bool (decide (a.f = f))) ∧ Below x0.drew.heap.size x0.drew w') := has_any f a x0.drew
  clear h B0 B1
  unfold It.val
  by_cases h1 : a.f = f
  case neg =>
    have e1 : hold f n a = (false, n) := if_neg h1
    rw [e1]
    rw [decide_eq_false h1] at HC
    obtain ⟨c0, c1, c2, c3, c4⟩ := HA.out
    obtain ⟨p0, p1, p2⟩ := HP.out
    clear h1 e1
    go_enter Try.func25, Try.ntmps25
    go_wp2_with fail
    go_region_with (refine HC.out.mono ?_; rintro e x1 ⟨rfl, b1⟩; have HE : Hid (PorAt x1 p f n ∧ But [p] w x1) := ⟨HP1.out.grew b1, HB.out.trans (But.of_below b1)⟩; clear b1)
    all_goals
      go_wp2_with fail
      go_ret
      exact ⟨rfl, HE.out⟩
  case pos =>
    rw [decide_eq_true h1] at HC
    by_cases h2 : a.b ≤ n
    case pos =>
      have e1 : hold f n a = (true, n - a.b) := by unfold hold; rw [if_pos h1, if_pos h2]
      rw [e1]
      have i1 : decide (n < a.b) = false := by simp; omega
      have i2 : IntKind.i64.wrap (n - a.b) = n - a.b := w64 _ (by omega) (by omega)
      obtain ⟨c0, c1, c2, c3, c4⟩ := HA.out
      obtain ⟨p0, p1, p2⟩ := HP.out
      clear h1 h2 e1
      go_enter Try.func25, Try.ntmps25
      go_wp2_with fail
      go_region_with (refine HC.out.mono ?_; rintro e x1 ⟨rfl, b1⟩; have HE : Hid (PorAt x1 p f n ∧ But [p] w x1 ∧ ItAt x1 G 0 a) := ⟨HP1.out.grew b1, HB.out.trans (But.of_below b1), HA1.out.grew b1⟩; clear b1)
      all_goals
        obtain ⟨r0, r1, r2⟩ := HE.out.1
        obtain ⟨d0, d1, d2, d3, d4⟩ := HE.out.2.2
        clear c0 c1 c2 c3 c4 p0 p1 p2 HC
        go_wp2_with fail
        go_region
        all_goals
          go_wp2_with fail
          go_region
          all_goals
            go_wp2_with fail
            go_ret
            exact ⟨rfl, (HE.out.1.set _).grew (below_drews 2), (HE.out.2.1.trans (But.set _ p 1 _ (by simp))).trans (But.of_below (below_drews 2))⟩
    case neg =>
      have e1 : hold f n a = (false, 0) := by unfold hold; rw [if_pos h1, if_neg h2]
      rw [e1]
      have i1 : decide (n < a.b) = true := by simp; omega
      obtain ⟨c0, c1, c2, c3, c4⟩ := HA.out
      obtain ⟨p0, p1, p2⟩ := HP.out
      clear h1 h2 e1
      go_enter Try.func25, Try.ntmps25
      go_wp2_with fail
      go_region_with (refine HC.out.mono ?_; rintro e x1 ⟨rfl, b1⟩; have HE : Hid (PorAt x1 p f n ∧ But [p] w x1 ∧ ItAt x1 G 0 a) := ⟨HP1.out.grew b1, HB.out.trans (But.of_below b1), HA1.out.grew b1⟩; clear b1)
      all_goals
        obtain ⟨r0, r1, r2⟩ := HE.out.1
        obtain ⟨d0, d1, d2, d3, d4⟩ := HE.out.2.2
        clear c0 c1 c2 c3 c4 p0 p1 p2 HC
        go_wp2_with fail
        go_region
        all_goals
          go_wp2_with fail
          go_ret
          exact ⟨rfl, (HE.out.1.set _).grew (below_drews 1), (HE.out.2.1.trans (But.set _ p 1 _ (by simp))).trans (But.of_below (below_drews 1))⟩
end Go.Proofs.Ytaikkoijoolhkaa

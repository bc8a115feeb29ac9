/-
  That package burst has begun: the statements' own look at it answers true.
-/
import Derived.Test.YtbeppdhmgblknaaBu0
namespace Go.Proofs.Ytbeppdhmgblknaa
open Go.RowKit Go.Deep

set_option maxRecDepth 100000 in
set_option maxHeartbeats 400000 in
theorem begun18 (w : World) :
    Calls Try.prog 6 #[] w fun e w' => e = .returned (.bool true) ∧ Below w.heap.size w w' := by
  go_enter Try.func6, Try.ntmps6
  go_wp2_with fail
  refine (burst_new _).mono ?_
  rintro e w1 ⟨rfl, M1, b1, -⟩
  go_wp2_with fail
  refine (badd_any _ 0 2 false _ M1 (by decide) (by decide)).mono ?_
  rw [show Bu.val false 0 2 = 32 by decide]
  rintro e w2 ⟨rfl, M2, k2, -⟩
  have b2 := b1.trans (k2.below (Nat.le_refl _) b1.size)
  clear M1 b1 k2
  go_wp2_with fail
  refine (bval_any _ 32 true _ M2).mono ?_
  rintro e w3 ⟨rfl, rfl⟩
  go_wp2_with fail
  refine (badd_any _ 32 0 true _ M2 (by decide) (by decide)).mono ?_
  rw [show Bu.val true 32 0 = 24 by decide]
  rintro e w4 ⟨rfl, M4, k4, -⟩
  have HB : Hid (Below w.heap.size w w4) := b2.trans (k4.below (Nat.le_refl _) b2.size)
  clear M2 b2 k4
  go_wp2_with fail
  refine (bval_any _ 24 true _ M4).mono ?_
  rintro e w5 ⟨rfl, rfl⟩
  go_wp2
  go_ret
  exact ⟨rfl, HB.out⟩
end Go.Proofs.Ytbeppdhmgblknaa

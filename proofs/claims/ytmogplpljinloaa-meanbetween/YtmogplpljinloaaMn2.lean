/-
  That package mean has begun: the statements' own look at it answers true.
-/
import Derived.Test.YtmogplpljinloaaMn0
namespace Go.Proofs.Ytmogplpljinloaa
open Go.RowKit Go.Deep

set_option maxRecDepth 100000 in
set_option maxHeartbeats 400000 in
theorem begun17 (w : World) :
    Calls Try.prog 7 #[] w fun e w' => e = .returned (.bool true) ∧ Below w.heap.size w w' := by
  go_enter Try.func7, Try.ntmps7
  go_wp2_with fail
  refine (mean_new _).mono ?_
  rintro e w1 ⟨rfl, M1, b1, -⟩
  go_wp2_with fail
  refine (madd_any _ 0 1 1 false _ M1 (by decide) (by decide) (by decide)).mono ?_
  rw [show Mn.any false 1 1 = true by decide, show Mn.val false 0 1 1 = 32768 by decide]
  rintro e w2 ⟨rfl, M2, k2, z2⟩
  have b2 := b1.trans (k2.below (Nat.le_refl _) b1.size)
  clear M1 b1 k2 z2
  go_wp2_with fail
  refine (mval_any _ 32768 true _ M2 (by decide)).mono ?_
  rintro e w3 ⟨rfl, rfl⟩
  go_wp2_with fail
  refine (madd_any _ 32768 0 9 true _ M2 (by decide) (by decide) (by decide)).mono ?_
  rw [show Mn.any true 0 9 = true by decide, show Mn.val true 32768 0 9 = 28672 by decide]
  rintro e w4 ⟨rfl, M4, k4, z4⟩
  have HB : Hid (Below w.heap.size w w4) := b2.trans (k4.below (Nat.le_refl _) b2.size)
  clear M2 b2 k4 z4
  go_wp2_with fail
  refine (mval_any _ 28672 true _ M4 (by decide)).mono ?_
  rintro e w5 ⟨rfl, rfl⟩
  go_wp2
  go_ret
  exact ⟨rfl, HB.out⟩
end Go.Proofs.Ytmogplpljinloaa

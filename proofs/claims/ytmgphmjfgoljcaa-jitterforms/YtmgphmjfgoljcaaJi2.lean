/-
  That package jitter has begun: the statements' own look at it answers true.
-/
import Derived.Test.YtmgphmjfgoljcaaJi0
namespace Go.Proofs.Ytmgphmjfgoljcaa
open Go.RowKit Go.Deep

set_option maxRecDepth 100000 in
set_option maxHeartbeats 400000 in
theorem begun19 (w : World) :
    Calls Try.prog 7 #[] w fun e w' => e = .returned (.bool true) ∧ Below w.heap.size w w' := by
  go_enter Try.func7, Try.ntmps7
  go_wp2_with fail
  refine (jitter_new _).mono ?_
  rintro e w1 ⟨rfl, M1, b1, -⟩
  go_wp2_with fail
  refine (jadd_any _ 0 0 0 5 false _ M1 (by decide) (by decide)).mono ?_
  rw [show Ji.way 5 0 = 5 by decide, Ji.sum_first]
  rintro e w2 ⟨rfl, M2, k2, -⟩
  have b2 := b1.trans (k2.below (Nat.le_refl _) b1.size)
  clear M1 b1 k2
  go_wp2_with fail
  refine (jadd_any _ 5 0 1 6 true _ M2 (by decide) (by decide)).mono ?_
  rw [show Ji.way 6 1 = 5 by decide, show Ji.sum true 0 (Ji.far 5 5) = 0 by decide]
  rintro e w3 ⟨rfl, M3, k3, -⟩
  have b3 := b2.trans (k3.below (Nat.le_refl _) b2.size)
  clear M2 b2 k3
  go_wp2_with fail
  refine (jval_any _ 5 0 true _ M3 (by decide)).mono ?_
  rintro e w4 ⟨rfl, rfl⟩
  go_wp2_with fail
  refine (jadd_any _ 5 0 2 107 true _ M3 (by decide) (by decide)).mono ?_
  rw [show Ji.way 107 2 = 105 by decide, show Ji.sum true 0 (Ji.far 5 105) = 100 by decide]
  rintro e w5 ⟨rfl, M5, k5, -⟩
  have HB : Hid (Below w.heap.size w w5) := b3.trans (k5.below (Nat.le_refl _) b3.size)
  clear M3 b3 k5
  go_wp2_with fail
  refine (jval_any _ 105 100 true _ M5 (by decide)).mono ?_
  rintro e w6 ⟨rfl, rfl⟩
  go_wp2
  go_ret
  exact ⟨rfl, HB.out⟩
end Go.Proofs.Ytmgphmjfgoljcaa

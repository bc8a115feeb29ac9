/-
  That package serial has begun: the statements' own look at it answers true.
-/
import Derived.Test.YtclgoaimbdaehaaSer
namespace Go.Proofs.Ytclgoaimbdaehaa
open Go.RowKit Go.Deep

set_option maxRecDepth 100000 in
set_option maxHeartbeats 400000 in
theorem begun8 (w : World) :
    Calls Try.prog 7 #[] w fun e w' => e = .returned (.bool true) ∧ Below w.heap.size w w' := by
  go_enter Try.func7, Try.ntmps7
  go_wp2_with fail
  refine (ext_new _).mono ?_
  rintro e w1 ⟨rfl, E1, b1, -⟩
  go_wp2_with fail
  refine (extend_any _ 0 65535 _ E1 (by decide) (.inl rfl) (by decide)).mono ?_
  rw [show Ser.far 0 65535 = 131071 by decide, show Ser.top 0 65535 = 131071 by decide]
  rintro e w2 ⟨rfl, E2, k2, z2⟩
  have b2 := b1.trans (k2.below (Nat.le_refl _) b1.size)
  clear E1 b1 k2 z2
  go_wp2_with fail
  refine (extend_any _ 131071 0 _ E2 (by decide) (.inr (by decide)) (by decide)).mono ?_
  rw [show Ser.far 131071 0 = 131072 by decide, show Ser.top 131071 0 = 131072 by decide]
  rintro e w3 ⟨rfl, E3, k3, z3⟩
  have HB : Hid (Below w.heap.size w w3) := b2.trans (k3.below (Nat.le_refl _) b2.size)
  clear E2 b2 k3 z3
  go_wp2_with fail
  refine (top_any _ 131072 _ E3).mono ?_
  rintro e w4 ⟨rfl, rfl⟩
  clear E3
  go_wp2_with fail
  refine (less_any 1 2 _).mono ?_
  rw [show decide (0 < Ser.dif 1 2) = true by decide]
  rintro e w5 ⟨rfl, rfl⟩
  go_wp2_with fail
  refine (less_any 2 1 _).mono ?_
  rw [show decide (0 < Ser.dif 2 1) = false by decide]
  rintro e w6 ⟨rfl, rfl⟩
  go_wp2_with fail
  refine (diff_any 65535 1 _).mono ?_
  rw [show Ser.dif 65535 1 = 2 by decide]
  rintro e w7 ⟨rfl, rfl⟩
  go_wp2
  go_ret
  exact ⟨rfl, HB.out⟩
end Go.Proofs.Ytclgoaimbdaehaa

/-
  That package need has begun: the statements' own look at it answers true.
-/
import Derived.Test.YtjpjpcjickafjaaNd0
namespace Go.Proofs.Ytjpjpcjickafjaa
open Go.RowKit Go.Deep

set_option maxRecDepth 100000 in
set_option maxHeartbeats 400000 in
theorem begun20 (w : World) :
    Calls Try.prog 6 #[] w fun e w' => e = .returned (.bool true) ∧ w' = w := by
  go_enter Try.func6, Try.ntmps6
  go_wp2_with fail
  refine (need_any 10 32768 0 _).mono ?_
  rw [show Nd.count 10 32768 0 = 10 by decide]
  rintro e w1 ⟨rfl, rfl⟩
  go_wp2_with fail
  refine (need_any 10 0 99 _).mono ?_
  rw [show Nd.count 10 0 99 = 0 by decide]
  rintro e w1 ⟨rfl, rfl⟩
  go_wp2_with fail
  refine (need_any 1 65536 0 _).mono ?_
  rw [show Nd.count 1 65536 0 = 64 by decide]
  rintro e w1 ⟨rfl, rfl⟩
  go_wp2_with fail
  refine (need_any 10 1 17 _).mono ?_
  rw [show Nd.count 10 1 17 = 3 by decide]
  rintro e w1 ⟨rfl, rfl⟩
  go_wp2
  go_ret
  exact ⟨rfl, rfl⟩
end Go.Proofs.Ytjpjpcjickafjaa

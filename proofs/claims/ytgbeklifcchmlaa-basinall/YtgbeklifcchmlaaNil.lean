/-
  What a nil Field answers: nought, no, nothing.
-/
import Derived.Test.YtgbeklifcchmlaaBeg
namespace Go.Proofs.Ytgbeklifcchmlaa
open Go.RowKit Go.Deep

set_option maxRecDepth 100000 in
set_option maxHeartbeats 400000 in
theorem nil_inv (a : Int) (w : World) :
    Calls Try.prog 61 #[.pointer none, .int .u8 a] w fun e w' => e = .returned (.tuple #[.int .u8 0, .bool false]) ∧ w' = w := by
  go_enter Try.func61, Try.ntmps61
  go_wp2
  go_ret2
  exact ⟨rfl, rfl⟩

set_option maxRecDepth 100000 in
set_option maxHeartbeats 400000 in
theorem nil_axpy (y x c : Value) (w : World) :
    Calls Try.prog 63 #[.pointer none, y, x, c] w fun e w' => e = .returned (.slice none 0 0) ∧ w' = w := by
  go_enter Try.func63, Try.ntmps63
  go_wp2
  go_ret
  exact ⟨rfl, rfl⟩

end Go.Proofs.Ytgbeklifcchmlaa

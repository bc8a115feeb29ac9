/-
  That package fount has begun: the statements' own look at it answers true. What the first symbols are.
-/
import Derived.Test.YtihkenmefecnmaaFou
import Derived.Test.YtihkenmefecnmaaLit
namespace Go.Proofs.Ytihkenmefecnmaa
open Go.RowKit Go.Deep

set_option maxRecDepth 100000 in
set_option maxHeartbeats 400000 in
theorem begun5 (w : World) :
    Calls Try.prog 7 #[] w fun e w' => e = .returned (.bool true) ∧ Below w.heap.size w w' := by
  have hcv := conv_const
  go_enter Try.func7, Try.ntmps7
  go_wp2_with fail
  refine (new_any _).mono ?_
  rintro e w1 ⟨rfl, b1, F1, -⟩
  go_wp2_with fail
  have B2 : BytesAt (w1.alloc (.cells #[.int .u8 97, .int .u8 98, .int .u8 99] 5 (3, 4))) (some ⟨w1.heap.size, 0, none⟩) 3 (listAt [97, 98, 99]) := bytes_lit w1 _ _ [97, 98, 99] (by decide)
  have d2 : Below w1.heap.size w1 (w1.alloc (.cells #[.int .u8 97, .int .u8 98, .int .u8 99] 5 (3, 4))) := (Below.refl _ _).alloc (Nat.le_refl _) _
  have b2 := b1.trans (d2.mono b1.size)
  have F2 := F1.below d2 F1.lt
  generalize (w1.alloc (.cells #[.int .u8 97, .int .u8 98, .int .u8 99] 5 (3, 4))) = w2 at *
  clear b1 F1 d2
  refine (symbol_yes w.heap.size 1 0 _ 3 3 2 2 _ _ F2 B2 (by decide) (by decide) (by decide) (by decide) (by decide) (by decide) (by decide) (by decide)).mono ?_
  rintro e w3 ⟨x, rfl, -, X3, d3⟩
  have b3 := b2.trans (d3.mono b2.size)
  have F3 := F2.below d3 F2.lt
  clear b2 F2 d3 B2
  go_wp2_with fail
  have B4 : BytesAt (w3.alloc (.cells #[.int .u8 97, .int .u8 98, .int .u8 99] 5 (3, 4))) (some ⟨w3.heap.size, 0, none⟩) 3 (listAt [97, 98, 99]) := bytes_lit w3 _ _ [97, 98, 99] (by decide)
  have d4 : Below w3.heap.size w3 (w3.alloc (.cells #[.int .u8 97, .int .u8 98, .int .u8 99] 5 (3, 4))) := (Below.refl _ _).alloc (Nat.le_refl _) _
  have b4 := b3.trans (d4.mono b3.size)
  have F4 := F3.below d4 F3.lt
  have X4 := X3.grew d4
  generalize (w3.alloc (.cells #[.int .u8 97, .int .u8 98, .int .u8 99] 5 (3, 4))) = w4 at *
  clear b3 F3 d4 X3
  refine (symbol_yes w.heap.size 1 3 _ 3 3 2 2 _ _ F4 B4 (by decide) (by decide) (by decide) (by decide) (by decide) (by decide) (by decide) (by decide)).mono ?_
  rintro e w5 ⟨y, rfl, -, -, d5⟩
  have b5 := b4.trans (d5.mono b4.size)
  have F5 := F4.below d5 F4.lt
  have X5 := X4.grew d5
  clear b4 F4 d5 X4 B4
  go_wp2_with fail
  refine (symbol_cut w.heap.size 1 0 2 none 0 0 _ F5 (by decide)).mono ?_
  rintro e w6 ⟨rfl, d6⟩
  have X6 := X5.grew d6
  have HB : Hid (Below w.heap.size w w6) := b5.trans (d6.mono b5.size)
  have e1 := conv_bytes _ 2 2 _ _ X6
  rw [show strOf 2 (symOf 1 (listAt [97, 98, 99]) 3 2 0) = ⟨#[97, 98]⟩ by decide +kernel] at e1
  clear b5 F5 d6 X5 X6 hcv
  go_wp2
  go_ret
  exact ⟨rfl, HB.out⟩
end Go.Proofs.Ytihkenmefecnmaa

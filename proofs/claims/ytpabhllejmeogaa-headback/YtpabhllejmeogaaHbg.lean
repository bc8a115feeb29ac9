/-
  That package head has begun: the statements' own look at it answers true.
-/
import Derived.Test.YtpabhllejmeogaaHpt
import Derived.Test.YtpabhllejmeogaaHta
namespace Go.Proofs.Ytpabhllejmeogaa
open Go.RowKit Go.Deep

set_option maxRecDepth 100000 in
set_option maxHeartbeats 400000 in
theorem begun9 (w : World) :
    Calls Try.prog 6 #[] w fun e w' => e = .returned (.bool true) ∧ Below w.heap.size w w' := by
  have B1 := one_byte w 5 5 (by decide)
  have b1 : Below w.heap.size w (w.alloc (.cells #[.int .u8 5] 5)) := (Below.refl _ _).alloc (Nat.le_refl _) _
  change BytesAt (w.alloc (.cells #[.int .u8 5] 5)) _ _ _ at B1
  go_enter Try.func6, Try.ntmps6
  go_wp2_with fail
  generalize w.alloc (.cells #[.int .u8 5] 5) = w1 at *
  refine (hput_yes 1 2 3 4 _ 1 1 _ w1 B1 (by decide) (by decide) (by decide) (by decide) (by decide) (by decide)).mono ?_
  rintro e w2 ⟨r, c, rfl, hc, -, B2, d2⟩
  have b2 := b1.trans (d2.mono b1.size)
  clear b1 B1 d2
  go_wp2_with fail
  refine (htake_any r 11 c _ w2 B2 hc).mono ?_
  intro e w3 h3
  obtain ⟨r3, c3, rfl, -, -, -, d3⟩ := h3.ofPut (n := 1) (by decide) (by decide) (by decide) (by decide) (by decide) (by decide)
  have b3 := b2.trans (d3.mono b2.size)
  have B3 := B2.grew d3
  have D4 := DatAt.made w3 26 1 2 3 4 r3 1 c3
  change DatAt (w3.alloc (.cells #[.int .u16 1, .int .u16 2, .int .u32 3, .int .u16 4, .slice r3 1 c3] 26)) _ _ _ _ _ _ _ _ at D4
  have b4 := b3.alloc b3.size (.cells #[.int .u16 1, .int .u16 2, .int .u32 3, .int .u16 4, .slice r3 1 c3] 26)
  have B4 := B3.grew ((Below.refl _ _).alloc (Nat.le_refl _) (.cells #[.int .u16 1, .int .u16 2, .int .u32 3, .int .u16 4, .slice r3 1 c3] 26))
  clear b2 d3 h3 hc B2 B3
  go_wp2_with fail
  generalize (w3.alloc (.cells #[.int .u16 1, .int .u16 2, .int .u32 3, .int .u16 4, .slice r3 1 c3] 26)) = w4 at *
  clear b3
  generalize w3.heap.size = G at *
  refine (htake_any none 0 0 (fun _ => 0) w4 (nil_bytes _ _) (Nat.le_refl _)).mono ?_
  intro e w5 h5
  obtain ⟨r5, c5, rfl, -, -, -, d5⟩ := h5.none (by decide)
  have b5 := b4.trans (d5.mono b4.size)
  have a6 : Below w5.heap.size w5 (w5.alloc (.cells #[.int .u16 0, .int .u16 0, .int .u32 0, .int .u16 0, .slice r5 0 c5] 26)) := (Below.refl _ _).alloc (Nat.le_refl _) _
  have HB : Hid (Below w.heap.size w (w5.alloc (.cells #[.int .u16 0, .int .u16 0, .int .u32 0, .int .u16 0, .slice r5 0 c5] 26))) := b5.trans (a6.mono b5.size)
  have q := ((D4.grew d5).grew a6).c2
  have e1 := conv_bytes r 11 c _ _ ((B4.grew d5).grew a6)
  rw [show strOf 11 (laid 1 2 3 4 fun _ => 5) = ⟨#[0, 1, 0, 2, 0, 0, 0, 3, 0, 4, 5]⟩ by decide +kernel] at e1
  clear b4 d5 h5 b5 a6 D4 B4
  go_wp2
  go_ret
  exact ⟨rfl, HB.out⟩
end Go.Proofs.Ytpabhllejmeogaa

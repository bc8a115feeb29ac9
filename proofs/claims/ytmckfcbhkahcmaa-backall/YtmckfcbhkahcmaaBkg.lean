/-
  That package back has begun: the statements' own look at it answers true.
-/
import Derived.Test.YtmckfcbhkahcmaaBtk
namespace Go.Proofs.Ytmckfcbhkahcmaa
open Go.RowKit Go.Deep

set_option maxRecDepth 100000 in
set_option maxHeartbeats 400000 in
theorem begun10 (w : World) :
    Calls Try.prog 6 #[] w fun e w' => e = .returned (.bool true) ∧ Below w.heap.size w w' := by
  go_enter Try.func6, Try.ntmps6
  go_wp2_with fail
  refine (kputr_any 1 2 3 4 5 w (by decide) (by decide) (by decide) (by decide) (by decide)).mono ?_
  rintro e w1 ⟨r, c, rfl, -, hc, B1, b1⟩
  go_wp2_with fail
  refine (ktaker_any _ 20 c _ w1 B1 hc).mono ?_
  intro e w2 h2
  obtain ⟨rfl, d2⟩ := h2.ofPut (by decide) (by decide) (by decide) (by decide) (by decide)
  have b2 := b1.trans (d2.mono b1.size)
  have D3 := RepAt.made w2 26 1 2 3 4 5
  change RepAt (w2.alloc (.cells #[.int .u64 1, .int .u32 2, .int .u32 3, .int .u16 4, .int .u16 5] 26)) _ _ _ _ _ _ at D3
  have b3 := b2.alloc b2.size (.cells #[.int .u64 1, .int .u32 2, .int .u32 3, .int .u16 4, .int .u16 5] 26)
  clear b1 B1 hc d2 h2
  go_wp2_with fail
  generalize (w2.alloc (.cells #[.int .u64 1, .int .u32 2, .int .u32 3, .int .u16 4, .int .u16 5] 26)) = w3 at *
  clear b2
  generalize w2.heap.size = G at *
  refine (kputn_any 6 7 w3 (by decide) (by decide)).mono ?_
  rintro e w4 ⟨r4, c4, rfl, -, hc4, B4, d4⟩
  have D4 := D3.grew d4
  have b4 := b3.trans (d4.mono b3.size)
  clear D3 b3 d4
  go_wp2_with fail
  refine (ktaken_any _ 6 c4 _ w4 B4 hc4).mono ?_
  intro e w5 h5
  obtain ⟨rfl, d5⟩ := h5.ofPut (by decide) (by decide)
  have D5 := D4.grew d5
  have b5 := b4.trans (d5.mono b4.size)
  clear D4 b4 d5 h5 B4 hc4
  go_wp2_with fail
  refine (kputg_any 8 w5 (by decide)).mono ?_
  rintro e w6 ⟨r6, c6, rfl, -, hc6, B6, d6⟩
  have D6 := D5.grew d6
  have b6 := b5.trans (d6.mono b5.size)
  clear D5 b5 d6
  go_wp2_with fail
  refine (ktakeg_any _ 4 c6 _ w6 B6 hc6).mono ?_
  intro e w7 h7
  obtain ⟨rfl, d7⟩ := h7.ofPut (by decide)
  have D7 := D6.grew d7
  have b7 := b6.trans (d7.mono b6.size)
  clear D6 b6 d7 h7 B6 hc6
  go_wp2_with fail
  refine (ktakeg_any none 0 0 (fun _ => 0) w7 (nil_bytes _ _) (Nat.le_refl _)).mono ?_
  intro e w8 h8
  obtain ⟨rfl, d8⟩ := h8.none (by decide)
  have q := (D7.grew d8).c2
  have HB : Hid (Below w.heap.size w w8) := b7.trans (d8.mono b7.size)
  clear D7 b7 d8 h8
  go_wp2
  go_ret
  exact ⟨rfl, HB.out⟩
end Go.Proofs.Ytmckfcbhkahcmaa

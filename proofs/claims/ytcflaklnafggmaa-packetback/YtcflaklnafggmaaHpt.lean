/-
  Package head: Put.
-/
import Derived.Test.YtcflaklnafggmaaHed
namespace Go.Proofs.Ytcflaklnafggmaa
open Go.RowKit Go.Deep

set_option maxRecDepth 100000 in
set_option maxHeartbeats 400000 in
theorem hput_yes (s t f y : Nat) (a : Option Addr) (n c : Nat) (x : Nat → Nat) (w : World) (hx : BytesAt w a n x) (n1 : 1 ≤ n) (n2 : n ≤ 64) (ls : s < 65536) (lt : t < 65536) (lf : f < 4294967296) (ly : y < 65536) :
    Calls Try.prog 46 #[.agg #[.int .u16 (s : Int), .int .u16 (t : Int), .int .u32 (f : Int), .int .u16 (y : Int), .slice a n c]] w fun e w' => PutIs w (10 + n) (laid s t f y x) 0 e w' := by
  have D1 := DatAt.made w 26 s t f y a n c
  have b1 : Below w.heap.size w (w.alloc (.cells #[.int .u16 (s : Int), .int .u16 (t : Int), .int .u32 (f : Int), .int .u16 (y : Int), .slice a n c] 26)) := (Below.refl _ _).alloc (Nat.le_refl _) _
  have HX : Hid (BytesAt w a n x) := hx
  clear hx
  go_enter Try.func46, Try.ntmps46
  go_wp2_with fail
  generalize (w.alloc (.cells #[.int .u16 (s : Int), .int .u16 (t : Int), .int .u32 (f : Int), .int .u16 (y : Int), .slice a n c] 26)) = w1 at *
  have c4 := D1.c4
  obtain ⟨i0, hi, hz0, hz1, hz2⟩ := info_parts Try.infoByte
  obtain ⟨w2, hmk, O2, g2⟩ := run_make_own (P := Try.prog) w1 w1.heap.size 24 5 i0 (.int .u8 0) 1 Try.underlying24 hi hz0 hz1 .i64 .i64 (10 + n) (by rw [hz2]; omega) (by unfold maxLen; omega) (Nat.le_refl _)
  rw [show ((10 + n : Nat) : Int) = 10 + (n : Int) by omega] at hmk
  have R2 : Ror w2 w1.heap.size (.slice (some ⟨w1.heap.size, 0, none⟩) 0 (10 + n)) 0 (fun _ => 0) := O2
  have b2 : Below w1.heap.size w1 w2 := ⟨g2.os, g2.tape, g2.output, g2.size, fun k hk => g2.block k hk (by simp)⟩
  have HD : Hid (DatAt w1 w.heap.size s t f y a n c) := D1
  have HB1 : Hid (Below w.heap.size w w1) := b1
  clear D1 O2 g2 i0 hi hz0 hz1 hz2 b1
  go_wp2_with fail
  refine (hfits_any a n c _).mono ?_
  rintro e w1' ⟨rfl, rfl⟩
  rw [fit_yes n1 n2]
  have q := (HD.out.grew b2).c0
  go_wp2_with fail
  clear hmk c4
  refine (hwrite_any _ 0 2 w1'.heap.size s _ w2 R2 b2.size (by decide) (by decide) (by omega)).mono ?_
  rintro e w3 ⟨v3, rfl, R3, d3⟩
  have b3 := b2.trans d3
  clear q R2 b2 d3
  have q := (HD.out.grew b3).c1
  go_wp2_with fail
  refine (hwrite_any _ 2 2 w1'.heap.size t _ w3 R3 b3.size (by decide) (by decide) (by omega)).mono ?_
  rintro e w4 ⟨v4, rfl, R4, d4⟩
  have b4 := b3.trans d4
  clear q R3 b3 d4
  have q := (HD.out.grew b4).c2
  go_wp2_with fail
  refine (hwrite_any _ 4 4 w1'.heap.size f _ w4 R4 b4.size (by decide) (by decide) (by omega)).mono ?_
  rintro e w5 ⟨v5, rfl, R5, d5⟩
  have b5 := b4.trans d5
  clear q R4 b4 d5
  have q := (HD.out.grew b5).c3
  go_wp2_with fail
  refine (hwrite_any _ 8 2 w1'.heap.size y _ w5 R5 b5.size (by decide) (by decide) (by omega)).mono ?_
  rintro e w6 ⟨v6, rfl, R6, d6⟩
  have b6 := b5.trans d6
  clear q R5 b5 d6
  have q := (HD.out.grew b6).c4
  have l6 := b6.size
  obtain ⟨v7, w7, happ, R7, g7⟩ := R6.push (c := c) (z := laid s t f y x) 24 ((HX.out.below HB1.out (Nat.le_refl _)).below b6 (Nat.le_refl _)) (by omega) b6.size (fun i hi => (cat_left hi).symm) (fun i hi => (laid_body s t f y x i).symm)
  have b7 := grown_below R6 g7 b6 b6.size
  obtain ⟨r, cap, rfl, h1, -, h3, h4⟩ := ror_any R7 (fun i hi => laid_lt HX.out.lt i hi)
  have HA : Hid (PutIs w (10 + n) (laid s t f y x) 0 (.returned (.tuple #[.slice r (10 + n) cap, .int .i64 0])) w7) :=
    ⟨r, cap, rfl, h1, fun h => (h3 h).imp fun g e => ⟨e.1, Nat.le_trans HB1.out.size e.2⟩, h4, HB1.out.trans (b7.mono HB1.out.size)⟩
  clear R6 R7 g7 b6 b7 h1 h3 h4 HX HD HB1 l6
  go_wp2_with (at_builtin; refine Go.Lib.wpList_append_run _ rfl (.tmp 33) (.tmp 35) 24 24 rfl _ _ rfl rfl _ _ happ ?_)
  go_ret2
  exact HA.out

set_option maxRecDepth 100000 in
theorem hput_no (s t f y : Int) (a : Option Addr) (n c : Nat) (w : World) (h : ¬ (1 ≤ n ∧ n ≤ 64)) (z : Nat → Nat) :
    Calls Try.prog 46 #[.agg #[.int .u16 s, .int .u16 t, .int .u32 f, .int .u16 y, .slice a n c]] w fun e w' => PutIs w 0 z 4 e w' := by
  go_enter Try.func46, Try.ntmps46
  go_wp2_with fail
  refine (hfits_any a n c _).mono ?_
  rintro e w1' ⟨rfl, rfl⟩
  rw [fit_no h]
  have HB : Hid (Below w.heap.size w (w.alloc (.cells #[.int .u16 s, .int .u16 t, .int .u32 f, .int .u16 y, .slice a n c] 26))) := (Below.refl _ _).alloc (Nat.le_refl _) _
  go_wp2
  go_ret2
  exact PutIs.no HB.out

theorem hput_any (s t f y : Nat) (a : Option Addr) (n c : Nat) (x : Nat → Nat) (w : World) (hx : BytesAt w a n x) (ls : s < 65536) (lt : t < 65536) (lf : f < 4294967296) (ly : y < 65536) :
    Calls Try.prog 46 #[.agg #[.int .u16 (s : Int), .int .u16 (t : Int), .int .u32 (f : Int), .int .u16 (y : Int), .slice a n c]] w fun e w' => PutIs w (putN n) (laid s t f y x) (putE n) e w' := by
  by_cases h : 1 ≤ n ∧ n ≤ 64
  · obtain ⟨e1, e2⟩ := put_fit (fit_yes h.1 h.2)
    rw [e1, e2]
    exact hput_yes s t f y a n c x w hx h.1 h.2 ls lt lf ly
  · obtain ⟨e1, e2⟩ := put_unfit (fit_no h)
    rw [e1, e2]
    exact hput_no s t f y a n c w h _
end Go.Proofs.Ytcflaklnafggmaa

/-
  Package back: PutReport, PutNack, PutGone.
-/
import Derived.Test.YtcflaklnafggmaaBak
namespace Go.Proofs.Ytcflaklnafggmaa
open Go.RowKit Go.Deep

/-- A row of the call's own is a new one. -/
theorem ror_new {w w' : World} {v : Value} {n : Nat} {x : Nat → Nat} (h : Ror w' w.heap.size v n x) (hn : 0 < n) (hx : ∀ i, i < n → x i < 256) (hb : Below w.heap.size w w') : NewRow w n x (.returned v) w' := by
  obtain ⟨r, cap, rfl, h1, -, h3, h4⟩ := ror_any h hx
  obtain ⟨g, rfl, h5⟩ := h3 hn
  exact ⟨g, cap, rfl, h5, h1, h4, hb⟩
theorem NewRow.before {w w1 w' : World} {n : Nat} {x : Nat → Nat} {e : Ending} (h : NewRow w1 n x e w') (hb : Below w.heap.size w w1) : NewRow w n x e w' := by
  obtain ⟨g, c, rfl, h1, h2, h3, h4⟩ := h
  exact ⟨g, c, rfl, Nat.le_trans hb.size h1, h2, h3, hb.trans (h4.mono hb.size)⟩

set_option maxRecDepth 100000 in
set_option maxHeartbeats 400000 in
theorem kputr_any (t l g u j : Nat) (w : World) (lt : t < 18446744073709551616) (ll : l < 4294967296) (lg : g < 4294967296) (lu : u < 65536) (lj : j < 65536) :
    Calls Try.prog 48 #[.agg #[.int .u64 (t : Int), .int .u32 (l : Int), .int .u32 (g : Int), .int .u16 (u : Int), .int .u16 (j : Int)]] w fun e w' => NewRow w 20 (repLaid t l g u j) e w' := by
  have D1 := RepAt.made w 29 t l g u j
  have b1 : Below w.heap.size w (w.alloc (.cells #[.int .u64 (t : Int), .int .u32 (l : Int), .int .u32 (g : Int), .int .u16 (u : Int), .int .u16 (j : Int)] 29)) := (Below.refl _ _).alloc (Nat.le_refl _) _
  go_enter Try.func48, Try.ntmps48
  go_wp2_with fail
  generalize (w.alloc (.cells #[.int .u64 (t : Int), .int .u32 (l : Int), .int .u32 (g : Int), .int .u16 (u : Int), .int .u16 (j : Int)] 29)) = w1 at *
  obtain ⟨i0, hi, hz0, hz1, hz2⟩ := info_parts Try.infoByte
  obtain ⟨w2, hmk, O2, g2⟩ := run_make_own (P := Try.prog) w1 w1.heap.size 24 5 i0 (.int .u8 0) 1 Try.underlying24 hi hz0 hz1 .i64 .i64 20 (by rw [hz2]; omega) (by unfold maxLen; omega) (Nat.le_refl _)
  change (Instr.makeSlice 24 (.int .i64 0) (.int .i64 20)).run Try.prog w1 = _ at hmk
  have R2 : Ror w2 w1.heap.size (.slice (some ⟨w1.heap.size, 0, none⟩) 0 20) 0 (fun _ => 0) := O2
  have b2 : Below w1.heap.size w1 w2 := ⟨g2.os, g2.tape, g2.output, g2.size, fun k hk => g2.block k hk (by simp)⟩
  have HD : Hid (RepAt w1 w.heap.size t l g u j) := D1
  have HB1 : Hid (Below w.heap.size w w1) := b1
  clear D1 O2 g2 i0 hi hz0 hz1 hz2 b1
  have q := (HD.out.grew b2).c0
  rw [hmk]
  go_wp2_with fail
  clear hmk
  refine (kwrite_any _ 0 8 w1.heap.size t _ w2 R2 b2.size (by decide) (by decide) (by omega)).mono ?_
  rintro e w3 ⟨v3, rfl, R3, d3⟩
  have b3 := b2.trans d3
  clear q R2 b2 d3
  have q := (HD.out.grew b3).c1
  go_wp2_with fail
  refine (kwrite_any _ 8 4 w1.heap.size l _ w3 R3 b3.size (by decide) (by decide) (by omega)).mono ?_
  rintro e w4 ⟨v4, rfl, R4, d4⟩
  have b4 := b3.trans d4
  clear q R3 b3 d4
  have q := (HD.out.grew b4).c2
  go_wp2_with fail
  refine (kwrite_any _ 12 4 w1.heap.size g _ w4 R4 b4.size (by decide) (by decide) (by omega)).mono ?_
  rintro e w5 ⟨v5, rfl, R5, d5⟩
  have b5 := b4.trans d5
  clear q R4 b4 d5
  have q := (HD.out.grew b5).c3
  go_wp2_with fail
  refine (kwrite_any _ 16 2 w1.heap.size u _ w5 R5 b5.size (by decide) (by decide) (by omega)).mono ?_
  rintro e w6 ⟨v6, rfl, R6, d6⟩
  have b6 := b5.trans d6
  clear q R5 b5 d6
  have q := (HD.out.grew b6).c4
  go_wp2_with fail
  refine (kwrite_any _ 18 2 w1.heap.size j _ w6 R6 b6.size (by decide) (by decide) (by omega)).mono ?_
  rintro e w7 ⟨v7, rfl, R7, d7⟩
  have b7 := b6.trans d7
  clear q R6 b6 d7
  have HA : Hid (NewRow w 20 (repLaid t l g u j) (.returned v7) w7) := (ror_new R7 (by decide) (fun i hi => repLaid_lt t l g u j i hi) b7).before HB1.out
  clear R7 b7 HD HB1
  go_wp2
  go_ret
  exact HA.out

set_option maxRecDepth 100000 in
set_option maxHeartbeats 400000 in
theorem kputn_any (f k : Nat) (w : World) (lf : f < 4294967296) (lk : k < 65536) :
    Calls Try.prog 50 #[.int .u32 (f : Int), .int .u16 (k : Int)] w fun e w' => NewRow w 6 (nackLaid f k) e w' := by
  obtain ⟨i0, hi, hz0, hz1, hz2⟩ := info_parts Try.infoByte
  obtain ⟨w2, hmk, O2, g2⟩ := run_make_own (P := Try.prog) w w.heap.size 24 5 i0 (.int .u8 0) 1 Try.underlying24 hi hz0 hz1 .i64 .i64 6 (by rw [hz2]; omega) (by unfold maxLen; omega) (Nat.le_refl _)
  change (Instr.makeSlice 24 (.int .i64 0) (.int .i64 6)).run Try.prog w = _ at hmk
  have R2 : Ror w2 w.heap.size (.slice (some ⟨w.heap.size, 0, none⟩) 0 6) 0 (fun _ => 0) := O2
  have b2 : Below w.heap.size w w2 := ⟨g2.os, g2.tape, g2.output, g2.size, fun k hk => g2.block k hk (by simp)⟩
  clear O2 g2 i0 hi hz0 hz1 hz2
  go_enter Try.func50, Try.ntmps50
  go_wp2_with fail
  clear hmk
  refine (kwrite_any _ 0 4 w.heap.size f _ w2 R2 b2.size (by decide) (by decide) (by omega)).mono ?_
  rintro e w3 ⟨v3, rfl, R3, d3⟩
  have b3 := b2.trans d3
  clear R2 b2 d3
  go_wp2_with fail
  refine (kwrite_any _ 4 2 w.heap.size k _ w3 R3 b3.size (by decide) (by decide) (by omega)).mono ?_
  rintro e w4 ⟨v4, rfl, R4, d4⟩
  have HA : Hid (NewRow w 6 (nackLaid f k) (.returned v4) w4) := ror_new R4 (by decide) (fun i hi => nackLaid_lt f k i hi) (b3.trans d4)
  clear R3 R4 b3 d4
  go_wp2
  go_ret
  exact HA.out

set_option maxRecDepth 100000 in
set_option maxHeartbeats 400000 in
theorem kputg_any (f : Nat) (w : World) (lf : f < 4294967296) :
    Calls Try.prog 52 #[.int .u32 (f : Int)] w fun e w' => NewRow w 4 (goneLaid f) e w' := by
  obtain ⟨i0, hi, hz0, hz1, hz2⟩ := info_parts Try.infoByte
  obtain ⟨w2, hmk, O2, g2⟩ := run_make_own (P := Try.prog) w w.heap.size 24 5 i0 (.int .u8 0) 1 Try.underlying24 hi hz0 hz1 .i64 .i64 4 (by rw [hz2]; omega) (by unfold maxLen; omega) (Nat.le_refl _)
  change (Instr.makeSlice 24 (.int .i64 0) (.int .i64 4)).run Try.prog w = _ at hmk
  have R2 : Ror w2 w.heap.size (.slice (some ⟨w.heap.size, 0, none⟩) 0 4) 0 (fun _ => 0) := O2
  have b2 : Below w.heap.size w w2 := ⟨g2.os, g2.tape, g2.output, g2.size, fun k hk => g2.block k hk (by simp)⟩
  clear O2 g2 i0 hi hz0 hz1 hz2
  go_enter Try.func52, Try.ntmps52
  go_wp2_with fail
  clear hmk
  refine (kwrite_any _ 0 4 w.heap.size f _ w2 R2 b2.size (by decide) (by decide) (by omega)).mono ?_
  rintro e w3 ⟨v3, rfl, R3, d3⟩
  have HA : Hid (NewRow w 4 (goneLaid f) (.returned v3) w3) := ror_new R3 (by decide) (fun i hi => goneLaid_lt f i) (b2.trans d3)
  clear R2 R3 b2 d3
  go_wp2
  go_ret
  exact HA.out
end Go.Proofs.Ytcflaklnafggmaa

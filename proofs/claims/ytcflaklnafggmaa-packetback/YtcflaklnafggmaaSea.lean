/-
  Package sum: a number in four bytes, Seal and Open.
-/
import Derived.Test.YtcflaklnafggmaaSmm
import Derived.OrdersHeld
import Derived.Deep.RegionHeld
namespace Go.Proofs.Ytcflaklnafggmaa
open Go.RowKit Go.Deep

set_option maxRecDepth 100000 in
set_option maxHeartbeats 400000 in
theorem read_any (a : Option Addr) (c : Nat) (x : Nat → Nat) (w : World) (hx : BytesAt w a 4 x) :
    Calls Try.prog 45 #[.slice a 4 c] w fun e w' => e = .returned (.int .u32 (Crc.num x : Int)) ∧ w' = w := by
  have HX : Hid (BytesAt w a 4 x) := hx
  clear hx
  go_enter Try.func45, Try.ntmps45
  go_wp2_with fail
  go_loopw [3, 8] (fun r i wr => ∃ k : Nat, k ≤ 4 ∧ i = .int .i64 k ∧ r = .int .u32 (Crc.numTo x k : Int) ∧ wr = w) (fun _ i _ => 4 - (intOf i).toNat)
  case atStart => exact ⟨0, Nat.zero_le _, rfl, rfl, rfl⟩
  case round =>
    obtain ⟨k, hk, rfl, rfl, rfl⟩ := hrel
    by_cases hlt : k < 4
    · obtain ⟨b1, o1, rfl, cx⟩ := HX.out.cells (by omega)
      have c1 := cx k hlt
      have lx := HX.out.lt k hlt
      have i1 : (k : Int) < 4 := by omega
      have lr : Crc.numTo x k < 16777216 := Nat.lt_of_lt_of_le (Crc.numTo_lt k fun i hi => HX.out.lt i (by omega)) (show 256 ^ k ≤ 256 ^ 3 from Nat.pow_le_pow_right (by decide) (by omega))
      have HE : Hid (Crc.numTo x (k + 1) = Crc.numTo x k * 256 + x k) := rfl
      generalize Crc.numTo x k = r at *
      generalize x k = v at *
      have e1 : bits .or .u32 ((r : Int) * 256) (v : Int) = ((r * 256 + v : Nat) : Int) := by
        have := u32_or (r * 256) v (by omega) (by omega)
        rw [or_byte r v lx] at this
        exact this
      clear cx hk
      go_wp2
      go_roundw
      case rel => exact ⟨k + 1, by omega, by go_num, by rw [HE.out, Int.natCast_add, Int.natCast_mul]; rfl, trivial⟩
      case measure => simp [intOf]; omega
    · obtain rfl : k = 4 := by omega
      rw [Crc.numTo_four]
      clear hlt hk
      go_wp2
      go_ret
      exact ⟨rfl, rfl⟩

theorem byt_0 (r : Nat) (h : r < 4294967296) : (r : Int) / 16777216 = (Crc.byt r 0 : Int) := by unfold Crc.byt; simp; omega
theorem byt_1 (r : Nat) : (r : Int) / 65536 % 256 = (Crc.byt r 1 : Int) := by unfold Crc.byt; simp
theorem byt_2 (r : Nat) : (r : Int) / 256 % 256 = (Crc.byt r 2 : Int) := by unfold Crc.byt; simp
theorem byt_3 (r : Nat) : (r : Int) % 256 = (Crc.byt r 3 : Int) := by unfold Crc.byt; simp

set_option maxRecDepth 100000 in
set_option maxHeartbeats 400000 in
theorem write_any (g o c K : Nat) (f : Nat → Nat) (r : Nat) (w : World) (hr : w.rowIs g 5 K (byteAt f)) (hK : o + 4 ≤ K) (lr : r < 4294967296) :
    Calls Try.prog 43 #[.slice (some ⟨g, o, none⟩) 4 c, .int .u32 (r : Int)] w fun e w' => e = .returned (.tuple #[]) ∧ w'.rowIs g 5 K (byteAt (over f (Crc.byt r) o 4)) ∧ Kept g w w' ∧ w'.heap.size = w.heap.size := by
  rw [← over_none f (Crc.byt r) o] at hr
  go_enter Try.func43, Try.ntmps43
  go_wp2_with fail
  go_loopw [5] (fun i wr => ∃ k : Nat, k ≤ 4 ∧ i = .int .i64 k ∧ wr.rowIs g 5 K (byteAt (over f (Crc.byt r) o k)) ∧ Kept g w wr ∧ wr.heap.size = w.heap.size) (fun i _ => 4 - (intOf i).toNat)
  case atStart => exact ⟨0, Nat.zero_le _, rfl, hr, Kept.refl _ _, rfl⟩
  case round =>
    clear hr
    obtain ⟨k, hk, rfl, hrow, K1, s1⟩ := hrel
    by_cases hlt : k < 4
    · have i1 : (k : Int) < 4 := by omega
      obtain ⟨v3, c3⟩ : ∃ v, wr.cell? ⟨g, o + k, none⟩ = some v := ⟨_, hrow.cell (by omega)⟩
      have f3 := hrow.frozen (o + k)
      have HS : Hid ((wr.setCell ⟨g, o + k, none⟩ (.int .u8 (Crc.byt r k : Int))).rowIs g 5 K (byteAt (over f (Crc.byt r) o (k + 1))) ∧ Kept g w (wr.setCell ⟨g, o + k, none⟩ (.int .u8 (Crc.byt r k : Int))) ∧ (wr.setCell ⟨g, o + k, none⟩ (.int .u8 (Crc.byt r k : Int))).heap.size = w.heap.size) := ⟨over_set hrow, K1.trans (Kept.set _ _ _), by simpa [World.setCell] using s1⟩
      clear hrow K1 s1 hk
      match k, hlt with
      | 0, _ =>
        have e := byt_0 r lr
        rw [Nat.add_zero] at c3 f3 HS
        go_wp2
        go_roundw
        case rel => exact ⟨1, by omega, by go_num, HS.out⟩
        case measure => simp [intOf]
      | 1, _ =>
        have e := byt_1 r
        go_wp2
        go_roundw
        case rel => exact ⟨2, by omega, by go_num, HS.out⟩
        case measure => simp [intOf]
      | 2, _ =>
        have e := byt_2 r
        go_wp2
        go_roundw
        case rel => exact ⟨3, by omega, by go_num, HS.out⟩
        case measure => simp [intOf]
      | 3, _ =>
        have e := byt_3 r
        go_wp2
        go_roundw
        case rel => exact ⟨4, by omega, by go_num, HS.out⟩
        case measure => simp [intOf]
    · obtain rfl : k = 4 := by omega
      clear hlt hk
      have HS : Hid (wr.rowIs g 5 K (byteAt (over f (Crc.byt r) o 4)) ∧ Kept g w wr ∧ wr.heap.size = w.heap.size) := ⟨hrow, K1, s1⟩
      clear hrow K1 s1
      go_wp2
      exact bodyPost_end (results_none Try.results43 _ _ _) rfl ⟨rfl, HS.out⟩

theorem seald_over (x : Nat → Nat) (n i : Nat) (h : i < n + 4) : over (over (fun _ => 0) x 0 n) (Crc.byt (Crc.sum x n)) n 4 i = Crc.seald x n i := by
  unfold over Crc.seald
  by_cases g : i < n
  · rw [if_neg (by omega), if_pos (by omega), if_pos g]; rfl
  · rw [if_pos (by omega), if_neg g]

set_option maxRecDepth 100000 in
set_option maxHeartbeats 400000 in
theorem seal_any (a : Option Addr) (n c : Nat) (x : Nat → Nat) (w : World) (hx : BytesAt w a n x) (hn : n ≤ 1000000) :
    Calls Try.prog 20 #[.slice a n c] w fun e w' => e = .returned (.slice (some ⟨w.heap.size, 0, none⟩) (n + 4) (n + 4)) ∧ w'.rowIs w.heap.size 5 (n + 4) (byteAt (Crc.seald x n)) ∧ Below w.heap.size w w' := by
  have hmk := run_make_row' (P := Try.prog) 24 5 (.int .u8 0) 1 Try.underlying24 Try.infoByte rfl .i64 .i64 (n + 4) (by omega) (by omega)
  rw [show ((n + 4 : Nat) : Int) = (n : Int) + 4 by omega] at hmk
  have R1 : (w.alloc (.cells (madeCells #[.int .u8 0] (n + 4)) 5)).rowIs w.heap.size 5 (n + 4) (byteAt fun _ => 0) := World.rowIs_made w (.int .u8 0) (n + 4) 5
  have b1 : Below w.heap.size w (w.alloc (.cells (madeCells #[.int .u8 0] (n + 4)) 5)) := (Below.refl _ _).alloc (Nat.le_refl _) _
  have s1 : (w.alloc (.cells (madeCells #[.int .u8 0] (n + 4)) 5)).heap.size = w.heap.size + 1 := by simp
  have HX : Hid (BytesAt w a n x) := hx
  have hcp := fun ty => copy_run _ ty w.heap.size 0 (n + 4) (n + 4) (n + 4) (fun _ => 0) a n c x R1 (hx.grew b1) (by omega)
  obtain ⟨w2, hrun, R2, K2, s2⟩ := hcp 3
  rw [Nat.min_eq_left (by omega)] at hrun R2
  have b2 : Below w.heap.size w w2 := b1.trans (K2.below (Nat.le_refl _) (by omega))
  clear R1 b1 K2 hcp hx
  go_enter Try.func20, Try.ntmps20
  go_wp2_with fail
  rw [s1] at s2
  clear hmk hrun s1
  have hsl := slice_from w.heap.size 0 (n + 4) (n + 4) n
  rw [Nat.zero_add] at hsl
  have hsl := fun W => hsl W (by omega) (Nat.le_refl _)
  rw [Nat.add_sub_cancel_left] at hsl
  refine wp_region_held (S := fun _ => True) (by kernel_rfl) ?_
  change wpAnyH _ _ _ _ _ _ _ _ w2.drew
  have R3 : w2.drew.rowIs w.heap.size 5 (n + 4) (byteAt (over (fun _ => 0) x 0 n)) := R2.drew
  have b3 : Below w.heap.size w w2.drew := b2.drew
  have s3 : w2.drew.heap.size = w.heap.size + 1 := s2
  clear R2 b2 s2
  generalize w2.drew = w3 at *
  refine wpAnyH_take (i := 0) (v := .slice (some ⟨w.heap.size, 0, none⟩) (n + 4) (n + 4)) rfl (by kernel_rfl) (by kernel_rfl) (by kernel_rfl) (fun _ _ _ h => h) (Yields.yieldsIf (Or.inl ⟨by kernel_rfl, fun _ => by kernel_rfl⟩)) trivial ?_
  refine wpAnyH_take (i := 1) (v := .slice a n c) rfl (by kernel_rfl) (by kernel_rfl) (by kernel_rfl) (fun _ _ _ h => h) (Yields.yieldsIf (Or.inl ⟨by kernel_rfl, fun _ => by kernel_rfl⟩)) trivial ?_
  refine wpAnyH_take (i := 2) (v := .int .i64 (n : Int)) rfl (by kernel_rfl) (by kernel_rfl) (by kernel_rfl) (fun _ _ _ h => h) (Yields.yieldsIf (Or.inl ⟨by kernel_rfl, fun _ => by kernel_rfl⟩)) trivial ?_
  refine wpAnyH_take (i := 3) (v := .slice (some ⟨w.heap.size, n, none⟩) 4 4) rfl (by kernel_rfl) (by kernel_rfl) (by kernel_rfl) (fun _ _ _ h => h) (Yields.yieldsIf (Or.inl ⟨by kernel_rfl, fun _ => by go_simp⟩)) trivial ?_
  refine wpAnyH_take (i := 4) (v := .slice a n c) rfl (by kernel_rfl) (by kernel_rfl) (by kernel_rfl) (fun _ _ _ h => h) (Yields.yieldsIf (Or.inl ⟨by kernel_rfl, fun _ => by kernel_rfl⟩)) trivial ?_
  refine wpAnyH_ready (rs := [5]) (by kernel_rfl) (by simp) ?_
  refine AllReadyH.cons rfl (fun K2 hK2 => ?_) AllReadyH.nil
  go_simp
  refine Calls.mono (crc_any a n c x w3 (HX.out.grew b3) (by omega)) ?_
  rintro e w4 ⟨rfl, b4⟩
  have R4 := R3.of_block (b4.block _ R3.lt)
  have B4 : Below w.heap.size w w4 := b3.trans (b4.mono (by omega))
  have s4 := b4.size
  refine hK2.out _ _ trivial (fun _ => ?_)
  clear hK2 K2 b4 R3 b3
  refine wpAnyH_ready (rs := [6]) (by kernel_rfl) (by simp) ?_
  refine AllReadyH.cons rfl (fun K2 hK2 => ?_) AllReadyH.nil
  go_simp
  refine Calls.mono (write_any w.heap.size n 4 (n + 4) _ (Crc.sum x n) w4 R4 (Nat.le_refl _) (Crc.sum_lt n HX.out.lt)) ?_
  rintro e w5 ⟨rfl, R5, k5, -⟩
  refine hK2.out _ _ trivial (fun _ => ?_)
  clear hK2 K2
  refine wpAnyH_done (by kernel_rfl) ?_ _
  have HR : Hid (w5.rowIs w.heap.size 5 (n + 4) (byteAt (Crc.seald x n))) := R5.congr fun i hi => by unfold byteAt; rw [seald_over x n i hi]
  have HB : Hid (Below w.heap.size w w5) := B4.trans (k5.below (Nat.le_refl _) (by omega))
  clear R4 R5 k5 B4 s3 s4
  go_wp2
  go_ret
  exact ⟨rfl, HR.out, HB.out⟩

/-- Of n bytes: sealed? -/
def opB (y : Nat → Nat) (n : Nat) : Bool := decide (4 ≤ n ∧ Crc.ok y (n - 4))
/-- .. how many bytes are opened. -/
def opN (y : Nat → Nat) (n : Nat) : Nat := if opB y n then n - 4 else 0
/-- A row of k bytes z, of new memory, and a yes or no were answered. -/
def OpenIs (w : World) (k : Nat) (z : Nat → Nat) (b : Bool) (e : Ending) (w' : World) : Prop :=
  ∃ r c, e = .returned (.tuple #[.slice r k c, .bool b]) ∧ k ≤ c ∧ c ≤ maxLen ∧ (0 < k → ∃ g, r = some ⟨g, 0, none⟩ ∧ w.heap.size ≤ g) ∧ BytesAt w' r k z ∧ Below w.heap.size w w'
theorem OpenIs.no {w w' : World} {z : Nat → Nat} (h : Below w.heap.size w w') : OpenIs w 0 z false (.returned (.tuple #[.slice none 0 0, .bool false])) w' :=
  ⟨none, 0, rfl, Nat.le_refl _, Nat.zero_le _, fun h => absurd h (by omega), ⟨fun h => absurd h (by omega), fun i hi => absurd hi (by omega)⟩, h⟩
theorem op_few {y : Nat → Nat} {n : Nat} (h : n < 4) : opB y n = false ∧ opN y n = 0 := by
  have : opB y n = false := by unfold opB; simp; omega
  exact ⟨this, by unfold opN; rw [this]; rfl⟩
theorem op_yes {y : Nat → Nat} {m : Nat} (h : Crc.ok y m) : opB y (m + 4) = true ∧ opN y (m + 4) = m := by
  have : opB y (m + 4) = true := by unfold opB; rw [Nat.add_sub_cancel]; simp [h]
  exact ⟨this, by unfold opN; rw [this, Nat.add_sub_cancel]; rfl⟩
theorem op_no {y : Nat → Nat} {m : Nat} (h : ¬ Crc.ok y m) : opB y (m + 4) = false ∧ opN y (m + 4) = 0 := by
  have : opB y (m + 4) = false := by unfold opB; rw [Nat.add_sub_cancel]; simp [h]
  exact ⟨this, by unfold opN; rw [this]; rfl⟩
set_option maxRecDepth 100000 in
set_option maxHeartbeats 400000 in
theorem open_few (a : Option Addr) (n c : Nat) (w : World) (h : n < 4) :
    Calls Try.prog 26 #[.slice a n c] w fun e w' => e = .returned (.tuple #[.slice none 0 0, .bool false]) ∧ Below w.heap.size w w' := by
  have i1 : decide ((n : Int) - 4 < 0) = true := by simp; omega
  go_enter Try.func26, Try.ntmps26
  go_wp2_with fail
  go_quiet (fail)
  go_wp2
  go_ret2
  exact ⟨rfl, below_drews _⟩

set_option maxRecDepth 100000 in
set_option maxHeartbeats 400000 in
theorem open_four (a : Option Addr) (m c : Nat) (y : Nat → Nat) (w : World) (hx : BytesAt w a (m + 4) y) (hc : m + 4 ≤ c) (hn : m ≤ 1000000) :
    Calls Try.prog 26 #[.slice a (m + 4) c] w fun e w' => OpenIs w (opN y (m + 4)) y (opB y (m + 4)) e w' := by
  obtain ⟨b, o, rfl⟩ := bytes_some hx (by omega)
  have i1 : IntKind.i64.wrap ((m : Int) + 4 - 4) = (m : Int) := by rw [IntKind.wrap_i64]; omega
  have HX : Hid (BytesAt w (some ⟨b, o, none⟩) (m + 4) y) := hx
  have hsl := fun W => slice_from b o (m + 4) c m W (by omega) hc
  have hst := fun W => slice_to (some ⟨b, o, none⟩) (m + 4) c m W (by omega)
  rw [Nat.add_sub_cancel_left] at hsl
  have hmk := run_make_row' (P := Try.prog) 24 5 (.int .u8 0) 1 Try.underlying24 Try.infoByte rfl .i64 .i64 m (by omega) (by omega)
  clear hx
  go_enter Try.func26, Try.ntmps26
  go_wp2_with fail
  refine wp_region_held (S := fun _ => True) (by kernel_rfl) ?_
  change wpAnyH _ _ _ _ _ _ _ _ w.drew
  have b3 : Below w.heap.size w w.drew := (Below.refl _ w).drew
  generalize w.drew = w3 at *
  refine wpAnyH_take (i := 0) (v := .int .i64 (m : Int)) rfl (by kernel_rfl) (by kernel_rfl) (by kernel_rfl) (fun _ _ _ h => h) (Yields.yieldsIf (Or.inl ⟨by kernel_rfl, fun _ => by kernel_rfl⟩)) trivial ?_
  refine wpAnyH_take (i := 1) (v := .bool false) rfl (by kernel_rfl) (by kernel_rfl) (by kernel_rfl) (fun _ _ _ h => h) (Yields.yieldsIf (Or.inl ⟨by kernel_rfl, fun _ => by go_simp⟩)) trivial ?_
  refine wpAnyH_take (i := 2) (v := .bool false) rfl (by kernel_rfl) (by kernel_rfl) (by kernel_rfl) (fun _ _ _ h => h) (Yields.yieldsIf (Or.inl ⟨by kernel_rfl, fun _ => by kernel_rfl⟩)) trivial ?_
  refine wpAnyH_take (i := 3) (v := .slice (some ⟨b, o, none⟩) (m + 4) c) rfl (by kernel_rfl) (by kernel_rfl) (by kernel_rfl) (fun _ _ _ h => h) (Yields.yieldsIf (Or.inl ⟨by kernel_rfl, fun _ => by kernel_rfl⟩)) trivial ?_
  refine wpAnyH_take (i := 4) (v := .int .i64 (m : Int)) rfl (by kernel_rfl) (by kernel_rfl) (by kernel_rfl) (fun _ _ _ h => h) (Yields.yieldsIf (Or.inl ⟨by kernel_rfl, fun _ => by kernel_rfl⟩)) trivial ?_
  refine wpAnyH_take (i := 5) (v := .slice (some ⟨b, o + m, none⟩) 4 (c - m)) rfl (by kernel_rfl) (by kernel_rfl) (by kernel_rfl) (fun _ _ _ h => h) (Yields.yieldsIf (Or.inl ⟨by kernel_rfl, fun _ => by go_simp⟩)) trivial ?_
  refine wpAnyH_take (i := 7) (v := .slice (some ⟨b, o, none⟩) (m + 4) c) rfl (by kernel_rfl) (by kernel_rfl) (by kernel_rfl) (fun _ _ _ h => h) (Yields.yieldsIf (Or.inl ⟨by kernel_rfl, fun _ => by kernel_rfl⟩)) trivial ?_
  refine wpAnyH_take (i := 8) (v := .int .i64 (m : Int)) rfl (by kernel_rfl) (by kernel_rfl) (by kernel_rfl) (fun _ _ _ h => h) (Yields.yieldsIf (Or.inl ⟨by kernel_rfl, fun _ => by kernel_rfl⟩)) trivial ?_
  refine wpAnyH_take (i := 9) (v := .slice (some ⟨b, o, none⟩) m c) rfl (by kernel_rfl) (by kernel_rfl) (by kernel_rfl) (fun _ _ _ h => h) (Yields.yieldsIf (Or.inl ⟨by kernel_rfl, fun _ => by go_simp⟩)) trivial ?_
  refine wpAnyH_ready (rs := [6]) (by kernel_rfl) (by simp) ?_
  refine AllReadyH.cons rfl (fun K2 hK2 => ?_) AllReadyH.nil
  go_simp
  refine Calls.mono (read_any _ (c - m) _ w3 (HX.out.grew b3).drop) ?_
  rintro e w4 ⟨rfl, rfl⟩
  refine hK2.out _ _ trivial (fun _ => ?_)
  clear hK2 K2
  refine wpAnyH_ready (rs := [10]) (by kernel_rfl) (by simp) ?_
  refine AllReadyH.cons rfl (fun K2 hK2 => ?_) AllReadyH.nil
  go_simp
  refine Calls.mono (crc_any _ m c y w4 ((HX.out.grew b3).take (by omega)) (by omega)) ?_
  rintro e w5 ⟨rfl, b5⟩
  have B5 : Below w.heap.size w w5 := b3.trans (b5.mono b3.size)
  refine hK2.out _ _ trivial (fun _ => ?_)
  clear hK2 K2 b5 b3
  by_cases hok : Crc.ok y m
  · have i2 : ((Crc.num fun i => y (m + i) : Nat) : Int) = (Crc.sum y m : Int) := congrArg _ hok
    obtain ⟨q1, q2⟩ := op_yes hok
    refine wpAnyH_take (i := 11) (v := .bool false) rfl (by kernel_rfl) (by kernel_rfl) (by kernel_rfl) (fun _ _ _ h => h) (Yields.yieldsIf (Or.inl ⟨by kernel_rfl, fun _ => by go_simp⟩)) trivial ?_
    refine wpAnyH_take (i := 12) (v := .bool false) rfl (by kernel_rfl) (by kernel_rfl) (by kernel_rfl) (fun _ _ _ h => h) (Yields.yieldsIf (Or.inl ⟨by kernel_rfl, fun _ => by go_simp⟩)) trivial ?_
    refine wpAnyH_done (by kernel_rfl) ?_ _
    have R6 : (w5.alloc (.cells (madeCells #[.int .u8 0] m) 5)).rowIs w5.heap.size 5 m (byteAt fun _ => 0) := World.rowIs_made w5 (.int .u8 0) m 5
    have b6 : Below w.heap.size w (w5.alloc (.cells (madeCells #[.int .u8 0] m) 5)) := B5.alloc B5.size _
    have s6 : (w5.alloc (.cells (madeCells #[.int .u8 0] m) 5)).heap.size = w5.heap.size + 1 := by simp
    obtain ⟨w7, hrun, R7, K7, s7⟩ := copy_run _ 3 w5.heap.size 0 m m m (fun _ => 0) (some ⟨b, o, none⟩) (m + 4) c y R6 (HX.out.below b6 (Nat.le_refl _)) (by omega)
    rw [Nat.min_eq_right (by omega)] at hrun R7
    have l5 := B5.size
    have HA : Hid (OpenIs w (opN y (m + 4)) y (opB y (m + 4)) (.returned (.tuple #[.slice (some ⟨w5.heap.size, 0, none⟩) m m, .bool true])) w7) := by
      show OpenIs _ _ _ _ _ _
      rw [q1, q2]
      exact ⟨_, m, rfl, Nat.le_refl _, by unfold maxLen; omega, fun _ => ⟨_, rfl, l5⟩, row_bytes' R7 (fun i hi => by unfold over; rw [if_pos (by omega)]; rfl) (fun i hi => HX.out.lt i (by omega)), b6.trans (K7.below l5 (by omega))⟩
    clear R6 b6 s6 R7 K7 s7 l5 B5 i2 hok q1 q2 hsl hst
    go_wp2
    go_ret2
    exact HA.out
  · have i2 : ((Crc.num fun i => y (m + i) : Nat) : Int) ≠ (Crc.sum y m : Int) := fun h => hok (Int.ofNat.inj h)
    obtain ⟨q1, q2⟩ := op_no hok
    have HA : Hid (OpenIs w (opN y (m + 4)) y (opB y (m + 4)) (.returned (.tuple #[.slice none 0 0, .bool false])) w5) := by
      show OpenIs _ _ _ _ _ _
      rw [q1, q2]
      exact OpenIs.no B5
    refine wpAnyH_take (i := 11) (v := .bool true) rfl (by kernel_rfl) (by kernel_rfl) (by kernel_rfl) (fun _ _ _ h => h) (Yields.yieldsIf (Or.inl ⟨by kernel_rfl, fun _ => by go_simp⟩)) trivial ?_
    refine wpAnyH_take (i := 12) (v := .bool true) rfl (by kernel_rfl) (by kernel_rfl) (by kernel_rfl) (fun _ _ _ h => h) (Yields.yieldsIf (Or.inl ⟨by kernel_rfl, fun _ => by go_simp⟩)) trivial ?_
    refine wpAnyH_done (by kernel_rfl) ?_ _
    clear i2 hok q1 q2 hsl hst hmk
    go_wp2
    go_ret2
    exact HA.out

theorem open_any (a : Option Addr) (n c : Nat) (y : Nat → Nat) (w : World) (hx : BytesAt w a n y) (hc : n ≤ c) (hn : n ≤ 1000000) :
    Calls Try.prog 26 #[.slice a n c] w fun e w' => OpenIs w (opN y n) y (opB y n) e w' := by
  by_cases h : n < 4
  · obtain ⟨q1, q2⟩ := op_few (y := y) h
    rw [q1, q2]
    refine (open_few a n c w h).mono ?_
    rintro e w' ⟨rfl, hb⟩
    exact OpenIs.no hb
  · obtain ⟨m, rfl⟩ : ∃ m, n = m + 4 := ⟨n - 4, by omega⟩
    exact open_four a m c y w hx hc (by omega)
end Go.Proofs.Ytcflaklnafggmaa

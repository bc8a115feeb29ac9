/-
  Package head: Take's reader.
-/
import Derived.Test.YtcflaklnafggmaaHed
import Derived.Defers
import Derived.Recover
namespace Go.Proofs.Ytcflaklnafggmaa
open Go.RowKit Go.Deep

set_option maxRecDepth 100000 in
theorem hnumber_no (R : Nat) (a : Option Addr) (L c n : Nat) (w : World) (hR : w.cell? ⟨R, 0, none⟩ = some (.slice a L c)) (h : L < n) :
    Calls Try.prog 58 #[.pointer (some ⟨R, 0, none⟩), .int .i64 (n : Int)] w fun e w' => e = .panicked hnoted ∧ w' = w := by
  go_enter Try.func58, Try.ntmps58
  go_wp2_with fail
  refine (hdemand_no _ _ (by simp <;> omega)).mono ?_
  rintro e w ⟨rfl, rfl⟩
  go_wp2
  exact ⟨rfl, rfl, rfl⟩

set_option maxRecDepth 100000 in
set_option maxHeartbeats 400000 in
theorem hnumber_yes (R : Nat) (a : Option Addr) (L c n : Nat) (x : Nat → Nat) (w : World) (hx : BytesAt w a L x) (hc : L ≤ c) (hR : w.cell? ⟨R, 0, none⟩ = some (.slice a L c)) (hF : w.frozen? ⟨R, 0, none⟩ = false) (n1 : 1 ≤ n) (n4 : n ≤ 4) (hn : n ≤ L) :
    Calls Try.prog 58 #[.pointer (some ⟨R, 0, none⟩), .int .i64 (n : Int)] w fun e w' => ∃ a', e = .returned (.int .u32 (Crc.numTo x n : Int)) ∧ w' = w.setCell ⟨R, 0, none⟩ (.slice a' (L - n) (c - n)) ∧ BytesAt w' a' (L - n) (fun i => x (n + i)) := by
  obtain ⟨a', hsl, hB⟩ := slice_left a L c n x w hx (by omega) hn hc
  have hst := fun W => slice_to a L c n W (by omega)
  have HX : Hid (BytesAt w a L x) := hx
  have HA : Hid (BytesAt (w.setCell ⟨R, 0, none⟩ (.slice a' (L - n) (c - n))) a' (L - n) (fun i => x (n + i))) := hB.setSlice hR
  have i1 : (n : Int) ≤ (L : Int) := by omega
  clear hx hB
  go_enter Try.func58, Try.ntmps58
  go_wp2_with fail
  refine (hdemand_yes _ _ (by simp <;> omega)).mono ?_
  rintro e w ⟨rfl, rfl⟩
  go_wp2_with fail
  go_loopw [5, 23] (fun r i wr => ∃ k : Nat, k ≤ n ∧ i = .int .i64 k ∧ r = .int .u32 (Crc.numTo x k : Int) ∧ wr = w) (fun _ i _ => n - (intOf i).toNat)
  case atStart => exact ⟨0, Nat.zero_le _, rfl, rfl, rfl⟩
  case round =>
    obtain ⟨k, hk, rfl, rfl, rfl⟩ := hrel
    by_cases hlt : k < n
    · obtain ⟨b1, o1, rfl, cx⟩ := HX.out.cells (by omega)
      have c1 := cx k (by omega)
      have lx := HX.out.lt k (by omega)
      have i2 : (k : Int) < (n : Int) := by omega
      have lr : Crc.numTo x k < 16777216 := Nat.lt_of_lt_of_le (Crc.numTo_lt k fun i hi => HX.out.lt i (by omega)) (show 256 ^ k ≤ 256 ^ 3 from Nat.pow_le_pow_right (by decide) (by omega))
      have HE : Hid (Crc.numTo x (k + 1) = Crc.numTo x k * 256 + x k) := rfl
      generalize Crc.numTo x k = r at *
      generalize x k = v at *
      have e1 : bits .or .u32 ((r : Int) * 256) (v : Int) = ((r * 256 + v : Nat) : Int) := by
        have := u32_or (r * 256) v (by omega) (by omega)
        rw [or_byte r v lx] at this
        exact this
      clear cx hk
      go_wp2
      go_roundw
      case rel => exact ⟨k + 1, by omega, by go_num, by rw [HE.out, Int.natCast_add, Int.natCast_mul]; rfl, trivial⟩
      case measure => simp [intOf]; omega
    · obtain rfl : k = n := by omega
      clear hlt hk
      go_wp2
      go_ret
      exact ⟨a', rfl, rfl, HA.out⟩

set_option maxRecDepth 100000 in
theorem hbody_no (R : Nat) (a : Option Addr) (L c : Nat) (w : World) (hR : w.cell? ⟨R, 0, none⟩ = some (.slice a L c)) (h : ¬ (1 ≤ L ∧ L ≤ 64)) :
    Calls Try.prog 59 #[.pointer (some ⟨R, 0, none⟩)] w fun e w' => e = .panicked hnoted ∧ w' = w := by
  go_enter Try.func59, Try.ntmps59
  go_wp2_with fail
  refine (hfits_any a L c _).mono ?_
  rintro e w ⟨rfl, rfl⟩
  rw [fit_no h]
  go_wp2_with fail
  refine (hdemand_no _ _ rfl).mono ?_
  rintro e w ⟨rfl, rfl⟩
  go_wp2
  exact ⟨rfl, rfl, rfl⟩

set_option maxRecDepth 100000 in
set_option maxHeartbeats 400000 in
theorem hbody_yes (R : Nat) (a : Option Addr) (L c : Nat) (x : Nat → Nat) (w : World) (hx : BytesAt w a L x) (hR : w.cell? ⟨R, 0, none⟩ = some (.slice a L c)) (h1 : 1 ≤ L) (h2 : L ≤ 64) :
    Calls Try.prog 59 #[.pointer (some ⟨R, 0, none⟩)] w fun e w' => e = .returned (.slice (some ⟨w.heap.size, 0, none⟩) L L) ∧ BytesAt w' (some ⟨w.heap.size, 0, none⟩) L x ∧ Below w.heap.size w w' := by
  have hmk := run_make_row' (P := Try.prog) 24 5 (.int .u8 0) 1 Try.underlying24 Try.infoByte rfl .i64 .i64 L (by omega) (by omega)
  have R1 : (w.alloc (.cells (madeCells #[.int .u8 0] L) 5)).rowIs w.heap.size 5 L (byteAt fun _ => 0) := World.rowIs_made w (.int .u8 0) L 5
  have b1 : Below w.heap.size w (w.alloc (.cells (madeCells #[.int .u8 0] L) 5)) := (Below.refl _ _).alloc (Nat.le_refl _) _
  have s1 : (w.alloc (.cells (madeCells #[.int .u8 0] L) 5)).heap.size = w.heap.size + 1 := by simp
  have q1 : (w.alloc (.cells (madeCells #[.int .u8 0] L) 5)).cell? ⟨R, 0, none⟩ = some (.slice a L c) := (b1.cell (p := ⟨R, 0, none⟩) (cell_lt hR)).trans hR
  obtain ⟨w2, hrun, R2, K2, s2⟩ := copy_run _ 3 w.heap.size 0 L L L (fun _ => 0) a L c x R1 (hx.grew b1) (by omega)
  rw [Nat.min_self] at hrun R2
  have HA : Hid (BytesAt w2 (some ⟨w.heap.size, 0, none⟩) L x ∧ Below w.heap.size w w2) := ⟨row_bytes' R2 (fun i hi => by unfold over; rw [if_pos (by omega)]; rfl) hx.lt, b1.trans (K2.below (Nat.le_refl _) (by omega))⟩
  clear R1 b1 s1 R2 K2 s2 hx
  go_enter Try.func59, Try.ntmps59
  go_wp2_with fail
  refine (hfits_any a L c _).mono ?_
  rintro e w ⟨rfl, rfl⟩
  rw [fit_yes h1 h2]
  go_wp2_with fail
  refine (hdemand_yes _ _ rfl).mono ?_
  rintro e w ⟨rfl, rfl⟩
  go_wp2
  go_ret
  exact ⟨rfl, HA.out⟩
end Go.Proofs.Ytcflaklnafggmaa

/-
  The document's Sum.
-/
import Derived.Test.YtcflaklnafggmaaSea
import Derived.Test.YtcflaklnafggmaaRor
import Derived.Test.YtcflaklnafggmaaHig
namespace Go.Proofs.Ytcflaklnafggmaa
open Go.RowKit Go.Deep

theorem mv_up {r : Nat} (h : ¬ r < 2147483648) (lr : r < 4294967296) : bits .xor .u64 ((r : Int) * 2 - 4294967296) 79764919 = (Crc.mv r : Int) := by
  have := u64_xor (2 * r - 4294967296) 79764919 (by omega) (by decide)
  rw [show (((2 * r - 4294967296 : Nat)) : Int) = (r : Int) * 2 - 4294967296 by omega] at this
  refine this.trans ?_
  unfold Crc.mv
  rw [if_neg h]
  rfl

set_option maxRecDepth 100000 in
set_option maxHeartbeats 400000 in
theorem rsum_any (a : Option Addr) (n c : Nat) (x : Nat → Nat) (w : World) (hx : BytesAt w a n x) (hn : n ≤ 140737488351232) :
    Calls Try.prog 32 #[.slice a n c] w fun e w' => e = .returned (.int .u32 (Crc.sum x n : Int)) ∧ w' = w := by
  have HX : Hid (BytesAt w a n x) := hx
  clear hx
  go_enter Try.func32, Try.ntmps32
  go_wp2_with fail
  go_loopw [3, 4] (fun r i wr => ∃ k : Nat, k ≤ n ∧ i = .int .i64 k ∧ r = .int .u64 (Crc.sum x k : Int) ∧ wr = w) (fun _ i _ => n - (intOf i).toNat)
  case atStart => exact ⟨0, Nat.zero_le _, rfl, by rw [Crc.sum_zero]; rfl, rfl⟩
  case round =>
    obtain ⟨k, hk, rfl, rfl, hw⟩ := hrel
    have hw := hw.symm
    subst hw
    have lr : Crc.sum x k < 4294967296 := Crc.sum_lt k fun i hi => HX.out.lt i (by omega)
    by_cases hlt : k < n
    · obtain ⟨b1, o1, rfl, cx⟩ := HX.out.cells (by omega)
      have c1 := cx k hlt
      have lx := HX.out.lt k hlt
      have i1 : (k : Int) < (n : Int) := by omega
      have HE : Hid (Crc.sum x (k + 1) = Crc.mvs 8 (Crc.sum x k ^^^ (x k * 16777216))) := Crc.sum_succ x k
      generalize Crc.sum x k = r at *
      generalize x k = v at *
      have e1 : bits .xor .u64 (r : Int) ((v : Int) * 16777216) = ((r ^^^ (v * 16777216) : Nat) : Int) := u64_xor r (v * 16777216) lr (by omega)
      have l1 : r ^^^ (v * 16777216) < 4294967296 := Crc.xor_lt lr (by omega)
      generalize r ^^^ (v * 16777216) = u at *
      clear cx hk
      go_wp2_with fail
      go_loopw [3, 5] (fun r i wr => ∃ m : Nat, m ≤ 8 ∧ i = .int .i64 m ∧ r = .int .u64 (Crc.mvs m u : Int) ∧ wr = w) (fun _ i _ => 8 - (intOf i).toNat)
      case atStart => exact ⟨0, Nat.zero_le _, rfl, rfl, rfl⟩
      case round =>
        obtain ⟨m, hm, rfl, rfl, rfl⟩ := hrel
        have lm := Crc.mvs_lt m l1
        by_cases hm8 : m < 8
        · have i3 : (m : Int) < 8 := by omega
          have HM : Hid (Crc.mvs (m + 1) u = Crc.mv (Crc.mvs m u)) := rfl
          generalize Crc.mvs m u = s at *
          by_cases hs : s < 2147483648
          · have i4 : ¬ ((4294967296 : Int) ≤ (s : Int) * 2) := by omega
            have HV : Hid ((Crc.mv s : Int) = (s : Int) * 2) := by show _ = _; rw [Crc.mv_low hs]; omega
            go_wp2
            go_roundw
            case rel => exact ⟨m + 1, by omega, by go_num, by rw [HM.out, HV.out], trivial⟩
            case measure => simp [intOf]; omega
          · have i4 : (4294967296 : Int) ≤ (s : Int) * 2 := by omega
            have e4 := mv_up hs lm
            go_wp2
            go_roundw
            case rel => exact ⟨m + 1, by omega, by go_num, by rw [HM.out], trivial⟩
            case measure => simp [intOf]; omega
        · obtain rfl : m = 8 := by omega
          clear hm hm8
          go_wp2
          go_roundw
          case rel => exact ⟨k + 1, by omega, by go_num, by rw [HE.out], trivial⟩
          case measure => simp [intOf]; omega
    · obtain rfl : k = n := by omega
      have e5 : (Crc.sum x k : Int) % 4294967296 = (Crc.sum x k : Int) := by omega
      clear hlt hk
      go_wp2
      go_ret
      exact ⟨rfl, rfl⟩

theorem high_four (r i : Nat) (hi : i < 4) : high r 4 i = Crc.byt r i := by
  unfold high Crc.byt
  match i, hi with
  | 0, _ => rfl
  | 1, _ => rfl
  | 2, _ => rfl
  | 3, _ => simp
end Go.Proofs.Ytcflaklnafggmaa

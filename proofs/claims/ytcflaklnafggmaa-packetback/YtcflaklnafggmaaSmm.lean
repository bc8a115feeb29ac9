/-
  Package sum: Sum, and a number in four bytes.
-/
import Derived.Test.YtcflaklnafggmaaSta
namespace Go.Proofs.Ytcflaklnafggmaa
open Go.RowKit Go.Deep

set_option maxRecDepth 100000 in
set_option maxHeartbeats 400000 in
theorem crc_any (a : Option Addr) (n c : Nat) (x : Nat → Nat) (w : World) (hx : BytesAt w a n x) (hn : n ≤ 140737488351232) :
    Calls Try.prog 44 #[.slice a n c] w fun e w' => e = .returned (.int .u32 (Crc.sum x n : Int)) ∧ Below w.heap.size w w' := by
  have hz := (zero_of_info Try.infoTab).1
  obtain ⟨Z, hZ⟩ : ∃ Z : Array Value, Z = Array.replicate 256 (.int .u32 0) := ⟨_, rfl⟩
  rw [← hZ] at hz
  have hZs : Z.size = 256 := by rw [hZ]; simp
  clear hZ
  go_enter Try.func44, Try.ntmps44
  go_wp2_with fail
  refine (table_any _).mono ?_
  rintro e w1 ⟨cs, rfl, V, b1⟩
  have hs := V.size
  have hst := run_storeCells_new (P := Try.prog) w1 80 Z cs (by rw [hs]; exact tab_size) (by rw [hZs, hs]) V.one
  go_wp2_with fail
  have HR : Hid ((w1.alloc (.cells cs 80)).rowIs w1.heap.size 80 256 (fun i => .int .u32 (Crc.tab i : Int))) := by
    have := World.rowIs_alloc w1 cs 80 (fun i => .int .u32 (Crc.tab i : Int)) (fun i hi => V.get i (by omega))
    rwa [hs] at this
  have HB : Hid (Below w.heap.size w (w1.alloc (.cells cs 80))) := b1.alloc b1.size _
  clear hst hs hz V b1
  generalize w1.alloc (.cells cs 80) = w2 at *
  have HX : Hid (BytesAt w2 a n x) := hx.below HB.out (Nat.le_refl _)
  clear hx
  go_loopw [4, 10] (fun r i wr => ∃ k : Nat, k ≤ n ∧ i = .int .i64 k ∧ r = .int .u32 (Crc.sum x k : Int) ∧ wr = w2) (fun _ i _ => n - (intOf i).toNat)
  case atStart => exact ⟨0, Nat.zero_le _, rfl, by rw [Crc.sum_zero]; rfl, rfl⟩
  case round =>
    obtain ⟨k, hk, rfl, rfl, rfl⟩ := hrel
    by_cases hlt : k < n
    · obtain ⟨b1, o1, rfl, cx⟩ := HX.out.cells (by omega)
      have c1 := cx k hlt
      have lx := HX.out.lt k hlt
      have i1 : (k : Int) < (n : Int) := by omega
      have lr : Crc.sum x k < 4294967296 := Crc.sum_lt k fun i hi => HX.out.lt i (by omega)
      have HE : Hid (Crc.sum x (k + 1) = (Crc.sum x k * 256 % 4294967296) ^^^ Crc.tab (Crc.sum x k / 16777216 ^^^ x k)) := Crc.sum_tab fun i hi => HX.out.lt i (by omega)
      generalize Crc.sum x k = r at *
      generalize x k = v at *
      have lq : r / 16777216 ^^^ v < 256 := Nat.xor_lt_two_pow (n := 8) (by omega) lx
      have e1 : bits .xor .u8 ((r : Int) / 16777216) (v : Int) = ((r / 16777216 ^^^ v : Nat) : Int) := u8_xor_nat (r / 16777216) v (by omega) lx
      have c2 := HR.out.cell lq
      have lt := Crc.tab_lt _ lq
      generalize r / 16777216 ^^^ v = q at *
      generalize Crc.tab q = t at *
      have e2 : bits .xor .u32 ((r : Int) * 256 % 4294967296) (t : Int) = ((r * 256 % 4294967296 ^^^ t : Nat) : Int) := u32_xor (r * 256 % 4294967296) t (by omega) lt
      clear cx hk
      go_wp2
      go_roundw
      case rel => exact ⟨k + 1, by omega, by go_num, by rw [HE.out], trivial⟩
      case measure => simp [intOf]; omega
    · obtain rfl : k = n := by omega
      clear hlt hk
      go_wp2
      go_ret
      exact ⟨rfl, HB.out⟩
end Go.Proofs.Ytcflaklnafggmaa

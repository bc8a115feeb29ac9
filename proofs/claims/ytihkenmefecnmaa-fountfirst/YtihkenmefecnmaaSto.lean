/-
  Strings of bytes: their sum, a part of them, one byte.
-/
import Derived.Test.YtihkenmefecnmaaMem
import Derived.Laws.Concat
namespace Go.Proofs.Ytihkenmefecnmaa
open Go.RowKit Go.Deep

theorem strOf_size (n : Nat) (x : Nat → Nat) : (strOf n x).size = n := by
  unfold strOf
  rw [strOfNums_size]
  simp
theorem strOf_data (n : Nat) (x : Nat → Nat) : strOf n x = ⟨((List.range n).map fun i => UInt8.ofNat (x i)).toArray⟩ := by
  unfold strOf strOfNums
  congr 1
  simp
theorem strOf_add (n m : Nat) (x y z : Nat → Nat) (h1 : ∀ i, i < n → x i = z i) (h2 : ∀ i, i < m → y i = z (n + i)) : strOf n x ++ strOf m y = strOf (n + m) z := by
  rw [strOf_data, strOf_data, strOf_data, ByteArray.mk_append_mk]
  congr 2
  refine List.ext_getElem? fun i => ?_
  by_cases h : i < n
  · rw [List.getElem?_append_left (by simpa using h)]
    simp [h, show i < n + m by omega, h1 i h]
  · rw [List.getElem?_append_right (by simp; omega)]
    by_cases g : i < n + m
    · have := h2 (i - n) (by omega)
      rw [show n + (i - n) = i by omega] at this
      simp [g, show i - n < m by omega, this]
    · simp [g, show ¬ i - n < m by omega]
theorem strOf_extract (n m : Nat) (x : Nat → Nat) (h : m ≤ n) : (strOf n x).extract 0 m = strOf m x := by
  rw [strOf_data, strOf_data]
  apply ByteArray.ext
  rw [ByteArray.data_extract]
  simp only
  apply Array.ext'
  rw [Array.toList_extract]
  simp [List.take_range, ← List.map_take, Nat.min_eq_left h]
theorem str_to (n m : Nat) (x : Nat → Nat) (w : World) (h : m ≤ n) : (Instr.slice 9 (.string (strOf n x)) none (some (.int .i64 (m : Int))) none).run Try.prog w = .ok (.string (strOf m x)) w := by
  rw [run_slice_string_h (P := Try.prog) w 9 _ Try.underlying9 .i64 (m : Int) (by omega) (by rw [strOf_size]; omega), Int.toNat_natCast, strOf_extract n m x h]
theorem str_at (n i : Nat) (x : Nat → Nat) (w : World) (h : i < n) (hx : x i < 256) : (Instr.index 9 (.string (strOf n x)) (.int .i64 (i : Int))).run Try.prog w = .ok (.int .u8 (x i : Int)) w := by
  have e := run_index_string (P := Try.prog) w 9 (strOf n x) .i64 (i : Int) Try.underlying9
  rw [e, dif_pos ⟨by omega, by rw [strOf_size]; omega⟩]
  congr 3
  have g : (strOf n x)[((i : Int)).toNat]'(by rw [strOf_size]; omega) = UInt8.ofNat (x i) := by
    simp only [strOf_data, ByteArray.getElem_eq_getElem_data, Int.toNat_natCast]
    simp
  rw [g]
  simp
  omega
end Go.Proofs.Ytihkenmefecnmaa

/-
  The library's Sort of a short row of uint32 that rises: 13 to 15 of them.
-/
import Derived.Test.YtclbcggbnbimaaaSrt
namespace Go.Proofs.Ytclbcggbnbimaaa
open Go.RowKit Go.Deep

set_option maxRecDepth 100000 in
set_option maxHeartbeats 1000000 in
theorem order2_any (b o n c i j : Nat) (p : Addr) (x : Nat → Int) (w : World) (hij : i < j) (hj : j < n) (HX : Hid (NumsAt .u32 w (some ⟨b, o, none⟩) n x)) (HS : Hid (∀ i j, i < j → j < n → x i ≤ x j)) :
    Calls Try.prog 48 #[.slice (some ⟨b, o, none⟩) n c, .int .i64 (i : Int), .int .i64 (j : Int), .pointer (some p)] w fun e w' => e = .returned (.tuple #[.int .i64 (i : Int), .int .i64 (j : Int)]) ∧ Same w w' := by
  have c1 : w.cell? ⟨b, o + i, none⟩ = some (.int .u32 (x i)) := nums_cell HX.out i (by omega)
  have c2 : w.cell? ⟨b, o + j, none⟩ = some (.int .u32 (x j)) := nums_cell HX.out j hj
  have e1 : decide (x j < x i) = false := by
    have := HS.out i j hij hj
    simp; omega
  have e3 : ¬ x j < x i := by simpa using e1
  have i1 : (i : Int) < (n : Int) := by omega
  have i2 : (j : Int) < (n : Int) := by omega
  go_enter Try.func48, Try.ntmps48
  go_wp2_with fail
  go_quiet ((go_at_call 37; exact Calls.quiet_of_same (less_any _ _ _)))
  go_wp2
  go_ret2
  exact ⟨rfl, _, rfl⟩
set_option maxRecDepth 100000 in
set_option maxHeartbeats 1000000 in
theorem median_any (b o n c i j k : Nat) (p : Addr) (x : Nat → Int) (w : World) (hij : i < j) (hjk : j < k) (hk : k < n) (HX : Hid (NumsAt .u32 w (some ⟨b, o, none⟩) n x)) (HS : Hid (∀ i j, i < j → j < n → x i ≤ x j)) :
    Calls Try.prog 46 #[.slice (some ⟨b, o, none⟩) n c, .int .i64 (i : Int), .int .i64 (j : Int), .int .i64 (k : Int), .pointer (some p)] w fun e w' => e = .returned (.int .i64 (j : Int)) ∧ Same w w' := by
  go_enter Try.func46, Try.ntmps46
  go_wp2_with fail
  refine (order2_any b o n c i j p x w hij (by omega) HX HS).mono ?_
  rintro e w1 ⟨rfl, s1⟩
  have HX1 : Hid (NumsAt .u32 w1 (some ⟨b, o, none⟩) n x) := HX.out.below (s1.below _) (Nat.le_refl _)
  have S1 : Hid (Same w w1) := s1
  clear s1 HX
  go_wp2_with fail
  refine (order2_any b o n c j k p x w1 hjk hk HX1 HS).mono ?_
  rintro e w2 ⟨rfl, s2⟩
  have HX2 : Hid (NumsAt .u32 w2 (some ⟨b, o, none⟩) n x) := HX1.out.below (s2.below _) (Nat.le_refl _)
  have S2 : Hid (Same w w2) := S1.out.trans s2
  clear s2 HX1 S1
  go_wp2_with fail
  refine (order2_any b o n c i j p x w2 hij (by omega) HX2 HS).mono ?_
  rintro e w3 ⟨rfl, s3⟩
  have S3 : Hid (Same w w3) := S2.out.trans s3
  clear s3 HX2 S2
  go_wp2
  go_ret
  exact ⟨rfl, S3.out⟩
set_option maxRecDepth 100000 in
set_option maxHeartbeats 1000000 in
theorem pivot_any (b o n c : Nat) (x : Nat → Int) (w : World) (h1 : 12 < n) (h2 : n < 16) (HX : Hid (NumsAt .u32 w (some ⟨b, o, none⟩) n x)) (HS : Hid (∀ i j, i < j → j < n → x i ≤ x j)) :
    Calls Try.prog 34 #[.slice (some ⟨b, o, none⟩) n c, .int .i64 0, .int .i64 (n : Int)] w fun e w' => e = .returned (.tuple #[.int .i64 6, .int .i64 1]) ∧ Below w.heap.size w w' := by
  obtain ⟨y, ey⟩ : ∃ y, w.alloc (.cells #[.int .i64 0] 3) = y := ⟨_, rfl⟩
  have B0 : Below w.heap.size w y := ey ▸ box_below w _
  have HB : Hid (Below w.heap.size w y) := B0
  have HX0 : Hid (NumsAt .u32 y (some ⟨b, o, none⟩) n x) := HX.out.grew B0
  have c0 : y.cell? ⟨w.heap.size, 0, none⟩ = some (.int .i64 0) := by rw [← ey, World.cell?_alloc_at _ _ _ _ rfl]; rfl
  have HC : Hid (y.cell? ⟨w.heap.size, 0, none⟩ = some (.int .i64 0)) := c0
  have q4 : (n : Int).tdiv 4 = 3 := by
    rw [Int.tdiv_eq_ediv_of_nonneg (by omega)]
    omega
  have q5 : (n : Int) / 4 = 3 := by omega
  have i1 : (8 : Int) ≤ (n : Int) := by omega
  have i2 : decide ((50 : Int) ≤ (n : Int)) = false := by simp; omega
  clear B0 HX c0
  go_enter Try.func34, Try.ntmps34
  go_wp2_with fail
  refine (median_any b o n c 3 6 9 ⟨w.heap.size, 0, none⟩ x y (by omega) (by omega) (by omega) HX0 HS).mono ?_
  rintro e w4 ⟨rfl, s1⟩
  have S4 : Hid (Same y w4) := s1
  have c0 := (S4.out.cell ⟨w.heap.size, 0, none⟩).trans HC.out
  clear s1 HX0
  go_wp2
  go_ret2
  exact ⟨rfl, HB.out.trans (S4.out.below _)⟩
set_option maxRecDepth 100000 in
set_option maxHeartbeats 1000000 in
theorem partial_any (b o n c : Nat) (x : Nat → Int) (w : World) (h0 : 0 < n) (hn : n ≤ 1000) (HX : Hid (NumsAt .u32 w (some ⟨b, o, none⟩) n x)) (HS : Hid (∀ i j, i < j → j < n → x i ≤ x j)) :
    Calls Try.prog 36 #[.slice (some ⟨b, o, none⟩) n c, .int .i64 0, .int .i64 (n : Int)] w fun e w' => e = .returned (.bool true) ∧ Same w w' := by
  go_enter Try.func36, Try.ntmps36
  go_wp2_with fail
  go_loopw [7, 8] (fun i j wr => i = .int .i64 1 ∧ j = .int .i64 0 ∧ Hid (Same w wr)) (fun _ _ _ => 0)
  case atStart => exact ⟨rfl, rfl, Same.refl _⟩
  case round =>
    obtain ⟨rfl, rfl, hs0⟩ := hrel
    go_wp2_with fail
    generalize wr = wo at *
    go_loopw [7] (fun i wr => ∃ k : Nat, i = .int .i64 k ∧ 1 ≤ k ∧ k ≤ n ∧ Hid (Same w wr)) (fun i _ => n - (intOf i).toNat)
    case atStart => exact ⟨1, rfl, Nat.le_refl _, h0, hs0⟩
    case round =>
      obtain ⟨k, rfl, h1, h2, hs⟩ := hrel
      by_cases hk : k < n
      · have c1 : wr.cell? ⟨b, o + k, none⟩ = some (.int .u32 (x k)) := (hs.out.cell _).trans (nums_cell HX.out k hk)
        have c2 : wr.cell? ⟨b, o + (k - 1), none⟩ = some (.int .u32 (x (k - 1))) := (hs.out.cell _).trans (nums_cell HX.out (k - 1) (by omega))
        have e1 : decide (x k < x (k - 1)) = false := by
          have := HS.out (k - 1) k (by omega) hk
          simp; omega
        obtain ⟨p, hp⟩ : ∃ p : Nat, p = k - 1 := ⟨_, rfl⟩
        have e2 : (k : Int) - 1 = (p : Int) := by omega
        have i2 : (p : Int) < (n : Int) := by omega
        have i3 : 0 < k := by omega
        have i1 : (k : Int) < (n : Int) := by omega
        rw [← hp] at c2 e1
        clear hp
        go_wp2_with fail
        go_quiet ((go_at_call 37; exact Calls.quiet_of_same (less_any _ _ _)))
        go_wp2_with fail
        go_roundw
        case rel => exact ⟨k + 1, by go_num, by omega, by omega, hs.out.trans ⟨_, rfl⟩⟩
        case measure => simp [intOf]; omega
      · obtain rfl : k = n := by omega
        have i1 : decide ((k : Int) < (k : Int)) = false := by simp
        have i2 : ((k : Int) == (k : Int)) = true := by simp
        go_wp2_with fail
        go_quiet ((go_at_call 37; exact Calls.quiet_of_same (less_any _ _ _)))
        go_wp2
        go_ret
        exact ⟨rfl, hs.out.trans ⟨_, rfl⟩⟩
end Go.Proofs.Ytclbcggbnbimaaa

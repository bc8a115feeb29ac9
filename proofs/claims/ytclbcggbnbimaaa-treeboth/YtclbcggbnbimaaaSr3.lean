/-
  The library's Sort of a row of at most 15 uint32 that rises.
-/
import Derived.Test.YtclbcggbnbimaaaSr2
namespace Go.Proofs.Ytclbcggbnbimaaa
open Go.RowKit Go.Deep

theorem ne_of_dec {a b : Int} (h : decide (a ≠ b) = true) : a ≠ b := of_decide_eq_true h
/-- A number of bits. -/
def BitsIs (n : Nat) (w : World) (e : Ending) (w' : World) : Prop := w' = w ∧ ∃ l : Int, e = .returned (.int .i64 l) ∧ (0 < n → l ≠ 0)
set_option maxRecDepth 100000 in
set_option maxHeartbeats 1000000 in
theorem len64_any (n : Nat) (w : World) (hn : n < 16) : Calls Try.prog 41 #[.int .u64 (n : Int)] w (BitsIs n w) := by
  have h : n = 0 ∨ n = 1 ∨ n = 2 ∨ n = 3 ∨ n = 4 ∨ n = 5 ∨ n = 6 ∨ n = 7 ∨ n = 8 ∨ n = 9 ∨ n = 10 ∨ n = 11 ∨ n = 12 ∨ n = 13 ∨ n = 14 ∨ n = 15 := by omega
  rcases h with h | rfl | rfl | rfl | rfl | rfl | rfl | rfl | rfl | rfl | rfl | rfl | rfl | rfl | rfl | rfl
  · subst h
    go_enter Try.func41, Try.ntmps41
    go_wp2
    go_ret
    exact ⟨rfl, _, rfl, fun h => absurd h (by decide)⟩
  all_goals
    go_enter Try.func41, Try.ntmps41
    go_wp2
    go_ret
    exact ⟨rfl, _, rfl, fun _ => ne_of_dec (by kernel_rfl)⟩
set_option maxRecDepth 100000 in
set_option maxHeartbeats 1000000 in
theorem len_any (n : Nat) (w : World) (hn : n < 16) : Calls Try.prog 30 #[.int .u64 (n : Int)] w (BitsIs n w) := by
  go_enter Try.func30, Try.ntmps30
  go_wp2_with fail
  refine (len64_any n _ hn).mono ?_
  rintro e w1 ⟨rfl, l, rfl, hl⟩
  go_wp2
  go_ret
  exact ⟨rfl, l, rfl, hl⟩
set_option maxRecDepth 100000 in
set_option maxHeartbeats 1000000 in
theorem pdq_any (a : Option Addr) (n c : Nat) (l : Int) (x : Nat → Int) (w : World) (hn : n < 16) (hl : 0 < n → l ≠ 0) (HX : Hid (NumsAt .u32 w a n x)) (HS : Hid (∀ i j, i < j → j < n → x i ≤ x j)) :
    Calls Try.prog 29 #[.slice a n c, .int .i64 0, .int .i64 (n : Int), .int .i64 l] w fun e w' => e = .returned (.tuple #[]) ∧ Below w.heap.size w w' := by
  go_enter Try.func29, Try.ntmps29
  go_wp2_with fail
  go_loopw [1, 2, 3, 8, 9] (fun a1 a2 a3 a8 a9 wr => a1 = .int .i64 0 ∧ a2 = .int .i64 (n : Int) ∧ a3 = .int .i64 l ∧ a8 = .bool true ∧ a9 = .bool true ∧ wr = w) (fun _ _ _ _ _ _ => 0)
  case atStart => exact ⟨rfl, rfl, rfl, rfl, rfl, rfl⟩
  case round =>
    obtain ⟨rfl, rfl, rfl, rfl, rfl, rfl⟩ := hrel
    by_cases h12 : n ≤ 12
    · have i1 : (n : Int) ≤ 12 := by omega
      go_wp2_with fail
      refine (insertion_any a n c x wr (by omega) HX (fun j h0 hj => HS.out (j - 1) j (by omega) hj)).mono ?_
      rintro e w1 ⟨rfl, s1⟩
      go_wp2
      exact bodyPost_ret (results_none Try.results29 _ _ _) rfl ⟨rfl, s1.below _⟩
    · have i1 : decide ((n : Int) ≤ 12) = false := by simp; omega
      have i2 : (l == 0) = false := by simpa using hl (by omega)
      obtain ⟨b, o, rfl, -⟩ := HX.out (by omega)
      go_wp2_with fail
      refine (pivot_any b o n c x wr (by omega) hn HX HS).mono ?_
      rintro e w1 ⟨rfl, b1⟩
      have HX1 : Hid (NumsAt .u32 w1 (some ⟨b, o, none⟩) n x) := HX.out.grew b1
      have HB1 : Hid (Below wr.heap.size wr w1) := b1
      clear b1 HX
      go_wp2_with fail
      refine (partial_any b o n c x w1 (by omega) (by omega) HX1 HS).mono ?_
      rintro e w2 ⟨rfl, s2⟩
      have HB2 : Hid (Below wr.heap.size wr w2) := HB1.out.trans (s2.below _)
      clear s2 HX1 HB1
      go_wp2
      exact bodyPost_ret (results_none Try.results29 _ _ _) rfl ⟨rfl, HB2.out⟩
set_option maxRecDepth 100000 in
set_option maxHeartbeats 1000000 in
theorem sort_any (a : Option Addr) (n c : Nat) (x : Nat → Int) (w : World) (hn : n < 16) (HX : Hid (NumsAt .u32 w a n x)) (HS : Hid (∀ i j, i < j → j < n → x i ≤ x j)) :
    Calls Try.prog 27 #[.slice a n c] w fun e w' => e = .returned (.tuple #[]) ∧ Below w.heap.size w w' := by
  go_enter Try.func27, Try.ntmps27
  go_wp2_with fail
  refine (len_any n _ hn).mono ?_
  rintro e w1 ⟨rfl, l, rfl, hl⟩
  have HL : Hid (0 < n → l ≠ 0) := hl
  clear hl
  go_wp2_with fail
  refine (pdq_any a n c l x w1 hn HL.out HX HS).mono ?_
  rintro e w2 ⟨rfl, b2⟩
  go_wp2
  exact bodyPost_end (results_none Try.results27 _ _ _) rfl ⟨rfl, b2⟩
end Go.Proofs.Ytclbcggbnbimaaa

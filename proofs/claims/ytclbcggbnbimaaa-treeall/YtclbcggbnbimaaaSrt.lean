/-
  The library's Sort of a short row of uint32 that rises: it stays as it was.
-/
import Derived.Deep.QuietTactic
import Derived.BigQuiet
import Derived.Test.YtclbcggbnbimaaaUor
namespace Go.Proofs.Ytclbcggbnbimaaa
open Go.RowKit Go.Deep

set_option maxRecDepth 100000 in
theorem isnan_any (x : Int) (w : World) : Calls Try.prog 47 #[.int .u32 x] w fun e w' => e = .returned (.bool false) ∧ w' = w := by
  have h : (x != x) = false := by simp
  go_enter Try.func47, Try.ntmps47
  go_wp2
  go_ret
  exact ⟨rfl, rfl⟩
set_option maxRecDepth 100000 in
theorem less_any (x y : Int) (w : World) : Calls Try.prog 37 #[.int .u32 x, .int .u32 y] w fun e w' => e = .returned (.bool (decide (x < y))) ∧ w' = w := by
  go_enter Try.func37, Try.ntmps37
  go_wp2_with (go_at_call 47; refine (isnan_any _ _).mono ?_; rintro e w1 ⟨rfl, rfl⟩)
  go_ret
  exact ⟨rfl, rfl⟩
set_option maxRecDepth 100000 in
set_option maxHeartbeats 1000000 in
theorem insertion_any (a : Option Addr) (n c : Nat) (x : Nat → Int) (w : World) (hn : n ≤ 1000) (HX : Hid (NumsAt .u32 w a n x)) (HS : Hid (∀ j, 0 < j → j < n → x (j - 1) ≤ x j)) :
    Calls Try.prog 31 #[.slice a n c, .int .i64 0, .int .i64 (n : Int)] w fun e w' => e = .returned (.tuple #[]) ∧ Same w w' := by
  go_enter Try.func31, Try.ntmps31
  go_wp2_with fail
  go_loopw [6] (fun i wr => ∃ k : Nat, i = .int .i64 k ∧ 1 ≤ k ∧ k ≤ n + 1 ∧ Hid (Same w wr)) (fun i _ => n - (intOf i).toNat)
  case atStart => exact ⟨1, rfl, Nat.le_refl _, by omega, Same.refl _⟩
  case round =>
    obtain ⟨k, rfl, h1, h2, hs⟩ := hrel
    by_cases hk : k < n
    · have i1 : (k : Int) < (n : Int) := by omega
      obtain ⟨b, o, rfl, -⟩ := HX.out (by omega)
      go_wp2_with fail
      generalize wr = wo at *
      go_loopw [7] (fun j wr => j = .int .i64 k ∧ wr = wo) (fun _ _ => 0)
      case atStart => exact ⟨rfl, rfl⟩
      case round =>
        obtain ⟨rfl, rfl⟩ := hrel
        have c1 : wr.cell? ⟨b, o + k, none⟩ = some (.int .u32 (x k)) := (hs.out.cell _).trans (nums_cell HX.out k hk)
        have c2 : wr.cell? ⟨b, o + (k - 1), none⟩ = some (.int .u32 (x (k - 1))) := (hs.out.cell _).trans (nums_cell HX.out (k - 1) (by omega))
        have e1 : decide (x k < x (k - 1)) = false := by
          have := HS.out k (by omega) hk
          simp; omega
        obtain ⟨p, hp⟩ : ∃ p : Nat, p = k - 1 := ⟨_, rfl⟩
        have e2 : (k : Int) - 1 = (p : Int) := by omega
        have i2 : (p : Int) < (n : Int) := by omega
        have i3 : 0 < k := by omega
        rw [← hp] at c2 e1
        clear hp
        go_wp2_with fail
        go_quiet ((go_at_call 37; exact Calls.quiet_of_same (less_any _ _ _)))
        go_wp2_with fail
        go_roundw
        case rel => exact ⟨k + 1, by go_num, by omega, by omega, hs.out.trans ⟨_, rfl⟩⟩
        case measure => simp [intOf]; omega
    · have i1 : decide ((k : Int) < (n : Int)) = false := by simp; omega
      go_wp2
      exact bodyPost_end (results_none Try.results31 _ _ _) rfl ⟨rfl, hs.out⟩
end Go.Proofs.Ytclbcggbnbimaaa

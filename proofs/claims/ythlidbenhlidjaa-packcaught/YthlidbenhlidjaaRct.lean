/-
  The document's Count.
-/
import Derived.Test.YthlidbenhlidjaaCnt
namespace Go.Proofs.Ythlidbenhlidjaa
open Go.RowKit Go.Deep

set_option maxRecDepth 100000 in
theorem rcount_yes (n s : Nat) (w : World) (s1 : 1 ≤ s) (s2 : s ≤ 64) (n1 : 1 ≤ n) (n2 : n ≤ 32 * s) :
    Calls Try.prog 24 #[.int .i64 (n : Int), .int .i64 (s : Int)] w fun e w' => e = .returned (.tuple #[.int .i64 (cntOf n s : Int), .bool true]) ∧ w' = w := by
  have i1 : ¬ (s : Int) < 1 := by omega
  have i2 : ¬ 64 < (s : Int) := by omega
  have i3 : ¬ (n : Int) < 1 := by omega
  have i4 : ¬ 32 * (s : Int) < (n : Int) := by omega
  go_enter Try.func24, Try.ntmps24
  go_wp2
  go_ret2
  exact ⟨by show Ending.returned (.tuple #[.int .i64 (((n : Int) + (s : Int) - 1) / (s : Int)), .bool true]) = _; rw [cntOf_cast n s s1], rfl⟩

set_option maxRecDepth 100000 in
theorem rcount_no (n s : Int) (w : World) (h : ¬ (1 ≤ s ∧ s ≤ 64 ∧ 1 ≤ n ∧ n ≤ 32 * s)) :
    Calls Try.prog 24 #[.int .i64 n, .int .i64 s] w fun e w' => e = .returned (.tuple #[.int .i64 0, .bool false]) ∧ w' = w := by
  go_enter Try.func24, Try.ntmps24
  go_wp2
  all_goals first | (go_ret2; exact ⟨rfl, rfl⟩) | (exfalso; simp_all; omega)
end Go.Proofs.Ythlidbenhlidjaa

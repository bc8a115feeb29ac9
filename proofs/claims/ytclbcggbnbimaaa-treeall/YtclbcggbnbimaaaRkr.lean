/-
  The document's Rank, Worse.
-/
import Derived.Test.YtclbcggbnbimaaaRnk
import Derived.Test.YtclbcggbnbimaaaFrf
namespace Go.Proofs.Ytclbcggbnbimaaa
open Go.RowKit Go.Deep

set_option maxRecDepth 100000 in
set_option maxHeartbeats 1000000 in
theorem rin_any (a : Option Addr) (n c : Nat) (x : Nat → Int) (v : Int) (w : World) (hn : n ≤ 1000) (hx : Hid (NumsAt .u32 w a n x)) :
    Calls Try.prog 23 #[.slice a n c, .int .u32 v] w (Tells w (∃ j, j < n ∧ x j = v)) := by
  go_enter Try.func23, Try.ntmps23
  go_wp2_with fail
  go_loopw [5] (fun i wr => ∃ k : Nat, k ≤ n ∧ i = .int .i64 k ∧ Hid (∀ j, j < k → x j ≠ v) ∧ wr = w) (fun i _ => n - (intOf i).toNat)
  case atStart => exact ⟨0, Nat.zero_le _, rfl, fun j hj => absurd hj (by omega), rfl⟩
  case round =>
    obtain ⟨k, hk, rfl, hl, rfl⟩ := hrel
    by_cases hkn : k < n
    · obtain ⟨b, o, rfl, hc⟩ := hx.out (by omega)
      have c1 := hc k hkn
      have i1 : (k : Int) < (n : Int) := by omega
      clear hc
      by_cases hv : x k = v
      · have HF : Hid (∃ j, j < n ∧ x j = v) := ⟨k, hkn, hv⟩
        clear hl
        rw [hv] at c1
        clear hv
        go_wp2
        go_ret
        exact ⟨Below.refl _ _, true, rfl, iff_of_true rfl HF.out⟩
      · have HL : Hid (∀ j, j < k + 1 → x j ≠ v) := fun j hj => by
          by_cases e : j = k
          · subst e; exact hv
          · exact hl.out j (by omega)
        have e1 : (x k == v) = false := by simpa using hv
        clear hl hv
        generalize x k = y at *
        go_wp2_with fail
        go_roundw
        case rel => exact ⟨k + 1, by omega, by go_num, HL, trivial⟩
        case measure => simp [intOf]; omega
    · have hke : k = n := by omega
      subst hke
      have HF : Hid (¬ ∃ j, j < k ∧ x j = v) := fun ⟨j, h1, h2⟩ => hl.out j h1 h2
      clear hl
      have i1 : decide ((k : Int) < (k : Int)) = false := by simp
      go_wp2
      go_ret
      exact ⟨Below.refl _ _, false, rfl, iff_of_false (by decide) HF.out⟩

end Go.Proofs.Ytclbcggbnbimaaa

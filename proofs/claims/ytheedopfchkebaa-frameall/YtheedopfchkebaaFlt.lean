/-
  Law 12's Light.
-/
import Derived.Test.YtheedopfchkebaaFrm
namespace Go.Proofs.Ytheedopfchkebaa
open Go.RowKit Go.Deep

/-- Light's answer: what it says yes to are thirty at most. -/
def LightIs (m : Nat) (w : World) (e : Ending) (w' : World) : Prop := w' = w ∧ ∃ b : Bool, e = .returned (.bool b) ∧ (b = true → m ≤ 30)
set_option maxRecDepth 100000 in
set_option maxHeartbeats 400000 in
theorem light_any (a : Option Addr) (m c : Nat) (K : Nat → Fr) (w : World) (hm : m ≤ maxLen) (HK : Hid (FrsAt w a m K)) :
    Calls Try.prog 9 #[.slice a m c] w (LightIs m w) := by
  unfold maxLen at hm
  go_enter Try.func9, Try.ntmps9
  go_wp2_with fail
  go_loopw [3] (fun i wr => ∃ k : Nat, k ≤ m ∧ i = .int .i64 k ∧ wr = w) (fun i _ => m - (intOf i).toNat)
  case atStart => exact ⟨0, Nat.zero_le _, rfl, rfl⟩
  case round =>
    obtain ⟨k, hk, rfl, rfl⟩ := hrel
    by_cases hkn : k < m
    · obtain ⟨b, o, rfl⟩ := HK.out.addr (by omega)
      obtain ⟨-, -, q2, -⟩ := HK.out.at k hkn
      have i1 : (k : Int) < (m : Int) := by omega
      by_cases h8 : 8 < (K k).n
      · have i2 : (8 : Int) < ((K k).n : Int) := by omega
        go_wp2
        go_ret
        exact ⟨rfl, false, rfl, fun h => absurd h (by decide)⟩
      · have i2 : decide ((8 : Int) < ((K k).n : Int)) = false := by simp; omega
        go_wp2_with fail
        go_roundw
        case rel => exact ⟨k + 1, by omega, by go_num, trivial⟩
        case measure => simp [intOf]; omega
    · have hke : k = m := by omega
      subst hke
      go_wp2
      go_ret
      exact ⟨rfl, _, rfl, fun h => by simp at h; omega⟩
end Go.Proofs.Ytheedopfchkebaa

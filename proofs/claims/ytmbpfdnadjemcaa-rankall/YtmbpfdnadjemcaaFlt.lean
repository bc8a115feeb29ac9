/-
  Law 12's Light.
-/
import Derived.Test.YtmbpfdnadjemcaaFrm
namespace Go.Proofs.Ytmbpfdnadjemcaa
open Go.RowKit Go.Deep

/-- Light's answer: what it says yes to are thirty at most. -/
def LightIs (m : Nat) (w : World) (e : Ending) (w' : World) : Prop := w' = w ∧ ∃ b : Bool, e = .returned (.bool b) ∧ (b = true → m ≤ 30)
/-- The same, and what each of them hangs on: eight at most. -/
def LightK (m : Nat) (K : Nat → Fr) (w : World) (e : Ending) (w' : World) : Prop := w' = w ∧ ∃ b : Bool, e = .returned (.bool b) ∧ (b = true → m ≤ 30 ∧ ∀ i, i < m → (K i).n ≤ 8)
set_option maxRecDepth 100000 in
set_option maxHeartbeats 400000 in
theorem light_few (a : Option Addr) (m c : Nat) (K : Nat → Fr) (w : World) (hm : m ≤ maxLen) (HK : Hid (FrsAt w a m K)) :
    Calls Try.prog 15 #[.slice a m c] w (LightK m K w) := by
  unfold maxLen at hm
  go_enter Try.func15, Try.ntmps15
  go_wp2_with fail
  go_loopw [3] (fun i wr => ∃ k : Nat, k ≤ m ∧ i = .int .i64 k ∧ wr = w ∧ Hid (∀ j, j < k → (K j).n ≤ 8)) (fun i _ => m - (intOf i).toNat)
  case atStart => exact ⟨0, Nat.zero_le _, rfl, rfl, fun j hj => absurd hj (by omega)⟩
  case round =>
    obtain ⟨k, hk, rfl, rfl, hl⟩ := hrel
    by_cases hkn : k < m
    · obtain ⟨b, o, rfl⟩ := HK.out.addr (by omega)
      obtain ⟨-, -, q2, -⟩ := HK.out.at k hkn
      have i1 : (k : Int) < (m : Int) := by omega
      by_cases h8 : 8 < (K k).n
      · have i2 : (8 : Int) < ((K k).n : Int) := by omega
        go_wp2
        go_ret
        exact ⟨rfl, false, rfl, fun h => absurd h (by decide)⟩
      · have i2 : decide ((8 : Int) < ((K k).n : Int)) = false := by simp; omega
        have HL : Hid (∀ j, j < k + 1 → (K j).n ≤ 8) := fun j hj => by
          by_cases e : j = k
          · subst e; omega
          · exact hl.out j (by omega)
        go_wp2_with fail
        go_roundw
        case rel => exact ⟨k + 1, by omega, by go_num, trivial, HL⟩
        case measure => simp [intOf]; omega
    · have hke : k = m := by omega
      subst hke
      go_wp2
      go_ret
      exact ⟨rfl, _, rfl, fun h => ⟨by simp at h; omega, hl.out⟩⟩
theorem light_any (a : Option Addr) (m c : Nat) (K : Nat → Fr) (w : World) (hm : m ≤ maxLen) (HK : Hid (FrsAt w a m K)) :
    Calls Try.prog 15 #[.slice a m c] w (LightIs m w) :=
  (light_few a m c K w hm HK).mono fun _ _ ⟨h, b, e, hb⟩ => ⟨h, b, e, fun x => (hb x).1⟩
end Go.Proofs.Ytmbpfdnadjemcaa

/-
  Package head: what its panics are, which bodies may be, a number put behind bytes.
-/
import Derived.Test.YtcflaklnafggmaaDat
namespace Go.Proofs.Ytcflaklnafggmaa
open Go.RowKit Go.Deep

/-- What package head panics with. -/
def hnoted : List PanicEntry := [{ v := .iface 96 (.agg #[]), recovered := false }]

theorem hdemand_yes (b : Bool) (w : World) (h : b = true) :
    Calls Try.prog 67 #[.bool b] w fun e w' => e = .returned (.tuple #[]) ∧ w' = w := by
  subst h
  go_enter Try.func67, Try.ntmps67
  go_wp2
  go_end0
  exact ⟨rfl, rfl⟩

theorem hdemand_no (b : Bool) (w : World) (h : b = false) :
    Calls Try.prog 67 #[.bool b] w fun e w' => e = .panicked hnoted ∧ w' = w := by
  subst h
  go_enter Try.func67, Try.ntmps67
  go_wp2
  exact ⟨rfl, rfl, rfl⟩

theorem hfits_any (a : Option Addr) (n c : Nat) (w : World) :
    Calls Try.prog 55 #[.slice a n c] w fun e w' => e = .returned (.bool (fitB n)) ∧ w' = w := by
  by_cases h1 : 1 ≤ n
  · by_cases h2 : n ≤ 64
    · have e : fitB n = true := decide_eq_true ⟨h1, h2⟩
      have i1 : 1 ≤ (n : Int) := by omega
      have i2 : (n : Int) ≤ 64 := by omega
      rw [e]
      go_enter Try.func55, Try.ntmps55
      go_wp2
      go_ret
      exact ⟨rfl, rfl⟩
    · have e : fitB n = false := decide_eq_false (fun h => h2 h.2)
      have i1 : 1 ≤ (n : Int) := by omega
      have i2 : ¬ ((n : Int) ≤ 64) := by omega
      rw [e]
      go_enter Try.func55, Try.ntmps55
      go_wp2
      go_ret
      exact ⟨rfl, rfl⟩
  · have e : fitB n = false := decide_eq_false (fun h => h1 h.1)
    obtain rfl : n = 0 := by omega
    rw [e]
    go_enter Try.func55, Try.ntmps55
    go_wp2
    go_ret
    exact ⟨rfl, rfl⟩

theorem hwrite_0 {x d : Nat} (h : d = x / 256 ^ 0 % 256) : (x : Int) % 256 = (d : Int) := by rw [h]; simp
theorem hwrite_1 {x d : Nat} (h : d = x / 256 ^ 1 % 256) : (x : Int) / 256 % 256 = (d : Int) := by rw [h]; simp
theorem hwrite_2 {x d : Nat} (h : d = x / 256 ^ 2 % 256) : (x : Int) / 65536 % 256 = (d : Int) := by rw [h]; simp
theorem hwrite_3 {x d : Nat} (h : d = x / 256 ^ 3 % 256) (lx : x < 4294967296) : (x : Int) / 16777216 = (d : Int) := by rw [h]; simp; omega

set_option maxRecDepth 100000 in
set_option maxHeartbeats 400000 in
theorem hwrite_any (v : Value) (k n base x : Nat) (z : Nat → Nat) (w : World) (h : Ror w base v k z) (hb : base ≤ w.heap.size) (hk : k ≤ 1000) (hn : n ≤ 4) (lx : x < 4294967296) :
    Calls Try.prog 56 #[v, .int .u32 (x : Int), .int .i64 (n : Int)] w fun e w' => ∃ v', e = .returned v' ∧ Ror w' base v' (k + n) (cat z (high x n) k) ∧ Below base w w' := by
  go_enter Try.func56, Try.ntmps56
  go_wp2_with fail
  go_loopw [0, 7] (fun b i wr => ∃ (j : Nat) (t : Int), j ≤ n ∧ t = (n : Int) - 1 - (j : Int) ∧ i = .int .i64 t ∧ Ror wr base b (k + j) (cat z (high x n) k) ∧ Below base w wr) (fun _ i _ => (intOf i + 1).toNat)
  case atStart => exact ⟨0, _, Nat.zero_le _, by omega, rfl, h.congr fun i hi => by unfold cat; rw [if_pos hi], Below.refl _ _⟩
  case round =>
    clear h
    obtain ⟨j, t, hj, ht, rfl, R, hB⟩ := hrel
    by_cases hlt : j < n
    · obtain ⟨m, hm⟩ : ∃ m, m = n - 1 - j := ⟨_, rfl⟩
      obtain rfl : t = (m : Int) := by omega
      have HM : Hid (m = n - 1 - j) := hm
      have m4 : m < 4 := by omega
      obtain ⟨d, hd⟩ : ∃ d, d = x / 256 ^ m % 256 := ⟨_, rfl⟩
      have ld : d < 256 := by rw [hd]; exact Nat.mod_lt _ (by decide)
      have B1 := one_byte wr d 5 ld
      have b1 : Below wr.heap.size wr (wr.alloc (.cells #[.int .u8 (d : Int)] 5)) := (Below.refl _ _).alloc (Nat.le_refl _) _
      obtain ⟨v2, w2, happ, R2, g2⟩ := (R.grown b1).push (c := 1) (z := cat z (high x n) k) 24 B1 (by omega) (Nat.le_trans hb (Nat.le_trans hB.size b1.size)) (fun _ _ => rfl) (fun i hi => by
        obtain rfl : i = 0 := by omega
        unfold cat high
        rw [if_neg (by omega), Nat.add_zero, Nat.add_sub_cancel_left, ← hm, hd])
      have HA : Hid (Ror w2 base v2 (k + (j + 1)) (cat z (high x n) k) ∧ Below base w w2) := ⟨R2, grown_below (R.grown b1) g2 (hB.trans (b1.mono (Nat.le_trans hb hB.size))) (Nat.le_trans hb (Nat.le_trans hB.size b1.size))⟩
      clear ht hm R hB B1 b1 R2 g2 hj hb
      match m, m4 with
      | 0, _ =>
        have e := hwrite_0 hd
        clear hd
        go_wp2_with (at_builtin; refine Go.Lib.wpList_append_run _ rfl (.tmp 14) (.tmp 20) 24 24 rfl _ _ rfl rfl _ _ happ ?_)
        go_roundw
        case rel => exact ⟨j + 1, _, by omega, by have := HM.out; go_num, rfl, HA.out⟩
        case measure => simp [intOf]
      | 1, _ =>
        have e := hwrite_1 hd
        clear hd
        go_wp2_with (at_builtin; refine Go.Lib.wpList_append_run _ rfl (.tmp 14) (.tmp 20) 24 24 rfl _ _ rfl rfl _ _ happ ?_)
        go_roundw
        case rel => exact ⟨j + 1, _, by omega, by have := HM.out; go_num, rfl, HA.out⟩
        case measure => simp [intOf]
      | 2, _ =>
        have e := hwrite_2 hd
        clear hd
        go_wp2_with (at_builtin; refine Go.Lib.wpList_append_run _ rfl (.tmp 14) (.tmp 20) 24 24 rfl _ _ rfl rfl _ _ happ ?_)
        go_roundw
        case rel => exact ⟨j + 1, _, by omega, by have := HM.out; go_num, rfl, HA.out⟩
        case measure => simp [intOf]
      | 3, _ =>
        have e := hwrite_3 hd lx
        clear hd
        go_wp2_with (at_builtin; refine Go.Lib.wpList_append_run _ rfl (.tmp 14) (.tmp 20) 24 24 rfl _ _ rfl rfl _ _ happ ?_)
        go_roundw
        case rel => exact ⟨j + 1, _, by omega, by have := HM.out; go_num, rfl, HA.out⟩
        case measure => simp [intOf]
    · obtain rfl : j = n := by omega
      obtain rfl : t = -1 := by omega
      have HR : Hid (Ror wr base u0 (k + j) (cat z (high x j) k) ∧ Below base w wr) := ⟨R, hB⟩
      clear R hB hlt hj ht
      go_wp2
      go_ret
      exact ⟨_, rfl, HR.out⟩
end Go.Proofs.Ytcflaklnafggmaa

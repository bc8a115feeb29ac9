/-
  Package need: how much more is sent as a plain function of three integers, and that Count answers it.
-/
import Derived.Test.YtjpjpcjickafjaaMem
namespace Go.Proofs.Ytjpjpcjickafjaa
open Go.RowKit Go.Deep

namespace Nd
/-- a over b, rounded up. -/
def up (a b : Int) : Int := (a + b - 1) / b
/-- How many more make up for what is lost. -/
def part (k l : Int) : Int := up (min k 32 * l) (65536 - l)
/-- How many more make up for a row. -/
def row (b : Int) : Int := up (min (max b 0) 1024) 16
/-- How many more. -/
def count (k l b : Int) : Int := if k ≤ 0 ∨ l ≤ 0 then 0 else if 65536 ≤ l then 64 else min (part k l + row b) 64
theorem up_nonneg {a b : Int} (ha : 0 ≤ a) (hb : 0 < b) : 0 ≤ up a b := Int.ediv_nonneg (by omega) (by omega)
theorem up_le {a b : Int} (ha : 0 ≤ a) (hb : 0 < b) : up a b ≤ a + b - 1 := Int.ediv_le_self _ (by omega)
/-- It is the least one that is enough. -/
theorem up_iff {a b r : Int} (hb : 0 < b) : up a b ≤ r ↔ a ≤ r * b := by
  unfold up
  constructor
  · intro h
    have h1 := Int.lt_ediv_add_one_mul_self (a + b - 1) hb
    have h2 := Int.mul_le_mul_of_nonneg_right (Int.add_le_add_right h 1) (Int.le_of_lt hb)
    rw [Int.add_mul r 1 b] at h2
    omega
  · intro h
    have : (a + b - 1) / b < r + 1 := Int.ediv_lt_of_lt_mul hb (by rw [Int.add_mul]; omega)
    omega
theorem cap_range {k l : Int} (hk : 0 < k) (h0 : 0 < l) (h1 : l < 65536) : 0 ≤ min k 32 * l ∧ min k 32 * l ≤ 2097152 := by
  have a : 0 ≤ min k 32 := by omega
  have b : min k 32 ≤ 32 := by omega
  refine ⟨Int.mul_nonneg a (by omega), ?_⟩
  have := Int.mul_le_mul b (Int.le_of_lt h1) (by omega) (by omega)
  omega
theorem part_range {k l : Int} (hk : 0 < k) (h0 : 0 < l) (h1 : l < 65536) : 0 ≤ part k l ∧ part k l ≤ 2162687 := by
  obtain ⟨a, b⟩ := cap_range hk h0 h1
  have c := up_le a (show 0 < 65536 - l by omega)
  exact ⟨up_nonneg a (by omega), by unfold part; omega⟩
theorem row_range (b : Int) : 0 ≤ row b ∧ row b ≤ 64 := by
  unfold row up
  omega
theorem count_none {k l b : Int} (h : k ≤ 0 ∨ l ≤ 0) : count k l b = 0 := if_pos h
theorem count_all {k l b : Int} (hk : 0 < k) (h : 65536 ≤ l) : count k l b = 64 := by
  unfold count
  rw [if_neg (by omega), if_pos h]
theorem count_some {k l b : Int} (hk : 0 < k) (h0 : 0 < l) (h1 : l < 65536) : count k l b = min (part k l + row b) 64 := by
  unfold count
  rw [if_neg (by omega), if_neg (by omega)]
theorem count_range (k l b : Int) : 0 ≤ count k l b ∧ count k l b ≤ 64 := by
  by_cases h : k ≤ 0 ∨ l ≤ 0
  · rw [count_none h]; omega
  · by_cases h1 : 65536 ≤ l
    · rw [count_all (by omega) h1]; omega
    · rw [count_some (by omega) (by omega) (by omega)]
      have := part_range (k := k) (l := l) (by omega) (by omega) (by omega)
      have := row_range b
      omega
end Nd

theorem w64 (x : Int) (h1 : -9223372036854775808 ≤ x) (h2 : x < 9223372036854775808) : IntKind.i64.wrap x = x := by
  simp only [IntKind.wrap, IntKind.bits, IntKind.signed]; simp; omega
theorem up_run {a b : Int} (ha : 0 ≤ a) (ha' : a ≤ 2097152) (hb : 0 < b) (hb' : b ≤ 65536) :
    ∃ A B Q : Int, Nd.up a b = Q ∧ a + b = A ∧ IntKind.i64.wrap A = A ∧ A - 1 = B ∧ IntKind.i64.wrap B = B ∧ B.tdiv b = Q ∧ B / b = Q ∧ IntKind.i64.wrap Q = Q ∧ wrap64 A = A ∧ wrap64 B = B ∧ wrap64 Q = Q ∧ ¬ b = 0 ∧ (b == 0) = false := by
  have h1 := Nd.up_nonneg ha hb
  have h2 := Nd.up_le ha hb
  refine ⟨_, _, _, rfl, rfl, w64 _ (by omega) (by omega), rfl, w64 _ (by omega) (by omega), ?_, rfl, w64 _ (by omega) (by omega), by unfold wrap64; omega, by unfold wrap64; omega, by unfold wrap64; omega, by omega, by simp; omega⟩
  rw [Int.tdiv_eq_ediv_of_nonneg (by omega)]; rfl
theorem min_run (ts : Array TypeId) (t : TypeId) (a b m : Int) (w : World) (h : min a b = m) : (Builtin.min_ ts t #[.int .i64 a, .int .i64 b]).run Try.prog w = .ok (.int .i64 m) w := by
  subst h
  simp [Builtin.min_, Builtin.min2]
  split <;> omega
theorem max_run (ts : Array TypeId) (t : TypeId) (a b m : Int) (w : World) (h : max a b = m) : (Builtin.max_ ts t #[.int .i64 a, .int .i64 b]).run Try.prog w = .ok (.int .i64 m) w := by
  subst h
  simp [Builtin.max_, Builtin.max2]
  split <;> omega

set_option maxRecDepth 100000 in
set_option maxHeartbeats 400000 in
theorem up_any (a b : Int) (w : World) (ha : 0 ≤ a) (ha' : a ≤ 2097152) (hb : 0 < b) (hb' : b ≤ 65536) :
    Calls Try.prog 11 #[.int .i64 a, .int .i64 b] w fun e w' => e = .returned (.int .i64 (Nd.up a b)) ∧ w' = w := by
  obtain ⟨A, B, Q, hQ, e1, e2, e3, e4, e5, e6, e7, -, -, -, e8, e9⟩ := up_run ha ha' hb hb'
  rw [hQ]
  clear hQ ha ha' hb hb'
  go_enter Try.func11, Try.ntmps11
  go_wp2
  go_ret
  exact ⟨rfl, rfl⟩

set_option maxRecDepth 100000 in
set_option maxHeartbeats 400000 in
theorem part_any (k l : Int) (w : World) (hk : 0 < k) (h0 : 0 < l) (h1 : l < 65536) :
    Calls Try.prog 9 #[.int .i64 k, .int .i64 l] w fun e w' => e = .returned (.int .i64 (Nd.part k l)) ∧ w' = w := by
  obtain ⟨c1, c2⟩ := Nd.cap_range hk h0 h1
  obtain ⟨K, hK⟩ : ∃ K, min k 32 = K := ⟨_, rfl⟩
  obtain ⟨P, hP⟩ : ∃ P, K * l = P := ⟨_, rfl⟩
  obtain ⟨S, hS⟩ : ∃ S, 65536 - l = S := ⟨_, rfl⟩
  have r1 := fun ts ty W => min_run ts ty k 32 K W hK
  have hU : ∀ W, Hid (Calls Try.prog 11 #[.int .i64 P, .int .i64 S] W fun e w' => e = .returned (.int .i64 (Nd.part k l)) ∧ w' = W) := fun W => by
    have := up_any P S W (by rw [← hP, ← hK]; exact c1) (by rw [← hP, ← hK]; exact c2) (by omega) (by omega)
    unfold Nd.part
    rw [hK, hP, hS]
    exact this
  rw [hK, hP] at c1 c2
  have e1 : IntKind.i64.wrap P = P := w64 _ (by omega) (by omega)
  have e2 : IntKind.i64.wrap S = S := w64 _ (by omega) (by omega)
  clear hK c1 c2 hk h0 h1
  go_enter Try.func9, Try.ntmps9
  go_wp2_with fail
  refine ((hU _).out).mono ?_
  rintro e w1 ⟨rfl, rfl⟩
  go_wp2
  go_ret
  exact ⟨rfl, rfl⟩

set_option maxRecDepth 100000 in
set_option maxHeartbeats 400000 in
theorem row_any (b : Int) (w : World) :
    Calls Try.prog 10 #[.int .i64 b] w fun e w' => e = .returned (.int .i64 (Nd.row b)) ∧ w' = w := by
  obtain ⟨K, hK⟩ : ∃ K, max b 0 = K := ⟨_, rfl⟩
  obtain ⟨P, hP⟩ : ∃ P, min K 1024 = P := ⟨_, rfl⟩
  have r1 := fun ts ty W => max_run ts ty b 0 K W hK
  have r2 := fun ts ty W => min_run ts ty K 1024 P W hP
  have hU : ∀ W, Hid (Calls Try.prog 11 #[.int .i64 P, .int .i64 16] W fun e w' => e = .returned (.int .i64 (Nd.row b)) ∧ w' = W) := fun W => by
    have := up_any P 16 W (by omega) (by omega) (by omega) (by omega)
    unfold Nd.row
    rw [hK, hP]
    exact this
  clear hK hP
  go_enter Try.func10, Try.ntmps10
  go_wp2_with fail
  refine ((hU _).out).mono ?_
  rintro e w1 ⟨rfl, rfl⟩
  go_wp2
  go_ret
  exact ⟨rfl, rfl⟩

set_option maxRecDepth 100000 in
set_option maxHeartbeats 400000 in
theorem need_any (k l b : Int) (w : World) :
    Calls Try.prog 7 #[.int .i64 k, .int .i64 l, .int .i64 b] w fun e w' => e = .returned (.int .i64 (Nd.count k l b)) ∧ w' = w := by
  by_cases hk : k ≤ 0
  · rw [Nd.count_none (.inl hk)]
    go_enter Try.func7, Try.ntmps7
    go_wp2
    go_ret
    exact ⟨rfl, rfl⟩
  · have i1 : decide (k ≤ 0) = false := decide_eq_false hk
    by_cases hl : l ≤ 0
    · rw [Nd.count_none (.inr hl)]
      clear hk
      go_enter Try.func7, Try.ntmps7
      go_wp2
      go_ret
      exact ⟨rfl, rfl⟩
    · have i2 : decide (l ≤ 0) = false := decide_eq_false hl
      by_cases ho : 65536 ≤ l
      · rw [Nd.count_all (by omega) ho]
        clear hk hl
        go_enter Try.func7, Try.ntmps7
        go_wp2
        go_ret
        exact ⟨rfl, rfl⟩
      · have i3 : decide (65536 ≤ l) = false := decide_eq_false ho
        rw [Nd.count_some (by omega) (by omega) (by omega)]
        have hP : ∀ W, Hid (Calls Try.prog 9 #[.int .i64 k, .int .i64 l] W fun e w' => e = .returned (.int .i64 (Nd.part k l)) ∧ w' = W) := fun W => part_any k l W (by omega) (by omega) (by omega)
        obtain ⟨p1, p2⟩ := Nd.part_range (k := k) (l := l) (by omega) (by omega) (by omega)
        obtain ⟨q1, q2⟩ := Nd.row_range b
        have hR : ∀ W, Hid (Calls Try.prog 10 #[.int .i64 b] W fun e w' => e = .returned (.int .i64 (Nd.row b)) ∧ w' = W) := fun W => row_any b W
        generalize Nd.part k l = P at *
        generalize Nd.row b = Q at *
        obtain ⟨S, hS⟩ : ∃ S, P + Q = S := ⟨_, rfl⟩
        obtain ⟨M, hM⟩ : ∃ M, min S 64 = M := ⟨_, rfl⟩
        have r1 := fun ts ty W => min_run ts ty S 64 M W hM
        have e1 : IntKind.i64.wrap S = S := w64 _ (by omega) (by omega)
        rw [hS, hM]
        clear hk hl ho hM p1 p2 q1 q2
        go_enter Try.func7, Try.ntmps7
        go_wp2_with fail
        refine ((hP _).out).mono ?_
        rintro e w1 ⟨rfl, rfl⟩
        go_wp2_with fail
        refine ((hR _).out).mono ?_
        rintro e w1 ⟨rfl, rfl⟩
        go_wp2
        go_ret
        exact ⟨rfl, rfl⟩
end Go.Proofs.Ytjpjpcjickafjaa

/-
  That the document's Need answers the same plain function of three integers.
-/
import Derived.Test.YtjpjpcjickafjaaNd0
namespace Go.Proofs.Ytjpjpcjickafjaa
open Go.RowKit Go.Deep

/-- What the document's division comes to. -/
theorem rpart_run {k l : Int} (hk : 0 < k) (h0 : 0 < l) (h1 : l < 65536) :
    ∃ K P A B C S Q : Int, Nd.part k l = Q ∧ 0 ≤ Q ∧ Q ≤ 2162687 ∧ min k 32 = K ∧ K * l = P ∧ IntKind.i64.wrap P = P ∧ P + 65536 = A ∧ IntKind.i64.wrap A = A ∧ A - l = B ∧ IntKind.i64.wrap B = B ∧ B - 1 = C ∧ IntKind.i64.wrap C = C ∧ 65536 - l = S ∧ IntKind.i64.wrap S = S ∧ C.tdiv S = Q ∧ C / S = Q ∧ IntKind.i64.wrap Q = Q ∧ ¬ S = 0 ∧ (S == 0) = false := by
  obtain ⟨c1, c2⟩ := Nd.cap_range hk h0 h1
  obtain ⟨q1, q2⟩ := Nd.part_range hk h0 h1
  have hQ : (min k 32 * l + 65536 - l - 1) / (65536 - l) = Nd.part k l := by
    unfold Nd.part Nd.up
    rw [show min k 32 * l + (65536 - l) - 1 = min k 32 * l + 65536 - l - 1 by omega]
  refine ⟨_, _, _, _, _, _, _, rfl, q1, q2, rfl, rfl, w64 _ (by omega) (by omega), rfl, w64 _ (by omega) (by omega), rfl, w64 _ (by omega) (by omega), rfl, w64 _ (by omega) (by omega), rfl, w64 _ (by omega) (by omega), ?_, hQ, w64 _ (by omega) (by omega), by omega, by simp; omega⟩
  rw [Int.tdiv_eq_ediv_of_nonneg (by omega)]; exact hQ
/-- What the document's row comes to: whole sixteenths, and what is left of it. -/
theorem rrow_run {b Q : Int} (hb : 0 < b) (hb' : b < 9223372036854775808) (hq : 0 ≤ Q) (hq' : Q ≤ 2162687) :
    ∃ C M E A : Int, b.tdiv 16 = C ∧ b / 16 = C ∧ IntKind.i64.wrap C = C ∧ min C 64 = M ∧ b.tmod 16 = E ∧ b % 16 = E ∧ IntKind.i64.wrap E = E ∧ Q + M = A ∧ IntKind.i64.wrap A = A ∧ IntKind.i64.wrap (A + 1) = A + 1 ∧ (0 < E ∧ min (A + 1) 64 = min (Q + Nd.row b) 64 ∨ decide (0 < E) = false ∧ min A 64 = min (Q + Nd.row b) 64) := by
  have t1 : b.tdiv 16 = b / 16 := Int.tdiv_eq_ediv_of_nonneg (by omega)
  have t2 : b.tmod 16 = b % 16 := Int.tmod_eq_emod_of_nonneg (by omega)
  refine ⟨_, _, _, _, t1, rfl, w64 _ (by omega) (by omega), rfl, t2, rfl, w64 _ (by omega) (by omega), rfl, w64 _ (by omega) (by omega), w64 _ (by omega) (by omega), ?_⟩
  unfold Nd.row Nd.up
  by_cases h : 0 < b % 16
  · exact .inl ⟨h, by omega⟩
  · exact .inr ⟨decide_eq_false h, by omega⟩
theorem rrow_none {b : Int} (hb : ¬ 0 < b) : Nd.row b = 0 := by
  unfold Nd.row Nd.up
  omega

set_option maxRecDepth 100000 in
set_option maxHeartbeats 1000000 in
theorem rneed_any (k l b : Int) (w : World) (hb : b < 9223372036854775808) :
    Calls Try.prog 8 #[.int .i64 k, .int .i64 l, .int .i64 b] w fun e w' => e = .returned (.int .i64 (Nd.count k l b)) ∧ w' = w := by
  by_cases hk : k ≤ 0
  · rw [Nd.count_none (.inl hk)]
    clear hb
    go_enter Try.func8, Try.ntmps8
    go_wp2
    go_ret
    exact ⟨rfl, rfl⟩
  · have i1 : decide (k ≤ 0) = false := decide_eq_false hk
    by_cases hl : l ≤ 0
    · rw [Nd.count_none (.inr hl)]
      clear hk hb
      go_enter Try.func8, Try.ntmps8
      go_wp2
      go_ret
      exact ⟨rfl, rfl⟩
    · have i2 : decide (l ≤ 0) = false := decide_eq_false hl
      by_cases ho : 65536 ≤ l
      · rw [Nd.count_all (by omega) ho]
        clear hk hl hb
        go_enter Try.func8, Try.ntmps8
        go_wp2
        go_ret
        exact ⟨rfl, rfl⟩
      · have i3 : decide (65536 ≤ l) = false := decide_eq_false ho
        rw [Nd.count_some (by omega) (by omega) (by omega)]
        obtain ⟨K, P, A, B, C, S, Q, hQ, q1, q2, hK, e1, e2, e3, e4, e5, e6, e7, e8, e9, e10, e11, e12, e13, e14, e15⟩ := rpart_run (k := k) (l := l) (by omega) (by omega) (by omega)
        have r1 := fun ts ty W => min_run ts ty k 32 K W hK
        rw [hQ]
        by_cases hr : 0 < b
        · obtain ⟨D, M, E, F, d1, d2, d3, hM, d4, d5, d6, d7, d8, d9, hE⟩ := rrow_run hr hb q1 q2
          have r2 := fun ts ty W => min_run ts ty D 64 M W hM
          obtain ⟨T, hT⟩ : ∃ T, min (Q + Nd.row b) 64 = T := ⟨_, rfl⟩
          obtain ⟨F1, hF⟩ : ∃ F1, F + 1 = F1 := ⟨_, rfl⟩
          rw [hT] at hE ⊢
          rw [hF] at hE d9
          rcases hE with ⟨j1, j2⟩ | ⟨j1, j2⟩
          · have r3 := fun ts ty W => min_run ts ty F1 64 T W j2
            clear hk hl hb ho hQ q1 q2 hK hM hT j2
            go_enter Try.func8, Try.ntmps8
            go_wp2
            go_ret
            exact ⟨rfl, rfl⟩
          · have r3 := fun ts ty W => min_run ts ty F 64 T W j2
            clear hk hl hb ho hQ q1 q2 hK hM hT j2 hF d9
            go_enter Try.func8, Try.ntmps8
            go_wp2
            go_ret
            exact ⟨rfl, rfl⟩
        · have j1 : decide (0 < b) = false := decide_eq_false hr
          rw [rrow_none hr, Int.add_zero]
          obtain ⟨T, hT⟩ : ∃ T, min Q 64 = T := ⟨_, rfl⟩
          have r3 := fun ts ty W => min_run ts ty Q 64 T W hT
          rw [hT]
          clear hk hl hb ho hQ q1 q2 hK hT hr
          go_enter Try.func8, Try.ntmps8
          go_wp2
          go_ret
          exact ⟨rfl, rfl⟩
end Go.Proofs.Ytjpjpcjickafjaa

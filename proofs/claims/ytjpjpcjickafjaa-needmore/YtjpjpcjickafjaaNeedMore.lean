/-
  More loss, longer rows, more symbols are never less repair, and there is enough on the whole: the call returns true, whatever the five numbers are (no condition).
-/
import Derived.Test.YtjpjpcjickafjaaRows
import Derived.WalkKit
import Derived.ProofKit
import Derived.OpenShut
import Derived.ShutString
import Derived.Test.YtjpjpcjickafjaaNd2
import Derived.ChangeOld
import Derived.Below
namespace Go.Proofs.Ytjpjpcjickafjaa.needMore
open Go.ChangeShapes Go.WideShapes Go.ChangeAt Go.RowKit
open Go.ChangeMaps (open_string shut_string)
set_option linter.unusedVariables false      -- a walk need not use every 'w<i>' (that an integer argument fits its kind)

theorem own : ownKnob Try.prog.godebug = none := by kernel_rfl

open Go.Deep

theorem part_mono {k k' l l' : Int} (hk : 0 < k) (h0 : 0 < l) (h1 : l' < 65536) (a : k ≤ k') (b : l ≤ l') : Nd.part k l ≤ Nd.part k' l' := by
  obtain ⟨r0, -⟩ := Nd.part_range (k := k') (l := l') (by omega) (by omega) h1
  have e : min k' 32 * l' ≤ Nd.part k' l' * (65536 - l') := (Nd.up_iff (by omega)).1 (Int.le_refl _)
  have f : min k 32 * l ≤ min k' 32 * l' := Int.mul_le_mul (by omega) b (by omega) (by omega)
  have g : Nd.part k' l' * (65536 - l') ≤ Nd.part k' l' * (65536 - l) := Int.mul_le_mul_of_nonneg_left (by omega) r0
  exact (Nd.up_iff (by omega)).2 (Int.le_trans f (Int.le_trans e g))
theorem row_mono {b b' : Int} (h : b ≤ b') : Nd.row b ≤ Nd.row b' := by
  unfold Nd.row Nd.up
  omega
theorem count_mono {k k' l l' b b' : Int} (hk : k ≤ k') (hl : l ≤ l') (hb : b ≤ b') : Nd.count k l b ≤ Nd.count k' l' b' := by
  by_cases h : k ≤ 0 ∨ l ≤ 0
  · rw [Nd.count_none h]
    exact (Nd.count_range _ _ _).1
  · by_cases h1 : 65536 ≤ l'
    · rw [Nd.count_all (by omega) h1]
      exact (Nd.count_range _ _ _).2
    · rw [Nd.count_some (by omega) (by omega) (by omega), Nd.count_some (by omega) (by omega) (by omega)]
      have c1 := part_mono (k := k) (k' := k') (l := l) (l' := l') (by omega) (by omega) (by omega) hk hl
      have c2 := row_mono hb
      omega
/-- There is enough, and no more than that. -/
theorem enough {n a : Int} (hn : 0 < n) (hn' : n ≤ 32) (ha : 0 ≤ a) (ha' : a < 65536) : Nd.count n a 0 = 64 ∨ n * 65536 ≤ (n + Nd.count n a 0) * (65536 - a) ∧ (Nd.count n a 0 = 0 ∨ (n + Nd.count n a 0 - 1) * (65536 - a) < n * 65536) := by
  by_cases h0 : a = 0
  · subst h0
    rw [Nd.count_none (.inr (Int.le_refl 0))]
    right
    exact ⟨by omega, .inl rfl⟩
  · rw [Nd.count_some hn (by omega) ha', show Nd.row 0 = 0 by decide, Int.add_zero]
    by_cases h : 64 ≤ Nd.part n a
    · left; omega
    · right
      have hb : 0 < 65536 - a := by omega
      have e : n * a ≤ Nd.part n a * (65536 - a) := by
        have := (Nd.up_iff (a := min n 32 * a) (r := Nd.part n a) hb).1 (Int.le_refl _)
        rwa [show min n 32 = n by omega] at this
      have f : ¬ n * a ≤ (Nd.part n a - 1) * (65536 - a) := fun h => by
        have : Nd.part n a ≤ Nd.part n a - 1 := (Nd.up_iff (a := min n 32 * a) hb).2 (by rwa [show min n 32 = n by omega])
        omega
      rw [show min (Nd.part n a) 64 = Nd.part n a by omega]
      generalize Nd.part n a = u at *
      have g : n * (65536 - a) = n * 65536 - n * a := Int.mul_sub _ _ _
      generalize n * a = x at *
      refine ⟨?_, .inr ?_⟩
      · rw [Int.add_mul, g]; omega
      · rw [show n + u - 1 = n + (u - 1) by omega, Int.add_mul, g]; omega
theorem min_u16 (ts : Array TypeId) (t : TypeId) (a b m : Int) (w : World) (h : min a b = m) : (Builtin.min_ ts t #[.int .u16 a, .int .u16 b]).run Try.prog w = .ok (.int .u16 m) w := by
  subst h
  simp [Builtin.min_, Builtin.min2]
  split <;> omega
theorem max_u16 (ts : Array TypeId) (t : TypeId) (a b m : Int) (w : World) (h : max a b = m) : (Builtin.max_ ts t #[.int .u16 a, .int .u16 b]).run Try.prog w = .ok (.int .u16 m) w := by
  subst h
  simp [Builtin.max_, Builtin.max2]
  split <;> omega

/-- The less and the greater of two. -/
theorem two_run {a b : Int} (ha : 0 ≤ a ∧ a ≤ 65535) (hb : 0 ≤ b ∧ b ≤ 65535) :
    ∃ lo hi : Int, (∀ ts ty W, (Builtin.min_ ts ty #[.int .u16 a, .int .u16 b]).run Try.prog W = .ok (.int .u16 lo) W) ∧ (∀ ts ty W, (Builtin.max_ ts ty #[.int .u16 a, .int .u16 b]).run Try.prog W = .ok (.int .u16 hi) W) ∧ lo ≤ hi ∧ IntKind.i64.wrap lo = lo ∧ IntKind.i64.wrap hi = hi :=
  ⟨_, _, fun ts ty W => min_u16 ts ty a b _ W rfl, fun ts ty W => max_u16 ts ty a b _ W rfl, by omega, w64 _ (by omega) (by omega), w64 _ (by omega) (by omega)⟩
/-- One symbol less, but one at least. -/
theorem less_run {n : Int} (hn : 0 < n) (hn' : n ≤ 32) :
    ∃ m m1 : Int, n - 1 = m ∧ IntKind.i64.wrap m = m ∧ (∀ ts ty W, (Builtin.max_ ts ty #[.int .i64 m, .int .i64 1]).run Try.prog W = .ok (.int .i64 m1) W) ∧ m1 ≤ n :=
  ⟨_, _, rfl, w64 _ (by omega) (by omega), fun ts ty W => max_run ts ty _ 1 _ W rfl, by omega⟩
/-- How many symbols: 1 to 32. -/
theorem many_run {k : Int} (h : 0 ≤ k ∧ k ≤ 255) :
    ∃ R n : Int, k.tmod 32 = R ∧ k % 32 = R ∧ IntKind.i64.wrap R = R ∧ 1 + R = n ∧ IntKind.i64.wrap n = n ∧ 0 < n ∧ n ≤ 32 :=
  ⟨_, _, Int.tmod_eq_emod_of_nonneg h.1, rfl, w64 _ (by omega) (by omega), rfl, w64 _ (by omega) (by omega), by omega, by omega⟩
/-- What the last row of the statement reckons. -/
theorem end_run {n a r : Int} (hn : 0 < n) (hn' : n ≤ 32) (ha : 0 ≤ a ∧ a ≤ 65535) (hr : Nd.count n a 0 = r) :
    ∃ s S M N s' M' : Int, n + r = s ∧ IntKind.i64.wrap s = s ∧ 65536 - a = S ∧ IntKind.i64.wrap S = S ∧ s * S = M ∧ IntKind.i64.wrap M = M ∧ n * 65536 = N ∧ IntKind.i64.wrap N = N ∧ s - 1 = s' ∧ IntKind.i64.wrap s' = s' ∧ s' * S = M' ∧ IntKind.i64.wrap M' = M' ∧
      ((r == 64) = true ∨ (r == 64) = false ∧ N ≤ M ∧ ((r == 0) = true ∨ (r == 0) = false ∧ M' < N)) := by
  have q5 := Nd.count_range n a 0
  have q6 := enough hn hn' ha.1 (by omega)
  rw [hr] at q5 q6
  clear hr
  have m1 : 0 ≤ (n + r) * (65536 - a) ∧ (n + r) * (65536 - a) ≤ 96 * 65536 := ⟨Int.mul_nonneg (by omega) (by omega), Int.mul_le_mul (by omega) (by omega) (by omega) (by omega)⟩
  have m2 : 0 ≤ (n + r - 1) * (65536 - a) ∧ (n + r - 1) * (65536 - a) ≤ 96 * 65536 := ⟨Int.mul_nonneg (by omega) (by omega), Int.mul_le_mul (by omega) (by omega) (by omega) (by omega)⟩
  refine ⟨_, _, _, _, _, _, rfl, w64 _ (by omega) (by omega), rfl, w64 _ (by omega) (by omega), rfl, w64 _ (by omega) (by omega), rfl, w64 _ (by omega) (by omega), rfl, w64 _ (by omega) (by omega), rfl, w64 _ (by omega) (by omega), ?_⟩
  generalize (n + r) * (65536 - a) = M at *
  generalize (n + r - 1) * (65536 - a) = M' at *
  by_cases h64 : r = 64
  · left; simp [h64]
  · right
    refine ⟨by simp; omega, by omega, ?_⟩
    by_cases h00 : r = 0
    · left; simp [h00]
    · right; exact ⟨by simp; omega, by omega⟩

set_option maxRecDepth 100000 in
set_option maxHeartbeats 1000000 in
theorem walk (a0 : Int) (a1 : Int) (a2 : Int) (a3 : Int) (a4 : Int) (w0 : (Lit.int .u8 a0).wf = true) (w1 : (Lit.int .u16 a1).wf = true) (w2 : (Lit.int .u16 a2).wf = true) (w3 : (Lit.int .u16 a3).wf = true) (w4 : (Lit.int .u16 a4).wf = true) (w : World) :
    Calls Try.prog 4 #[.int .u8 a0, .int .u16 a1, .int .u16 a2, .int .u16 a3, .int .u16 a4] w fun e w' => e = .returned (.bool true) ∧ Below w.heap.size w w' := by
  have b0 := bounds_u8 w0
  have b1 := bounds_u16 w1
  have b2 := bounds_u16 w2
  have b3 := bounds_u16 w3
  have b4 := bounds_u16 w4
  clear w0 w1 w2 w3 w4
  have e0 : IntKind.i64.wrap a0 = a0 := w64 _ (by omega) (by omega)
  have e1 : IntKind.i64.wrap a1 = a1 := w64 _ (by omega) (by omega)
  have e3 : IntKind.i64.wrap a3 = a3 := w64 _ (by omega) (by omega)
  obtain ⟨R, n, hR, hR', e5, hn, e6, n1, n2⟩ := many_run b0
  obtain ⟨la, ua, r1, r2, o1, g1, g2⟩ := two_run b1 b2
  obtain ⟨lp, up, r3, r4, o2, g3, g4⟩ := two_run b3 b4
  obtain ⟨m, m1, hm, g5, r5, o3⟩ := less_run n1 n2
  have C1 : ∀ W, Hid (Calls Try.prog 7 #[.int .i64 n, .int .i64 la, .int .i64 lp] W fun e w' => e = .returned (.int .i64 (Nd.count n la lp)) ∧ w' = W) := fun W => need_any _ _ _ W
  have C2 : ∀ W, Hid (Calls Try.prog 7 #[.int .i64 n, .int .i64 ua, .int .i64 up] W fun e w' => e = .returned (.int .i64 (Nd.count n ua up)) ∧ w' = W) := fun W => need_any _ _ _ W
  have C3 : ∀ W, Hid (Calls Try.prog 7 #[.int .i64 m1, .int .i64 a1, .int .i64 a3] W fun e w' => e = .returned (.int .i64 (Nd.count m1 a1 a3)) ∧ w' = W) := fun W => need_any _ _ _ W
  have C4 : ∀ W, Hid (Calls Try.prog 7 #[.int .i64 n, .int .i64 a1, .int .i64 a3] W fun e w' => e = .returned (.int .i64 (Nd.count n a1 a3)) ∧ w' = W) := fun W => need_any _ _ _ W
  have C5 : ∀ W, Hid (Calls Try.prog 7 #[.int .i64 n, .int .i64 0, .int .i64 a3] W fun e w' => e = .returned (.int .i64 0) ∧ w' = W) := fun W => by
    have := need_any n 0 a3 W
    rwa [Nd.count_none (.inr (Int.le_refl 0))] at this
  have C6 : ∀ W, Hid (Calls Try.prog 7 #[.int .i64 n, .int .i64 (-1), .int .i64 a3] W fun e w' => e = .returned (.int .i64 0) ∧ w' = W) := fun W => by
    have := need_any n (-1) a3 W
    rwa [Nd.count_none (.inr (by decide))] at this
  have C7 : ∀ W, Hid (Calls Try.prog 7 #[.int .i64 0, .int .i64 a1, .int .i64 a3] W fun e w' => e = .returned (.int .i64 0) ∧ w' = W) := fun W => by
    have := need_any 0 a1 a3 W
    rwa [Nd.count_none (.inl (Int.le_refl 0))] at this
  have C8 : ∀ W, Hid (Calls Try.prog 7 #[.int .i64 n, .int .i64 a1, .int .i64 0] W fun e w' => e = .returned (.int .i64 (Nd.count n a1 0)) ∧ w' = W) := fun W => need_any _ _ _ W
  have q1 := Nd.count_range n la lp
  have q2 := Nd.count_range n ua up
  have q3 : Nd.count n la lp ≤ Nd.count n ua up := count_mono (Int.le_refl _) o1 o2
  have q4 : Nd.count m1 a1 a3 ≤ Nd.count n a1 a3 := count_mono o3 (Int.le_refl _) (Int.le_refl _)
  generalize Nd.count n la lp = X at *
  generalize Nd.count n ua up = Y at *
  generalize Nd.count m1 a1 a3 = X' at *
  generalize Nd.count n a1 a3 = Y' at *
  obtain ⟨r, hr⟩ : ∃ r, Nd.count n a1 0 = r := ⟨_, rfl⟩
  obtain ⟨s, S, M, N, s', M', hs, k1, hS, k2, hM, k3, hN, k4, hs', k5, hM', k6, END⟩ := end_run n1 n2 b1 hr
  rw [hr] at C8
  have i1 : decide (X < 0) = false := decide_eq_false (by omega)
  have i2 : decide (Y < X) = false := decide_eq_false (by omega)
  have i3 : decide (64 < Y) = false := decide_eq_false (by omega)
  have i4 : decide (Y' < X') = false := decide_eq_false (by omega)
  clear b0 b1 b2 b3 b4 q1 q2 q3 q4 o1 o2 o3 n1 n2 hr
  rcases END with j1 | ⟨j1, j2, j3 | ⟨j3, j4⟩⟩
  all_goals
    go_enter Try.func4, Try.ntmps4
    go_wp2_with fail
    refine (begun20 _).mono ?_
    rintro e w1 ⟨rfl, rfl⟩
    go_wp2_with fail
    refine ((C1 _).out).mono ?_
    rintro e w1 ⟨rfl, rfl⟩
    go_wp2_with fail
    refine ((C2 _).out).mono ?_
    rintro e w1 ⟨rfl, rfl⟩
    go_wp2_with fail
    refine ((C3 _).out).mono ?_
    rintro e w1 ⟨rfl, rfl⟩
    go_wp2_with fail
    refine ((C4 _).out).mono ?_
    rintro e w1 ⟨rfl, rfl⟩
    go_wp2_with fail
    refine ((C5 _).out).mono ?_
    rintro e w1 ⟨rfl, rfl⟩
    go_wp2_with fail
    refine ((C6 _).out).mono ?_
    rintro e w1 ⟨rfl, rfl⟩
    go_wp2_with fail
    refine ((C7 _).out).mono ?_
    rintro e w1 ⟨rfl, rfl⟩
    go_wp2_with fail
    refine ((C8 _).out).mono ?_
    rintro e w1 ⟨rfl, rfl⟩
    go_wp2
    go_ret
    exact ⟨rfl, Below.refl _ _⟩

/-! ### THE ROW's STEP: WRITTEN OUT: LEAVE IT -/
set_option maxRecDepth 100000 in
theorem lifted (os : Os) (started : os.Started) (H : Type) (enc : TypeId × Value → H) :
    ReturnsInHanded {} Try.checked os 4 .any (Rows.needMoreSpec.pre6 enc Try.prog Try.f4 Rows.needMoreRow.domain false) (Rows.needMoreSpec.post enc Try.prog Try.f4 false true false false) := by
  refine returnsInHanded_of_change (C := Try.checked) own started (by kernel_rfl) Try.func4
    (ChangeSpec.witness6 (enc := enc) (C := Try.checked) false ⟨#[], #[.int .u8 0, .int .u16 0, .int .u16 0, .int .u16 0, .int .u16 0], []⟩ 8 (by kernel_rfl) (by kernel_rfl) (by kernel_rfl) (by kernel_rfl)) ?_
  intro W base args ds gs before hval0 hW hcnd _
  have hval : ∀ (j : Nat) t v, Try.f4.params[j]? = some t → args[j]? = some v → Value.okWide Try.prog W .any base t v := hval0
  have hW' := hW
  obtain ⟨p, q, hA0, hV, rfl, hfz, hnd⟩ := hW
  have hA : DataW.TrodAll enc Try.prog W 0 (fun _ => true) true Try.f4.params.toList args.toList ds p := hA0
  rw [Try.params4] at hA hval
  obtain ⟨v0, vs0, d0, ds0, p0, q0, hargs, rfl, rfl, h0, r0⟩ := trodAll_cons hA
  obtain ⟨v1, vs1, d1, ds1, p1, q1, rfl, rfl, rfl, h1, r1⟩ := trodAll_cons r0
  obtain ⟨v2, vs2, d2, ds2, p2, q2, rfl, rfl, rfl, h2, r2⟩ := trodAll_cons r1
  obtain ⟨v3, vs3, d3, ds3, p3, q3, rfl, rfl, rfl, h3, r3⟩ := trodAll_cons r2
  obtain ⟨v4, vs4, d4, ds4, p4, q4, rfl, rfl, rfl, h4, r4⟩ := trodAll_cons r3
  obtain ⟨rfl, rfl, rfl⟩ := trodAll_nil r4
  obtain rfl : args = #[v0, v1, v2, v3, v4] := by cases args; simp_all
  obtain ⟨rfl, rfl⟩ := trodVars_none hV
  obtain ⟨a0, rfl, rfl, rfl, w0⟩ := open_int Try.underlying5 (hval 0 5 v0 rfl rfl) h0
  obtain ⟨a1, rfl, rfl, rfl, w1⟩ := open_int Try.underlying25 (hval 1 25 v1 rfl rfl) h1
  obtain ⟨a2, rfl, rfl, rfl, w2⟩ := open_int Try.underlying25 (hval 2 25 v2 rfl rfl) h2
  obtain ⟨a3, rfl, rfl, rfl, w3⟩ := open_int Try.underlying25 (hval 3 25 v3 rfl rfl) h3
  obtain ⟨a4, rfl, rfl, rfl, w4⟩ := open_int Try.underlying25 (hval 4 25 v4 rfl rfl) h4
  clear hA0 hval0
  simp only [List.append_nil] at hW'
  refine (walk a0 a1 a2 a3 a4 w0 w1 w2 w3 w4 W).mono fun e W' ⟨he, hg⟩ => ?_
  subst he
  exact ⟨_, rfl, _, _, _, [], [], [], hW', (trodAll_cons_mk (shut_bool Try.underlying4 _) trodAll_mk0), (trodAll_cons_mk (shut_int Try.underlying5 w0) (trodAll_cons_mk (shut_int Try.underlying25 w1) (trodAll_cons_mk (shut_int Try.underlying25 w2) (trodAll_cons_mk (shut_int Try.underlying25 w3) (trodAll_cons_mk (shut_int Try.underlying25 w4) trodAll_mk0))))), rfl, hg.frame _, fun h => by cases h⟩

theorem over : Rows.needMoreRow.holds Try.pinned (OpenSpec.ofChange Rows.needMoreSpec) :=
  OpenClaim.holds_of_wide 4 Try.f4 rfl rfl rfl rfl rfl rfl rfl ⟨rfl, rfl, rfl, rfl, rfl⟩ rfl rfl rfl rfl rfl (by kernel_rfl) Try.func4 (by kernel_rfl)
    (of_decide_eq_true (by kernel_rfl)) (by unfold Func.isWrapper; first | (rw [if_pos (by decide +kernel)]; kernel_rfl) | (rw [if_neg (by decide +kernel)]; exact ⟨rfl, rfl⟩))
    (fun os started H enc _ => lifted os started H enc)

theorem proved : Rows.NeedMoreSaid :=
  over
end Go.Proofs.Ytjpjpcjickafjaa.needMore
namespace Go.Proofs.Ytjpjpcjickafjaa
theorem needMore_holds : Rows.NeedMoreSaid := needMore.proved
#print axioms needMore_holds
end Go.Proofs.Ytjpjpcjickafjaa

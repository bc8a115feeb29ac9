/-
  In the program's field the root's powers go round all bytes but 0, forth and back, and logs are their places: the call returns true for every two powers and every byte (no condition).
-/
import Derived.Test.YtehoimfbcjiloaaRows
import Derived.WalkKit
import Derived.ProofKit
import Derived.OpenShut
import Derived.ShutString
import Derived.Test.YtehoimfbcjiloaaBeg
import Derived.ChangeOld
import Derived.Below
namespace Go.Proofs.Ytehoimfbcjiloaa.fieldPowers
open Go.ChangeShapes Go.WideShapes Go.ChangeAt Go.RowKit
open Go.ChangeMaps (open_string shut_string)
set_option linter.unusedVariables false      -- a walk need not use every 'w<i>' (that an integer argument fits its kind)

theorem own : ownKnob Try.prog.godebug = none := by kernel_rfl

open Go.Deep

theorem sum_pw (n m : Int) (E M : Nat) (h : (n % 255).toNat = E) (g : (m % 255).toNat = M) : Gf.pw ((n + m) % 255).toNat = Gf.pw (E + M) := Gf.pw_congr _ _ (by omega)
theorem round_pw (n : Int) (E : Nat) (h : (n % 255).toNat = E) : Gf.pw ((n + 255) % 255).toNat = Gf.pw E := Gf.pw_congr _ _ (by omega)
theorem neg_pw (n : Int) (E : Nat) (h : (n % 255).toNat = E) : Gf.pw ((-n) % 255).toNat = Gf.pw (255 - E) := Gf.pw_congr _ _ (by omega)
theorem succ_pw (n : Int) (E : Nat) (h : (n % 255).toNat = E) : Gf.pw ((n + 1) % 255).toNat = Gf.pw (E + 1) := Gf.pw_congr _ _ (by omega)
theorem neg_mul (n : Int) (E : Nat) (h : (n % 255).toNat = E) : Gf.mul (Gf.pw E) (Gf.pw (255 - E)) = 1 := by
  rw [Gf.mul_pw, ← Gf.pw_zero]; exact Gf.pw_congr _ _ (by omega)
theorem two_pw (E : Nat) : Gf.mul 2 (Gf.pw E) = Gf.pw (E + 1) := by
  have e : Gf.mul (Gf.pw 1) (Gf.pw E) = Gf.pw (1 + E) := Gf.mul_pw 1 E
  rw [show Gf.pw 1 = 2 by decide +kernel, Nat.add_comm] at e
  exact e
theorem log_of_exp (n : Int) (E : Nat) (h : (n % 255).toNat = E) : (n.tmod 255 + 255).tmod 255 = (E : Int) ∧ (n.tmod 255 + 255) % 255 = (E : Int) := by
  have h1 := exp_index n
  have h3 := Int.mul_tdiv_add_tmod n 255
  have e : (n.tmod 255 + 255).tmod 255 = (n.tmod 255 + 255) % 255 := Int.tmod_eq_emod_of_nonneg (by omega)
  have f : (n.tmod 255 + 255) % 255 = (E : Int) := by omega
  exact ⟨e.trans f, f⟩

set_option maxRecDepth 100000 in
set_option maxHeartbeats 1000000 in
theorem core0 (n m : Int) (a : Nat) (ha : a < 256) (h0 : a = 0) (n1 : -2147483648 ≤ n) (n2 : n ≤ 2147483647) (m1 : -2147483648 ≤ m) (m2 : m ≤ 2147483647) (w : World) :
    Calls Try.prog 6 #[.int .i32 n, .int .i32 m, .int .u8 a] w fun e w' => e = .returned (.bool true) ∧ Below w.heap.size w w' := by
  obtain ⟨E, hE⟩ : ∃ E, (n % 255).toNat = E := ⟨_, rfl⟩
  obtain ⟨M, hM⟩ : ∃ M, (m % 255).toNat = M := ⟨_, rfl⟩
  have HE : Hid ((n % 255).toNat = E) := hE
  have HM : Hid ((m % 255).toNat = M) := hM
  have hE1 : E < 255 := by omega
  have hl := Gf.lg_lt a ha
  have h0' : ((a : Int) == 0) = true := by simp; omega
  have HZ : Hid (a = 0) := h0
  clear h0 hE hM
  go_enter Try.func6, Try.ntmps6
  go_wp2_with fail
  refine (begun_any _).mono ?_
  rintro e w0 ⟨rfl, hb0⟩
  go_wp2_with fail
  refine (new_any _).mono ?_
  rintro e w1 ⟨rfl, hb1, hf1, hs1⟩
  have B1 : Below w.heap.size w w1 := hb0.trans (hb1.mono hb0.size)
  clear hb0 hb1 hs1
  generalize w0.heap.size = P at *
  go_wp2_with fail
  refine (exp_is P (Gf.pw E) n _ hf1 (by omega) (by omega) (by rw [HE.out])).mono ?_
  rintro e w2 ⟨rfl, hw⟩
  subst hw
  go_wp2_with fail
  refine (exp_is P (Gf.pw M) m _ hf1 (by omega) (by omega) (by rw [HM.out])).mono ?_
  rintro e w2 ⟨rfl, hw⟩
  subst hw
  go_wp2_with fail
  refine (mul_is P (Gf.pw E) (Gf.pw M) (Gf.pw (E + M)) _ hf1 (Gf.pw_lt _) (Gf.pw_lt _) (Gf.mul_pw E M)).mono ?_
  rintro e w2 ⟨rfl, q2⟩
  have hf2 := q2.field hf1
  have B2 := B1.trans (q2.below _)
  clear q2 hf1 B1
  go_wp2_with fail
  refine (exp_is P (Gf.pw (E + M)) (n + m) _ hf2 (by omega) (by omega) (sum_pw n m E M HE.out HM.out)).mono ?_
  rintro e w3 ⟨rfl, hw⟩
  subst hw
  go_wp2_with fail
  refine (exp_is P (Gf.pw E) (n + 255) _ hf2 (by omega) (by omega) (round_pw n E HE.out)).mono ?_
  rintro e w3 ⟨rfl, hw⟩
  subst hw
  go_wp2_with fail
  refine (exp_is P (Gf.pw E) n _ hf2 (by omega) (by omega) (by rw [HE.out])).mono ?_
  rintro e w3 ⟨rfl, hw⟩
  subst hw
  go_wp2_with fail
  refine (exp_is P (Gf.pw E) n _ hf2 (by omega) (by omega) (by rw [HE.out])).mono ?_
  rintro e w3 ⟨rfl, hw⟩
  subst hw
  go_wp2_with fail
  refine (exp_is P (Gf.pw (255 - E)) (-n) _ hf2 (by omega) (by omega) (neg_pw n E HE.out)).mono ?_
  rintro e w3 ⟨rfl, hw⟩
  subst hw
  go_wp2_with fail
  refine (mul_at P (Gf.pw E : Int) (Gf.pw (255 - E) : Int) 1 _ hf2 ⟨by omega, by have := Gf.pw_lt E; omega⟩ ⟨by omega, by have := Gf.pw_lt (255 - E); omega⟩ (congrArg Int.ofNat (neg_mul n E HE.out))).mono ?_
  rintro e w3 ⟨rfl, q3⟩
  have hf3 := q3.field hf2
  have B3 := B2.trans (q3.below _)
  clear q3 hf2 B2
  go_wp2_with fail
  refine (exp_is P (Gf.pw (E + 1)) (n + 1) _ hf3 (by omega) (by omega) (succ_pw n E HE.out)).mono ?_
  rintro e w4 ⟨rfl, hw⟩
  subst hw
  go_wp2_with fail
  refine (exp_is P (Gf.pw E) n _ hf3 (by omega) (by omega) (by rw [HE.out])).mono ?_
  rintro e w4 ⟨rfl, hw⟩
  subst hw
  go_wp2_with fail
  refine (mul_at P 2 (Gf.pw E : Int) (Gf.pw (E + 1) : Int) _ hf3 (by decide) ⟨by omega, by have := Gf.pw_lt E; omega⟩ (congrArg Int.ofNat (two_pw E))).mono ?_
  rintro e w4 ⟨rfl, q4⟩
  have hf4 := q4.field hf3
  have B4 := B3.trans (q4.below _)
  clear q4 hf3 B3
  go_wp2_with fail
  refine (log_z P a _ hf4 HZ.out).mono ?_
  rintro e w5 ⟨rfl, hw⟩
  subst hw
  go_wp2
  go_ret
  exact ⟨rfl, B4⟩

set_option maxRecDepth 100000 in
set_option maxHeartbeats 1000000 in
theorem core1 (n m : Int) (a : Nat) (ha : a < 256) (h0 : a ≠ 0) (n1 : -2147483648 ≤ n) (n2 : n ≤ 2147483647) (m1 : -2147483648 ≤ m) (m2 : m ≤ 2147483647) (w : World) :
    Calls Try.prog 6 #[.int .i32 n, .int .i32 m, .int .u8 a] w fun e w' => e = .returned (.bool true) ∧ Below w.heap.size w w' := by
  obtain ⟨E, hE⟩ : ∃ E, (n % 255).toNat = E := ⟨_, rfl⟩
  obtain ⟨M, hM⟩ : ∃ M, (m % 255).toNat = M := ⟨_, rfl⟩
  have HE : Hid ((n % 255).toNat = E) := hE
  have HM : Hid ((m % 255).toNat = M) := hM
  have hE1 : E < 255 := by omega
  have hl := Gf.lg_lt a ha
  have h0' : ((a : Int) == 0) = false := by simp; omega
  have HZ : Hid (a ≠ 0) := h0
  clear h0 hE hM
  go_enter Try.func6, Try.ntmps6
  go_wp2_with fail
  refine (begun_any _).mono ?_
  rintro e w0 ⟨rfl, hb0⟩
  go_wp2_with fail
  refine (new_any _).mono ?_
  rintro e w1 ⟨rfl, hb1, hf1, hs1⟩
  have B1 : Below w.heap.size w w1 := hb0.trans (hb1.mono hb0.size)
  clear hb0 hb1 hs1
  generalize w0.heap.size = P at *
  go_wp2_with fail
  refine (exp_is P (Gf.pw E) n _ hf1 (by omega) (by omega) (by rw [HE.out])).mono ?_
  rintro e w2 ⟨rfl, hw⟩
  subst hw
  go_wp2_with fail
  refine (exp_is P (Gf.pw M) m _ hf1 (by omega) (by omega) (by rw [HM.out])).mono ?_
  rintro e w2 ⟨rfl, hw⟩
  subst hw
  go_wp2_with fail
  refine (mul_is P (Gf.pw E) (Gf.pw M) (Gf.pw (E + M)) _ hf1 (Gf.pw_lt _) (Gf.pw_lt _) (Gf.mul_pw E M)).mono ?_
  rintro e w2 ⟨rfl, q2⟩
  have hf2 := q2.field hf1
  have B2 := B1.trans (q2.below _)
  clear q2 hf1 B1
  go_wp2_with fail
  refine (exp_is P (Gf.pw (E + M)) (n + m) _ hf2 (by omega) (by omega) (sum_pw n m E M HE.out HM.out)).mono ?_
  rintro e w3 ⟨rfl, hw⟩
  subst hw
  go_wp2_with fail
  refine (exp_is P (Gf.pw E) (n + 255) _ hf2 (by omega) (by omega) (round_pw n E HE.out)).mono ?_
  rintro e w3 ⟨rfl, hw⟩
  subst hw
  go_wp2_with fail
  refine (exp_is P (Gf.pw E) n _ hf2 (by omega) (by omega) (by rw [HE.out])).mono ?_
  rintro e w3 ⟨rfl, hw⟩
  subst hw
  go_wp2_with fail
  refine (exp_is P (Gf.pw E) n _ hf2 (by omega) (by omega) (by rw [HE.out])).mono ?_
  rintro e w3 ⟨rfl, hw⟩
  subst hw
  go_wp2_with fail
  refine (exp_is P (Gf.pw (255 - E)) (-n) _ hf2 (by omega) (by omega) (neg_pw n E HE.out)).mono ?_
  rintro e w3 ⟨rfl, hw⟩
  subst hw
  go_wp2_with fail
  refine (mul_at P (Gf.pw E : Int) (Gf.pw (255 - E) : Int) 1 _ hf2 ⟨by omega, by have := Gf.pw_lt E; omega⟩ ⟨by omega, by have := Gf.pw_lt (255 - E); omega⟩ (congrArg Int.ofNat (neg_mul n E HE.out))).mono ?_
  rintro e w3 ⟨rfl, q3⟩
  have hf3 := q3.field hf2
  have B3 := B2.trans (q3.below _)
  clear q3 hf2 B2
  go_wp2_with fail
  refine (exp_is P (Gf.pw (E + 1)) (n + 1) _ hf3 (by omega) (by omega) (succ_pw n E HE.out)).mono ?_
  rintro e w4 ⟨rfl, hw⟩
  subst hw
  go_wp2_with fail
  refine (exp_is P (Gf.pw E) n _ hf3 (by omega) (by omega) (by rw [HE.out])).mono ?_
  rintro e w4 ⟨rfl, hw⟩
  subst hw
  go_wp2_with fail
  refine (mul_at P 2 (Gf.pw E : Int) (Gf.pw (E + 1) : Int) _ hf3 (by decide) ⟨by omega, by have := Gf.pw_lt E; omega⟩ (congrArg Int.ofNat (two_pw E))).mono ?_
  rintro e w4 ⟨rfl, q4⟩
  have hf4 := q4.field hf3
  have B4 := B3.trans (q4.below _)
  clear q4 hf3 B3
  go_wp2_with fail
  refine (log_ne P a _ hf4 ha HZ.out).mono ?_
  rintro e w5 ⟨rfl, hw⟩
  subst hw
  go_wp2_with fail
  refine (exp_is P (Gf.pw E) n _ hf4 (by omega) (by omega) (by rw [HE.out])).mono ?_
  rintro e w5 ⟨rfl, hw⟩
  subst hw
  go_wp2_with fail
  refine (log_at P (Gf.pw E : Int) (E : Int) _ hf4 ⟨by omega, by have := Gf.pw_lt E; omega⟩ (by have := Gf.pw_pos E; omega) (congrArg Int.ofNat (Gf.lg_pw_small E hE1))).mono ?_
  rintro e w5 ⟨rfl, hw⟩
  subst hw
  go_wp2_with fail
  refine (exp_is P a (Gf.lg a : Int) _ hf4 (by omega) (by omega) (by rw [show ((Gf.lg a : Int) % 255).toNat = Gf.lg a by omega]; exact Gf.pw_lg a ha HZ.out)).mono ?_
  rintro e w5 ⟨rfl, hw⟩
  subst hw
  obtain ⟨t1, t2⟩ := log_of_exp n E HE.out
  have t3 := exp_index n
  go_wp2
  go_ret
  exact ⟨rfl, B4⟩

theorem walk (a0 : Int) (a1 : Int) (a2 : Int) (w0 : (Lit.int .i32 a0).wf = true) (w1 : (Lit.int .i32 a1).wf = true) (w2 : (Lit.int .u8 a2).wf = true) (w : World) :
    Calls Try.prog 6 #[.int .i32 a0, .int .i32 a1, .int .u8 a2] w fun e w' => e = .returned (.bool true) ∧ Below w.heap.size w w' := by
  obtain ⟨a, rfl, ha⟩ := int_nat a2 (by have := bounds_u8 w2; omega)
  have b0 := bounds_i32 w0
  have b1 := bounds_i32 w1
  by_cases h0 : a = 0
  · exact core0 a0 a1 a ha h0 b0.1 b0.2 b1.1 b1.2 w
  · exact core1 a0 a1 a ha h0 b0.1 b0.2 b1.1 b1.2 w

/-! ### THE ROW's STEP: WRITTEN OUT: LEAVE IT -/
set_option maxRecDepth 100000 in
theorem lifted (os : Os) (started : os.Started) (H : Type) (enc : TypeId × Value → H) :
    ReturnsInHanded {} Try.checked os 6 .any (Rows.fieldPowersSpec.pre6 enc Try.prog Try.f6 Rows.fieldPowersRow.domain false) (Rows.fieldPowersSpec.post enc Try.prog Try.f6 false true false false) := by
  refine returnsInHanded_of_change (C := Try.checked) own started (by kernel_rfl) Try.func6
    (ChangeSpec.witness6 (enc := enc) (C := Try.checked) false ⟨#[], #[.int .i32 0, .int .i32 0, .int .u8 0], []⟩ 8 (by kernel_rfl) (by kernel_rfl) (by kernel_rfl) (by kernel_rfl)) ?_
  intro W base args ds gs before hval0 hW hcnd _
  have hval : ∀ (j : Nat) t v, Try.f6.params[j]? = some t → args[j]? = some v → Value.okWide Try.prog W .any base t v := hval0
  have hW' := hW
  obtain ⟨p, q, hA0, hV, rfl, hfz, hnd⟩ := hW
  have hA : DataW.TrodAll enc Try.prog W 0 (fun _ => true) true Try.f6.params.toList args.toList ds p := hA0
  rw [Try.params6] at hA hval
  obtain ⟨v0, vs0, d0, ds0, p0, q0, hargs, rfl, rfl, h0, r0⟩ := trodAll_cons hA
  obtain ⟨v1, vs1, d1, ds1, p1, q1, rfl, rfl, rfl, h1, r1⟩ := trodAll_cons r0
  obtain ⟨v2, vs2, d2, ds2, p2, q2, rfl, rfl, rfl, h2, r2⟩ := trodAll_cons r1
  obtain ⟨rfl, rfl, rfl⟩ := trodAll_nil r2
  obtain rfl : args = #[v0, v1, v2] := by cases args; simp_all
  obtain ⟨rfl, rfl⟩ := trodVars_none hV
  obtain ⟨a0, rfl, rfl, rfl, w0⟩ := open_int Try.underlying21 (hval 0 21 v0 rfl rfl) h0
  obtain ⟨a1, rfl, rfl, rfl, w1⟩ := open_int Try.underlying21 (hval 1 21 v1 rfl rfl) h1
  obtain ⟨a2, rfl, rfl, rfl, w2⟩ := open_int Try.underlying5 (hval 2 5 v2 rfl rfl) h2
  clear hA0 hval0
  simp only [List.append_nil] at hW'
  refine (walk a0 a1 a2 w0 w1 w2 W).mono fun e W' ⟨he, hg⟩ => ?_
  subst he
  exact ⟨_, rfl, _, _, _, [], [], [], hW', (trodAll_cons_mk (shut_bool Try.underlying4 _) trodAll_mk0), (trodAll_cons_mk (shut_int Try.underlying21 w0) (trodAll_cons_mk (shut_int Try.underlying21 w1) (trodAll_cons_mk (shut_int Try.underlying5 w2) trodAll_mk0))), rfl, hg.frame _, fun h => by cases h⟩

theorem over : Rows.fieldPowersRow.holds Try.pinned (OpenSpec.ofChange Rows.fieldPowersSpec) :=
  OpenClaim.holds_of_wide 6 Try.f6 rfl rfl rfl rfl rfl rfl rfl ⟨rfl, rfl, rfl, rfl, rfl⟩ rfl rfl rfl rfl rfl (by kernel_rfl) Try.func6 (by kernel_rfl)
    (of_decide_eq_true (by kernel_rfl)) (by unfold Func.isWrapper; first | (rw [if_pos (by decide +kernel)]; kernel_rfl) | (rw [if_neg (by decide +kernel)]; exact ⟨rfl, rfl⟩))
    (fun os started H enc _ => lifted os started H enc)

theorem proved : Rows.FieldPowersSaid :=
  over
end Go.Proofs.Ytehoimfbcjiloaa.fieldPowers
namespace Go.Proofs.Ytehoimfbcjiloaa
theorem fieldPowers_holds : Rows.FieldPowersSaid := fieldPowers.proved
#print axioms fieldPowers_holds
end Go.Proofs.Ytehoimfbcjiloaa

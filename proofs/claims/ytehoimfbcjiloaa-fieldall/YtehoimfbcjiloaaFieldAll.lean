/-
  What the program's field says of bytes (products, inverses, quotients, powers, logs) is what the document's answer says: the call returns true for every two bytes and every power (no condition).
-/
import Derived.Test.YtehoimfbcjiloaaRows
import Derived.WalkKit
import Derived.ProofKit
import Derived.OpenShut
import Derived.ShutString
import Derived.Test.YtehoimfbcjiloaaBeg
import Derived.Test.YtehoimfbcjiloaaRef
import Derived.ChangeOld
import Derived.Below
namespace Go.Proofs.Ytehoimfbcjiloaa.fieldAll
open Go.ChangeShapes Go.WideShapes Go.ChangeAt Go.RowKit
open Go.ChangeMaps (open_string shut_string)
set_option linter.unusedVariables false      -- a walk need not use every 'w<i>' (that an integer argument fits its kind)

theorem own : ownKnob Try.prog.godebug = none := by kernel_rfl

open Go.Deep

set_option maxRecDepth 100000 in
set_option maxHeartbeats 1000000 in
theorem core00 (a b : Nat) (n : Int) (ha : a < 256) (hb : b < 256) (a0 : a ≠ 0) (b0 : b ≠ 0) (h1 : -9223372036854775808 ≤ n) (h2 : n ≤ 9223372036854775807) (w : World) :
    Calls Try.prog 3 #[.int .u8 a, .int .u8 b, .int .i64 n] w fun e w' => e = .returned (.bool true) ∧ Below w.heap.size w w' := by
  have HA : Hid (a ≠ 0) := a0
  have HB : Hid (b ≠ 0) := b0
  clear a0 b0
  go_enter Try.func3, Try.ntmps3
  go_wp2_with fail
  refine (begun_any _).mono ?_
  rintro e w0 ⟨rfl, hb0⟩
  go_wp2_with fail
  refine (new_any _).mono ?_
  rintro e w1 ⟨rfl, hb1, hf1, hs1⟩
  have B1 : Below w.heap.size w w1 := hb0.trans (hb1.mono hb0.size)
  clear hb0 hb1 hs1
  generalize w0.heap.size = P at *
  go_wp2_with fail
  refine (inv_is P a _ hf1 ha HA.out).mono ?_
  rintro e w2 ⟨rfl, q2⟩
  have hf2 := q2.field hf1
  have B2 := B1.trans (q2.below _)
  clear q2 hf1 B1
  go_wp2_with fail
  refine (rinv_ne a ha HA.out _).mono ?_
  rintro e w3 ⟨rfl, hw⟩
  subst hw
  go_wp2_with fail
  refine (div_is P a b _ hf2 ha hb HB.out).mono ?_
  rintro e w3 ⟨rfl, q3⟩
  have hf3 := q3.field hf2
  have B3 := B2.trans (q3.below _)
  clear q3 hf2 B2
  go_wp2_with fail
  refine (rdiv_ne a b ha hb HB.out _).mono ?_
  rintro e w4 ⟨rfl, hw⟩
  subst hw
  go_wp2_with fail
  refine (log_ne P a _ hf3 ha HA.out).mono ?_
  rintro e w4 ⟨rfl, hw⟩
  subst hw
  go_wp2_with fail
  refine (rlog_ne a ha HA.out _).mono ?_
  rintro e w4 ⟨rfl, hw⟩
  subst hw
  go_wp2_with fail
  refine (mul_is P a b (Gf.mul a b) _ hf3 ha hb rfl).mono ?_
  rintro e w4 ⟨rfl, q4⟩
  have hf4 := q4.field hf3
  have B4 := B3.trans (q4.below _)
  clear q4 hf3 B3
  go_wp2_with fail
  refine (rmul_any a b ha hb _).mono ?_
  rintro e w5 ⟨rfl, hw⟩
  subst hw
  go_wp2_with fail
  refine (exp_any P n _ hf4 h1 h2).mono ?_
  rintro e w5 ⟨rfl, hw⟩
  subst hw
  go_wp2_with fail
  refine (rexp_any n h1 h2 _).mono ?_
  rintro e w5 ⟨rfl, hw⟩
  subst hw
  go_wp2
  go_ret
  exact ⟨rfl, B4⟩

set_option maxRecDepth 100000 in
set_option maxHeartbeats 1000000 in
theorem core01 (a b : Nat) (n : Int) (ha : a < 256) (hb : b < 256) (a0 : a ≠ 0) (b0 : b = 0) (h1 : -9223372036854775808 ≤ n) (h2 : n ≤ 9223372036854775807) (w : World) :
    Calls Try.prog 3 #[.int .u8 a, .int .u8 b, .int .i64 n] w fun e w' => e = .returned (.bool true) ∧ Below w.heap.size w w' := by
  have HA : Hid (a ≠ 0) := a0
  have HB : Hid (b = 0) := b0
  clear a0 b0
  go_enter Try.func3, Try.ntmps3
  go_wp2_with fail
  refine (begun_any _).mono ?_
  rintro e w0 ⟨rfl, hb0⟩
  go_wp2_with fail
  refine (new_any _).mono ?_
  rintro e w1 ⟨rfl, hb1, hf1, hs1⟩
  have B1 : Below w.heap.size w w1 := hb0.trans (hb1.mono hb0.size)
  clear hb0 hb1 hs1
  generalize w0.heap.size = P at *
  go_wp2_with fail
  refine (inv_is P a _ hf1 ha HA.out).mono ?_
  rintro e w2 ⟨rfl, q2⟩
  have hf2 := q2.field hf1
  have B2 := B1.trans (q2.below _)
  clear q2 hf1 B1
  go_wp2_with fail
  refine (rinv_ne a ha HA.out _).mono ?_
  rintro e w3 ⟨rfl, hw⟩
  subst hw
  go_wp2_with fail
  refine (div_z P a b _ hf2 HB.out).mono ?_
  rintro e w3 ⟨rfl, hw⟩
  subst hw
  go_wp2_with fail
  refine (rdiv_zero a b ha HB.out _).mono ?_
  rintro e w3 ⟨rfl, hw⟩
  subst hw
  go_wp2_with fail
  refine (log_ne P a _ hf2 ha HA.out).mono ?_
  rintro e w3 ⟨rfl, hw⟩
  subst hw
  go_wp2_with fail
  refine (rlog_ne a ha HA.out _).mono ?_
  rintro e w3 ⟨rfl, hw⟩
  subst hw
  go_wp2_with fail
  refine (mul_is P a b (Gf.mul a b) _ hf2 ha hb rfl).mono ?_
  rintro e w3 ⟨rfl, q3⟩
  have hf3 := q3.field hf2
  have B3 := B2.trans (q3.below _)
  clear q3 hf2 B2
  go_wp2_with fail
  refine (rmul_any a b ha hb _).mono ?_
  rintro e w4 ⟨rfl, hw⟩
  subst hw
  go_wp2_with fail
  refine (exp_any P n _ hf3 h1 h2).mono ?_
  rintro e w4 ⟨rfl, hw⟩
  subst hw
  go_wp2_with fail
  refine (rexp_any n h1 h2 _).mono ?_
  rintro e w4 ⟨rfl, hw⟩
  subst hw
  go_wp2
  go_ret
  exact ⟨rfl, B3⟩

set_option maxRecDepth 100000 in
set_option maxHeartbeats 1000000 in
theorem core10 (a b : Nat) (n : Int) (ha : a < 256) (hb : b < 256) (a0 : a = 0) (b0 : b ≠ 0) (h1 : -9223372036854775808 ≤ n) (h2 : n ≤ 9223372036854775807) (w : World) :
    Calls Try.prog 3 #[.int .u8 a, .int .u8 b, .int .i64 n] w fun e w' => e = .returned (.bool true) ∧ Below w.heap.size w w' := by
  have HA : Hid (a = 0) := a0
  have HB : Hid (b ≠ 0) := b0
  clear a0 b0
  go_enter Try.func3, Try.ntmps3
  go_wp2_with fail
  refine (begun_any _).mono ?_
  rintro e w0 ⟨rfl, hb0⟩
  go_wp2_with fail
  refine (new_any _).mono ?_
  rintro e w1 ⟨rfl, hb1, hf1, hs1⟩
  have B1 : Below w.heap.size w w1 := hb0.trans (hb1.mono hb0.size)
  clear hb0 hb1 hs1
  generalize w0.heap.size = P at *
  go_wp2_with fail
  refine (inv_z P a _ hf1 HA.out).mono ?_
  rintro e w2 ⟨rfl, hw⟩
  subst hw
  go_wp2_with fail
  refine (rinv_zero a HA.out _).mono ?_
  rintro e w2 ⟨rfl, hw⟩
  subst hw
  go_wp2_with fail
  refine (div_is P a b _ hf1 ha hb HB.out).mono ?_
  rintro e w2 ⟨rfl, q2⟩
  have hf2 := q2.field hf1
  have B2 := B1.trans (q2.below _)
  clear q2 hf1 B1
  go_wp2_with fail
  refine (rdiv_ne a b ha hb HB.out _).mono ?_
  rintro e w3 ⟨rfl, hw⟩
  subst hw
  go_wp2_with fail
  refine (log_z P a _ hf2 HA.out).mono ?_
  rintro e w3 ⟨rfl, hw⟩
  subst hw
  go_wp2_with fail
  refine (rlog_zero a HA.out _).mono ?_
  rintro e w3 ⟨rfl, hw⟩
  subst hw
  go_wp2_with fail
  refine (mul_is P a b (Gf.mul a b) _ hf2 ha hb rfl).mono ?_
  rintro e w3 ⟨rfl, q3⟩
  have hf3 := q3.field hf2
  have B3 := B2.trans (q3.below _)
  clear q3 hf2 B2
  go_wp2_with fail
  refine (rmul_any a b ha hb _).mono ?_
  rintro e w4 ⟨rfl, hw⟩
  subst hw
  go_wp2_with fail
  refine (exp_any P n _ hf3 h1 h2).mono ?_
  rintro e w4 ⟨rfl, hw⟩
  subst hw
  go_wp2_with fail
  refine (rexp_any n h1 h2 _).mono ?_
  rintro e w4 ⟨rfl, hw⟩
  subst hw
  go_wp2
  go_ret
  exact ⟨rfl, B3⟩

set_option maxRecDepth 100000 in
set_option maxHeartbeats 1000000 in
theorem core11 (a b : Nat) (n : Int) (ha : a < 256) (hb : b < 256) (a0 : a = 0) (b0 : b = 0) (h1 : -9223372036854775808 ≤ n) (h2 : n ≤ 9223372036854775807) (w : World) :
    Calls Try.prog 3 #[.int .u8 a, .int .u8 b, .int .i64 n] w fun e w' => e = .returned (.bool true) ∧ Below w.heap.size w w' := by
  have HA : Hid (a = 0) := a0
  have HB : Hid (b = 0) := b0
  clear a0 b0
  go_enter Try.func3, Try.ntmps3
  go_wp2_with fail
  refine (begun_any _).mono ?_
  rintro e w0 ⟨rfl, hb0⟩
  go_wp2_with fail
  refine (new_any _).mono ?_
  rintro e w1 ⟨rfl, hb1, hf1, hs1⟩
  have B1 : Below w.heap.size w w1 := hb0.trans (hb1.mono hb0.size)
  clear hb0 hb1 hs1
  generalize w0.heap.size = P at *
  go_wp2_with fail
  refine (inv_z P a _ hf1 HA.out).mono ?_
  rintro e w2 ⟨rfl, hw⟩
  subst hw
  go_wp2_with fail
  refine (rinv_zero a HA.out _).mono ?_
  rintro e w2 ⟨rfl, hw⟩
  subst hw
  go_wp2_with fail
  refine (div_z P a b _ hf1 HB.out).mono ?_
  rintro e w2 ⟨rfl, hw⟩
  subst hw
  go_wp2_with fail
  refine (rdiv_zero a b ha HB.out _).mono ?_
  rintro e w2 ⟨rfl, hw⟩
  subst hw
  go_wp2_with fail
  refine (log_z P a _ hf1 HA.out).mono ?_
  rintro e w2 ⟨rfl, hw⟩
  subst hw
  go_wp2_with fail
  refine (rlog_zero a HA.out _).mono ?_
  rintro e w2 ⟨rfl, hw⟩
  subst hw
  go_wp2_with fail
  refine (mul_is P a b (Gf.mul a b) _ hf1 ha hb rfl).mono ?_
  rintro e w2 ⟨rfl, q2⟩
  have hf2 := q2.field hf1
  have B2 := B1.trans (q2.below _)
  clear q2 hf1 B1
  go_wp2_with fail
  refine (rmul_any a b ha hb _).mono ?_
  rintro e w3 ⟨rfl, hw⟩
  subst hw
  go_wp2_with fail
  refine (exp_any P n _ hf2 h1 h2).mono ?_
  rintro e w3 ⟨rfl, hw⟩
  subst hw
  go_wp2_with fail
  refine (rexp_any n h1 h2 _).mono ?_
  rintro e w3 ⟨rfl, hw⟩
  subst hw
  go_wp2
  go_ret
  exact ⟨rfl, B2⟩

theorem walk (a0 : Int) (a1 : Int) (a2 : Int) (w0 : (Lit.int .u8 a0).wf = true) (w1 : (Lit.int .u8 a1).wf = true) (w2 : (Lit.int .i64 a2).wf = true) (w : World) :
    Calls Try.prog 3 #[.int .u8 a0, .int .u8 a1, .int .i64 a2] w fun e w' => e = .returned (.bool true) ∧ Below w.heap.size w w' := by
  obtain ⟨a, rfl, ha⟩ := int_nat a0 (by have := bounds_u8 w0; omega)
  obtain ⟨b, rfl, hb⟩ := int_nat a1 (by have := bounds_u8 w1; omega)
  have b2 := bounds_i64 w2
  by_cases x : a = 0
  · by_cases y : b = 0
    · exact core11 a b a2 ha hb x y b2.1 b2.2 w
    · exact core10 a b a2 ha hb x y b2.1 b2.2 w
  · by_cases y : b = 0
    · exact core01 a b a2 ha hb x y b2.1 b2.2 w
    · exact core00 a b a2 ha hb x y b2.1 b2.2 w

/-! ### THE ROW's STEP: WRITTEN OUT: LEAVE IT -/
set_option maxRecDepth 100000 in
theorem lifted (os : Os) (started : os.Started) (H : Type) (enc : TypeId × Value → H) :
    ReturnsInHanded {} Try.checked os 3 .any (Rows.fieldAllSpec.pre6 enc Try.prog Try.f3 Rows.fieldAllRow.domain false) (Rows.fieldAllSpec.post enc Try.prog Try.f3 false true false false) := by
  refine returnsInHanded_of_change (C := Try.checked) own started (by kernel_rfl) Try.func3
    (ChangeSpec.witness6 (enc := enc) (C := Try.checked) false ⟨#[], #[.int .u8 0, .int .u8 0, .int .i64 0], []⟩ 8 (by kernel_rfl) (by kernel_rfl) (by kernel_rfl) (by kernel_rfl)) ?_
  intro W base args ds gs before hval0 hW hcnd _
  have hval : ∀ (j : Nat) t v, Try.f3.params[j]? = some t → args[j]? = some v → Value.okWide Try.prog W .any base t v := hval0
  have hW' := hW
  obtain ⟨p, q, hA0, hV, rfl, hfz, hnd⟩ := hW
  have hA : DataW.TrodAll enc Try.prog W 0 (fun _ => true) true Try.f3.params.toList args.toList ds p := hA0
  rw [Try.params3] at hA hval
  obtain ⟨v0, vs0, d0, ds0, p0, q0, hargs, rfl, rfl, h0, r0⟩ := trodAll_cons hA
  obtain ⟨v1, vs1, d1, ds1, p1, q1, rfl, rfl, rfl, h1, r1⟩ := trodAll_cons r0
  obtain ⟨v2, vs2, d2, ds2, p2, q2, rfl, rfl, rfl, h2, r2⟩ := trodAll_cons r1
  obtain ⟨rfl, rfl, rfl⟩ := trodAll_nil r2
  obtain rfl : args = #[v0, v1, v2] := by cases args; simp_all
  obtain ⟨rfl, rfl⟩ := trodVars_none hV
  obtain ⟨a0, rfl, rfl, rfl, w0⟩ := open_int Try.underlying5 (hval 0 5 v0 rfl rfl) h0
  obtain ⟨a1, rfl, rfl, rfl, w1⟩ := open_int Try.underlying5 (hval 1 5 v1 rfl rfl) h1
  obtain ⟨a2, rfl, rfl, rfl, w2⟩ := open_int Try.underlying3 (hval 2 3 v2 rfl rfl) h2
  clear hA0 hval0
  simp only [List.append_nil] at hW'
  refine (walk a0 a1 a2 w0 w1 w2 W).mono fun e W' ⟨he, hg⟩ => ?_
  subst he
  exact ⟨_, rfl, _, _, _, [], [], [], hW', (trodAll_cons_mk (shut_bool Try.underlying4 _) trodAll_mk0), (trodAll_cons_mk (shut_int Try.underlying5 w0) (trodAll_cons_mk (shut_int Try.underlying5 w1) (trodAll_cons_mk (shut_int Try.underlying3 w2) trodAll_mk0))), rfl, hg.frame _, fun h => by cases h⟩

theorem over : Rows.fieldAllRow.holds Try.pinned (OpenSpec.ofChange Rows.fieldAllSpec) :=
  OpenClaim.holds_of_wide 3 Try.f3 rfl rfl rfl rfl rfl rfl rfl ⟨rfl, rfl, rfl, rfl, rfl⟩ rfl rfl rfl rfl rfl (by kernel_rfl) Try.func3 (by kernel_rfl)
    (of_decide_eq_true (by kernel_rfl)) (by unfold Func.isWrapper; first | (rw [if_pos (by decide +kernel)]; kernel_rfl) | (rw [if_neg (by decide +kernel)]; exact ⟨rfl, rfl⟩))
    (fun os started H enc _ => lifted os started H enc)

theorem proved : Rows.FieldAllSaid :=
  over
end Go.Proofs.Ytehoimfbcjiloaa.fieldAll
namespace Go.Proofs.Ytehoimfbcjiloaa
theorem fieldAll_holds : Rows.FieldAllSaid := fieldAll.proved
#print axioms fieldAll_holds
end Go.Proofs.Ytehoimfbcjiloaa

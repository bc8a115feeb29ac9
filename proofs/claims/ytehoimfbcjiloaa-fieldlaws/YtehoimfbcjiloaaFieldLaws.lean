/-
  The program's field is a field: its products are associative, commutative and distribute over sums, 1 and 0 are as they should be, and each byte but 0 is turned back: the call returns true for every three bytes (no condition).
-/
import Derived.Test.YtehoimfbcjiloaaRows
import Derived.WalkKit
import Derived.ProofKit
import Derived.OpenShut
import Derived.ShutString
import Derived.Test.YtehoimfbcjiloaaBeg
import Derived.ChangeOld
import Derived.Below
namespace Go.Proofs.Ytehoimfbcjiloaa.fieldLaws
open Go.ChangeShapes Go.WideShapes Go.ChangeAt Go.RowKit
open Go.ChangeMaps (open_string shut_string)
set_option linter.unusedVariables false      -- a walk need not use every 'w<i>' (that an integer argument fits its kind)

theorem own : ownKnob Try.prog.godebug = none := by kernel_rfl

open Go.Deep

set_option maxRecDepth 100000 in
set_option maxHeartbeats 1000000 in
theorem core0 (a b c : Nat) (ha : a < 256) (hb : b < 256) (hc : c < 256) (h0 : a = 0) (w : World) :
    Calls Try.prog 5 #[.int .u8 a, .int .u8 b, .int .u8 c] w fun e w' => e = .returned (.bool true) ∧ Below w.heap.size w w' := by
  have hx : bits .xor .u8 (b : Int) (c : Int) = ((b ^^^ c : Nat) : Int) := u8_xor_nat _ _ hb hc
  have hx2 : bits .xor .u8 (Gf.mul a b : Int) (Gf.mul a c : Int) = ((Gf.mul a b ^^^ Gf.mul a c : Nat) : Int) := u8_xor_nat _ _ (Gf.mul_lt _ _) (Gf.mul_lt _ _)
  have h0' : ((a : Int) == 0) = true := by simp; omega
  have HZ : Hid (a = 0) := h0
  clear h0
  go_enter Try.func5, Try.ntmps5
  go_wp2_with fail
  refine (begun_any _).mono ?_
  rintro e w0 ⟨rfl, hb0⟩
  go_wp2_with fail
  refine (new_any _).mono ?_
  rintro e w1 ⟨rfl, hb1, hf1, hs1⟩
  have B1 : Below w.heap.size w w1 := hb0.trans (hb1.mono hb0.size)
  clear hb0 hb1 hs1
  generalize w0.heap.size = P at *
  go_wp2_with fail
  refine (mul_is P b c (Gf.mul b c) _ hf1 hb hc rfl).mono ?_
  rintro e w2 ⟨rfl, q2⟩
  have hf2 := q2.field hf1
  have B2 := B1.trans (q2.below _)
  clear q2 hf1 B1
  go_wp2_with fail
  refine (mul_is P a (Gf.mul b c) (Gf.mul a (Gf.mul b c)) _ hf2 ha (Gf.mul_lt _ _) rfl).mono ?_
  rintro e w3 ⟨rfl, q3⟩
  have hf3 := q3.field hf2
  have B3 := B2.trans (q3.below _)
  clear q3 hf2 B2
  go_wp2_with fail
  refine (mul_is P a b (Gf.mul a b) _ hf3 ha hb rfl).mono ?_
  rintro e w4 ⟨rfl, q4⟩
  have hf4 := q4.field hf3
  have B4 := B3.trans (q4.below _)
  clear q4 hf3 B3
  go_wp2_with fail
  refine (mul_is P (Gf.mul a b) c (Gf.mul a (Gf.mul b c)) _ hf4 (Gf.mul_lt _ _) hc (Gf.mul_assoc a b c).symm).mono ?_
  rintro e w5 ⟨rfl, q5⟩
  have hf5 := q5.field hf4
  have B5 := B4.trans (q5.below _)
  clear q5 hf4 B4
  go_wp2_with fail
  refine (mul_is P a b (Gf.mul a b) _ hf5 ha hb rfl).mono ?_
  rintro e w6 ⟨rfl, q6⟩
  have hf6 := q6.field hf5
  have B6 := B5.trans (q6.below _)
  clear q6 hf5 B5
  go_wp2_with fail
  refine (mul_is P b a (Gf.mul a b) _ hf6 hb ha (Gf.mul_comm b a)).mono ?_
  rintro e w7 ⟨rfl, q7⟩
  have hf7 := q7.field hf6
  have B7 := B6.trans (q7.below _)
  clear q7 hf6 B6
  go_wp2_with fail
  refine (mul_is P a (b ^^^ c) (Gf.mul a b ^^^ Gf.mul a c) _ hf7 ha (Gf.xor_lt b c hb hc) (Gf.mul_xor a b c ha hb hc)).mono ?_
  rintro e w8 ⟨rfl, q8⟩
  have hf8 := q8.field hf7
  have B8 := B7.trans (q8.below _)
  clear q8 hf7 B7
  go_wp2_with fail
  refine (mul_is P a b (Gf.mul a b) _ hf8 ha hb rfl).mono ?_
  rintro e w9 ⟨rfl, q9⟩
  have hf9 := q9.field hf8
  have B9 := B8.trans (q9.below _)
  clear q9 hf8 B8
  go_wp2_with fail
  refine (mul_is P a c (Gf.mul a c) _ hf9 ha hc rfl).mono ?_
  rintro e w10 ⟨rfl, q10⟩
  have hf10 := q10.field hf9
  have B10 := B9.trans (q10.below _)
  clear q10 hf9 B9
  go_wp2_with fail
  refine (mul_at P a 1 a _ hf10 ⟨by omega, by omega⟩ (by decide) (congrArg Int.ofNat (Gf.mul_one a ha))).mono ?_
  rintro e w11 ⟨rfl, q11⟩
  have hf11 := q11.field hf10
  have B11 := B10.trans (q11.below _)
  clear q11 hf10 B10
  go_wp2_with fail
  refine (mul_at P a 0 0 _ hf11 ⟨by omega, by omega⟩ (by decide) (congrArg Int.ofNat (Gf.mul_zero a))).mono ?_
  rintro e w12 ⟨rfl, q12⟩
  have hf12 := q12.field hf11
  have B12 := B11.trans (q12.below _)
  clear q12 hf11 B11
  go_wp2_with fail
  refine (inv_z P a _ hf12 HZ.out).mono ?_
  rintro e w13 ⟨rfl, hw⟩
  subst hw
  go_wp2_with fail
  refine (div_z P b a _ hf12 HZ.out).mono ?_
  rintro e w13 ⟨rfl, hw⟩
  subst hw
  go_wp2
  go_ret
  exact ⟨rfl, B12⟩

set_option maxRecDepth 100000 in
set_option maxHeartbeats 1000000 in
theorem core1 (a b c : Nat) (ha : a < 256) (hb : b < 256) (hc : c < 256) (h0 : a ≠ 0) (w : World) :
    Calls Try.prog 5 #[.int .u8 a, .int .u8 b, .int .u8 c] w fun e w' => e = .returned (.bool true) ∧ Below w.heap.size w w' := by
  have hx : bits .xor .u8 (b : Int) (c : Int) = ((b ^^^ c : Nat) : Int) := u8_xor_nat _ _ hb hc
  have hx2 : bits .xor .u8 (Gf.mul a b : Int) (Gf.mul a c : Int) = ((Gf.mul a b ^^^ Gf.mul a c : Nat) : Int) := u8_xor_nat _ _ (Gf.mul_lt _ _) (Gf.mul_lt _ _)
  have h0' : ((a : Int) == 0) = false := by simp; omega
  have hab : (((Gf.mul a b : Nat) : Int) == 0) = ((b : Int) == 0) := by
    rw [Bool.eq_iff_iff]
    simp only [beq_iff_eq]
    have := Gf.mul_eq_zero a b
    omega
  have HAB : Hid ((((Gf.mul a b : Nat) : Int) == 0) = ((b : Int) == 0)) := hab
  clear hab
  go_enter Try.func5, Try.ntmps5
  go_wp2_with fail
  refine (begun_any _).mono ?_
  rintro e w0 ⟨rfl, hb0⟩
  go_wp2_with fail
  refine (new_any _).mono ?_
  rintro e w1 ⟨rfl, hb1, hf1, hs1⟩
  have B1 : Below w.heap.size w w1 := hb0.trans (hb1.mono hb0.size)
  clear hb0 hb1 hs1
  generalize w0.heap.size = P at *
  go_wp2_with fail
  refine (mul_is P b c (Gf.mul b c) _ hf1 hb hc rfl).mono ?_
  rintro e w2 ⟨rfl, q2⟩
  have hf2 := q2.field hf1
  have B2 := B1.trans (q2.below _)
  clear q2 hf1 B1
  go_wp2_with fail
  refine (mul_is P a (Gf.mul b c) (Gf.mul a (Gf.mul b c)) _ hf2 ha (Gf.mul_lt _ _) rfl).mono ?_
  rintro e w3 ⟨rfl, q3⟩
  have hf3 := q3.field hf2
  have B3 := B2.trans (q3.below _)
  clear q3 hf2 B2
  go_wp2_with fail
  refine (mul_is P a b (Gf.mul a b) _ hf3 ha hb rfl).mono ?_
  rintro e w4 ⟨rfl, q4⟩
  have hf4 := q4.field hf3
  have B4 := B3.trans (q4.below _)
  clear q4 hf3 B3
  go_wp2_with fail
  refine (mul_is P (Gf.mul a b) c (Gf.mul a (Gf.mul b c)) _ hf4 (Gf.mul_lt _ _) hc (Gf.mul_assoc a b c).symm).mono ?_
  rintro e w5 ⟨rfl, q5⟩
  have hf5 := q5.field hf4
  have B5 := B4.trans (q5.below _)
  clear q5 hf4 B4
  go_wp2_with fail
  refine (mul_is P a b (Gf.mul a b) _ hf5 ha hb rfl).mono ?_
  rintro e w6 ⟨rfl, q6⟩
  have hf6 := q6.field hf5
  have B6 := B5.trans (q6.below _)
  clear q6 hf5 B5
  go_wp2_with fail
  refine (mul_is P b a (Gf.mul a b) _ hf6 hb ha (Gf.mul_comm b a)).mono ?_
  rintro e w7 ⟨rfl, q7⟩
  have hf7 := q7.field hf6
  have B7 := B6.trans (q7.below _)
  clear q7 hf6 B6
  go_wp2_with fail
  refine (mul_is P a (b ^^^ c) (Gf.mul a b ^^^ Gf.mul a c) _ hf7 ha (Gf.xor_lt b c hb hc) (Gf.mul_xor a b c ha hb hc)).mono ?_
  rintro e w8 ⟨rfl, q8⟩
  have hf8 := q8.field hf7
  have B8 := B7.trans (q8.below _)
  clear q8 hf7 B7
  go_wp2_with fail
  refine (mul_is P a b (Gf.mul a b) _ hf8 ha hb rfl).mono ?_
  rintro e w9 ⟨rfl, q9⟩
  have hf9 := q9.field hf8
  have B9 := B8.trans (q9.below _)
  clear q9 hf8 B8
  go_wp2_with fail
  refine (mul_is P a c (Gf.mul a c) _ hf9 ha hc rfl).mono ?_
  rintro e w10 ⟨rfl, q10⟩
  have hf10 := q10.field hf9
  have B10 := B9.trans (q10.below _)
  clear q10 hf9 B9
  go_wp2_with fail
  refine (mul_at P a 1 a _ hf10 ⟨by omega, by omega⟩ (by decide) (congrArg Int.ofNat (Gf.mul_one a ha))).mono ?_
  rintro e w11 ⟨rfl, q11⟩
  have hf11 := q11.field hf10
  have B11 := B10.trans (q11.below _)
  clear q11 hf10 B10
  go_wp2_with fail
  refine (mul_at P a 0 0 _ hf11 ⟨by omega, by omega⟩ (by decide) (congrArg Int.ofNat (Gf.mul_zero a))).mono ?_
  rintro e w12 ⟨rfl, q12⟩
  have hf12 := q12.field hf11
  have B12 := B11.trans (q12.below _)
  clear q12 hf11 B11
  go_wp2_with fail
  refine (inv_is P a _ hf12 ha h0).mono ?_
  rintro e w13 ⟨rfl, q13⟩
  have hf13 := q13.field hf12
  have B13 := B12.trans (q13.below _)
  clear q13 hf12 B12
  go_wp2_with fail
  refine (div_is P b a _ hf13 hb ha h0).mono ?_
  rintro e w14 ⟨rfl, q14⟩
  have hf14 := q14.field hf13
  have B14 := B13.trans (q14.below _)
  clear q14 hf13 B13
  go_wp2_with fail
  refine (mul_at P a (Gf.inv a : Int) 1 _ hf14 ⟨by omega, by omega⟩ ⟨by omega, by have := Gf.inv_lt a; omega⟩ (congrArg Int.ofNat (Gf.mul_inv a ha h0))).mono ?_
  rintro e w15 ⟨rfl, q15⟩
  have hf15 := q15.field hf14
  have B15 := B14.trans (q15.below _)
  clear q15 hf14 B14
  go_wp2_with fail
  refine (mul_is P (Gf.mul b (Gf.inv a)) a b _ hf15 (Gf.mul_lt _ _) ha (by rw [← Gf.mul_assoc, Gf.mul_comm (Gf.inv a) a, Gf.mul_inv a ha h0, Gf.mul_one b hb])).mono ?_
  rintro e w16 ⟨rfl, q16⟩
  have hf16 := q16.field hf15
  have B16 := B15.trans (q16.below _)
  clear q16 hf15 B15
  go_wp2_with fail
  refine (mul_is P a b (Gf.mul a b) _ hf16 ha hb rfl).mono ?_
  rintro e w17 ⟨rfl, q17⟩
  have hf17 := q17.field hf16
  have B17 := B16.trans (q17.below _)
  clear q17 hf16 B16
  have hab := HAB.out
  go_wp2
  go_ret
  exact ⟨rfl, B17⟩

theorem walk (a0 : Int) (a1 : Int) (a2 : Int) (w0 : (Lit.int .u8 a0).wf = true) (w1 : (Lit.int .u8 a1).wf = true) (w2 : (Lit.int .u8 a2).wf = true) (w : World) :
    Calls Try.prog 5 #[.int .u8 a0, .int .u8 a1, .int .u8 a2] w fun e w' => e = .returned (.bool true) ∧ Below w.heap.size w w' := by
  obtain ⟨a, rfl, ha⟩ := int_nat a0 (by have := bounds_u8 w0; omega)
  obtain ⟨b, rfl, hb⟩ := int_nat a1 (by have := bounds_u8 w1; omega)
  obtain ⟨c, rfl, hc⟩ := int_nat a2 (by have := bounds_u8 w2; omega)
  clear w0 w1 w2
  by_cases h0 : a = 0
  · exact core0 a b c ha hb hc h0 w
  · exact core1 a b c ha hb hc h0 w

/-! ### THE ROW's STEP: WRITTEN OUT: LEAVE IT -/
set_option maxRecDepth 100000 in
theorem lifted (os : Os) (started : os.Started) (H : Type) (enc : TypeId × Value → H) :
    ReturnsInHanded {} Try.checked os 5 .any (Rows.fieldLawsSpec.pre6 enc Try.prog Try.f5 Rows.fieldLawsRow.domain false) (Rows.fieldLawsSpec.post enc Try.prog Try.f5 false true false false) := by
  refine returnsInHanded_of_change (C := Try.checked) own started (by kernel_rfl) Try.func5
    (ChangeSpec.witness6 (enc := enc) (C := Try.checked) false ⟨#[], #[.int .u8 0, .int .u8 0, .int .u8 0], []⟩ 8 (by kernel_rfl) (by kernel_rfl) (by kernel_rfl) (by kernel_rfl)) ?_
  intro W base args ds gs before hval0 hW hcnd _
  have hval : ∀ (j : Nat) t v, Try.f5.params[j]? = some t → args[j]? = some v → Value.okWide Try.prog W .any base t v := hval0
  have hW' := hW
  obtain ⟨p, q, hA0, hV, rfl, hfz, hnd⟩ := hW
  have hA : DataW.TrodAll enc Try.prog W 0 (fun _ => true) true Try.f5.params.toList args.toList ds p := hA0
  rw [Try.params5] at hA hval
  obtain ⟨v0, vs0, d0, ds0, p0, q0, hargs, rfl, rfl, h0, r0⟩ := trodAll_cons hA
  obtain ⟨v1, vs1, d1, ds1, p1, q1, rfl, rfl, rfl, h1, r1⟩ := trodAll_cons r0
  obtain ⟨v2, vs2, d2, ds2, p2, q2, rfl, rfl, rfl, h2, r2⟩ := trodAll_cons r1
  obtain ⟨rfl, rfl, rfl⟩ := trodAll_nil r2
  obtain rfl : args = #[v0, v1, v2] := by cases args; simp_all
  obtain ⟨rfl, rfl⟩ := trodVars_none hV
  obtain ⟨a0, rfl, rfl, rfl, w0⟩ := open_int Try.underlying5 (hval 0 5 v0 rfl rfl) h0
  obtain ⟨a1, rfl, rfl, rfl, w1⟩ := open_int Try.underlying5 (hval 1 5 v1 rfl rfl) h1
  obtain ⟨a2, rfl, rfl, rfl, w2⟩ := open_int Try.underlying5 (hval 2 5 v2 rfl rfl) h2
  clear hA0 hval0
  simp only [List.append_nil] at hW'
  refine (walk a0 a1 a2 w0 w1 w2 W).mono fun e W' ⟨he, hg⟩ => ?_
  subst he
  exact ⟨_, rfl, _, _, _, [], [], [], hW', (trodAll_cons_mk (shut_bool Try.underlying4 _) trodAll_mk0), (trodAll_cons_mk (shut_int Try.underlying5 w0) (trodAll_cons_mk (shut_int Try.underlying5 w1) (trodAll_cons_mk (shut_int Try.underlying5 w2) trodAll_mk0))), rfl, hg.frame _, fun h => by cases h⟩

theorem over : Rows.fieldLawsRow.holds Try.pinned (OpenSpec.ofChange Rows.fieldLawsSpec) :=
  OpenClaim.holds_of_wide 5 Try.f5 rfl rfl rfl rfl rfl rfl rfl ⟨rfl, rfl, rfl, rfl, rfl⟩ rfl rfl rfl rfl rfl (by kernel_rfl) Try.func5 (by kernel_rfl)
    (of_decide_eq_true (by kernel_rfl)) (by unfold Func.isWrapper; first | (rw [if_pos (by decide +kernel)]; kernel_rfl) | (rw [if_neg (by decide +kernel)]; exact ⟨rfl, rfl⟩))
    (fun os started H enc _ => lifted os started H enc)

theorem proved : Rows.FieldLawsSaid :=
  over
end Go.Proofs.Ytehoimfbcjiloaa.fieldLaws
namespace Go.Proofs.Ytehoimfbcjiloaa
theorem fieldLaws_holds : Rows.FieldLawsSaid := fieldLaws.proved
#print axioms fieldLaws_holds
end Go.Proofs.Ytehoimfbcjiloaa

/-
  In the program's field a sum's square is the squares' sum, eight squarings give each byte back, and squares of unlike bytes are unlike: the call returns true for every two bytes (no condition).
-/
import Derived.Test.YtehoimfbcjiloabRows
import Derived.WalkKit
import Derived.ProofKit
import Derived.OpenShut
import Derived.ShutString
import Derived.Test.YtehoimfbcjiloabBeg
import Derived.ChangeOld
import Derived.Below
namespace Go.Proofs.Ytehoimfbcjiloab.fieldSquares
open Go.ChangeShapes Go.WideShapes Go.ChangeAt Go.RowKit
open Go.ChangeMaps (open_string shut_string)
set_option linter.unusedVariables false      -- a walk need not use every 'w<i>' (that an integer argument fits its kind)

theorem own : ownKnob Try.prog.godebug = none := by kernel_rfl

open Go.Deep

/-- k squarings. -/
def sqs : Nat → Nat → Nat
  | 0, a => a
  | k + 1, a => Gf.mul (sqs k a) (sqs k a)
theorem sqs_lt (k a : Nat) (h : a < 256) : sqs k a < 256 := by
  cases k with
  | zero => exact h
  | succ k => exact Gf.mul_lt _ _
theorem sqs_pw (k n : Nat) : sqs k (Gf.pw n) = Gf.pw (2 ^ k * n) := by
  induction k with
  | zero => show Gf.pw n = _; rw [Nat.pow_zero, Nat.one_mul]
  | succ k ih => show Gf.mul (sqs k (Gf.pw n)) (sqs k (Gf.pw n)) = _; rw [ih, Gf.mul_pw, Nat.pow_succ, Nat.mul_right_comm, Nat.mul_two]
theorem sqs_zero (k : Nat) : sqs k 0 = 0 := by
  induction k with
  | zero => rfl
  | succ k ih => show Gf.mul (sqs k 0) (sqs k 0) = 0; rw [ih]; exact Gf.zero_mul 0
theorem sqs_eight (a : Nat) (h : a < 256) : sqs 8 a = a := by
  by_cases h0 : a = 0
  · subst h0; exact sqs_zero 8
  · have e := sqs_pw 8 (Gf.lg a)
    rw [Gf.pw_lg a h h0] at e
    rw [e]
    refine (Gf.pw_congr _ (Gf.lg a) ?_).trans (Gf.pw_lg a h h0)
    omega
theorem square_sum (a b : Nat) (ha : a < 256) (hb : b < 256) : Gf.mul (a ^^^ b) (a ^^^ b) = Gf.mul a a ^^^ Gf.mul b b := by
  have hx := Gf.xor_lt a b ha hb
  rw [Gf.mul_xor _ a b hx ha hb, Gf.xor_mul a b a ha hb ha, Gf.xor_mul a b b ha hb hb, Gf.mul_comm b a, Nat.xor_assoc, ← Nat.xor_assoc (Gf.mul a b), Nat.xor_self, Nat.zero_xor]
theorem xor_zero_eq (a b : Nat) (h : a ^^^ b = 0) : a = b := by
  have e : (a ^^^ b) ^^^ b = a := by rw [Nat.xor_assoc, Nat.xor_self, Nat.xor_zero]
  rw [h, Nat.zero_xor] at e
  exact e.symm
theorem square_inj (a b : Nat) (ha : a < 256) (hb : b < 256) : Gf.mul a a = Gf.mul b b ↔ a = b := by
  constructor
  · intro h
    have e := square_sum a b ha hb
    rw [h, Nat.xor_self] at e
    exact xor_zero_eq a b ((Gf.mul_eq_zero _ _).1 e |>.elim id id)
  · intro h; rw [h]

set_option maxRecDepth 100000 in
set_option maxHeartbeats 1000000 in
theorem core (a b : Nat) (ha : a < 256) (hb : b < 256) (w : World) :
    Calls Try.prog 3 #[.int .u8 a, .int .u8 b] w fun e w' => e = .returned (.bool true) ∧ Below w.heap.size w w' := by
  have hx : bits .xor .u8 (a : Int) (b : Int) = ((a ^^^ b : Nat) : Int) := u8_xor_nat _ _ ha hb
  have hx2 : bits .xor .u8 (Gf.mul a a : Int) (Gf.mul b b : Int) = ((Gf.mul a a ^^^ Gf.mul b b : Nat) : Int) := u8_xor_nat _ _ (Gf.mul_lt _ _) (Gf.mul_lt _ _)
  have HS : Hid ((((Gf.mul a a : Nat) : Int) == ((Gf.mul b b : Nat) : Int)) = ((a : Int) == (b : Int))) := by
    show _ = _
    rw [Bool.eq_iff_iff]
    simp only [beq_iff_eq]
    have := square_inj a b ha hb
    omega
  go_enter Try.func3, Try.ntmps3
  go_wp2_with fail
  refine (begun_any _).mono ?_
  rintro e w0 ⟨rfl, hb0⟩
  go_wp2_with fail
  refine (new_any _).mono ?_
  rintro e w1 ⟨rfl, hb1, hf1, hs1⟩
  have B1 : Below w.heap.size w w1 := hb0.trans (hb1.mono hb0.size)
  clear hb0 hb1 hs1
  generalize w0.heap.size = P at *
  go_wp2_with fail
  refine (mul_is P (a ^^^ b) (a ^^^ b) (Gf.mul a a ^^^ Gf.mul b b) _ hf1 (Gf.xor_lt a b ha hb) (Gf.xor_lt a b ha hb) (square_sum a b ha hb)).mono ?_
  rintro e w2 ⟨rfl, q2⟩
  have hf2 := q2.field hf1
  have B2 := B1.trans (q2.below _)
  clear q2 hf1 B1
  go_wp2_with fail
  refine (mul_is P a a (Gf.mul a a) _ hf2 ha ha rfl).mono ?_
  rintro e w3 ⟨rfl, q3⟩
  have hf3 := q3.field hf2
  have B3 := B2.trans (q3.below _)
  clear q3 hf2 B2
  go_wp2_with fail
  refine (mul_is P b b (Gf.mul b b) _ hf3 hb hb rfl).mono ?_
  rintro e w4 ⟨rfl, q4⟩
  have hf4 := q4.field hf3
  have B4 := B3.trans (q4.below _)
  clear q4 hf3 B3
  go_wp2_with fail
  clear hx hx2
  go_loopw [7, 8] (fun x i wr => ∃ k : Nat, k ≤ 8 ∧ i = .int .i64 k ∧ x = .int .u8 (sqs k a) ∧ FieldAt wr P ∧ Below w.heap.size w wr) (fun _ i _ => 8 - (intOf i).toNat)
  case atStart => exact ⟨0, by omega, rfl, rfl, hf4, B4⟩
  case round =>
    obtain ⟨k, hk, rfl, rfl, hf, hB⟩ := hrel
    by_cases hlt : k < 8
    · go_wp2_with fail
      refine (mul_is P (sqs k a) (sqs k a) (sqs (k + 1) a) _ hf (sqs_lt k a ha) (sqs_lt k a ha) rfl).mono ?_
      rintro e wz ⟨rfl, qz⟩
      have hfz := qz.field hf
      have hBz := hB.trans (qz.below _)
      clear qz
      go_wp2
      go_roundw
      case rel => exact ⟨k + 1, by omega, by go_num, rfl, hfz, hBz⟩
      case measure => simp [intOf]; omega
    · have hk8 : k = 8 := by omega
      subst hk8
      rw [sqs_eight a ha]
      clear hk hlt
      go_wp2_with fail
      refine (mul_is P a a (Gf.mul a a) _ hf ha ha rfl).mono ?_
      rintro e w6 ⟨rfl, q6⟩
      have hf6 := q6.field hf
      have B6 := hB.trans (q6.below _)
      clear q6
      go_wp2_with fail
      refine (mul_is P b b (Gf.mul b b) _ hf6 hb hb rfl).mono ?_
      rintro e w7 ⟨rfl, q7⟩
      have B7 := B6.trans (q7.below _)
      clear q7
      have hsq := HS.out
      go_wp2
      go_ret
      exact ⟨rfl, B7⟩

theorem walk (a0 : Int) (a1 : Int) (w0 : (Lit.int .u8 a0).wf = true) (w1 : (Lit.int .u8 a1).wf = true) (w : World) :
    Calls Try.prog 3 #[.int .u8 a0, .int .u8 a1] w fun e w' => e = .returned (.bool true) ∧ Below w.heap.size w w' := by
  obtain ⟨a, rfl, ha⟩ := int_nat a0 (by have := bounds_u8 w0; omega)
  obtain ⟨b, rfl, hb⟩ := int_nat a1 (by have := bounds_u8 w1; omega)
  exact core a b ha hb w

/-! ### THE ROW's STEP: WRITTEN OUT: LEAVE IT -/
set_option maxRecDepth 100000 in
theorem lifted (os : Os) (started : os.Started) (H : Type) (enc : TypeId × Value → H) :
    ReturnsInHanded {} Try.checked os 3 .any (Rows.fieldSquaresSpec.pre6 enc Try.prog Try.f3 Rows.fieldSquaresRow.domain false) (Rows.fieldSquaresSpec.post enc Try.prog Try.f3 false true false false) := by
  refine returnsInHanded_of_change (C := Try.checked) own started (by kernel_rfl) Try.func3
    (ChangeSpec.witness6 (enc := enc) (C := Try.checked) false ⟨#[], #[.int .u8 0, .int .u8 0], []⟩ 8 (by kernel_rfl) (by kernel_rfl) (by kernel_rfl) (by kernel_rfl)) ?_
  intro W base args ds gs before hval0 hW hcnd _
  have hval : ∀ (j : Nat) t v, Try.f3.params[j]? = some t → args[j]? = some v → Value.okWide Try.prog W .any base t v := hval0
  have hW' := hW
  obtain ⟨p, q, hA0, hV, rfl, hfz, hnd⟩ := hW
  have hA : DataW.TrodAll enc Try.prog W 0 (fun _ => true) true Try.f3.params.toList args.toList ds p := hA0
  rw [Try.params3] at hA hval
  obtain ⟨v0, vs0, d0, ds0, p0, q0, hargs, rfl, rfl, h0, r0⟩ := trodAll_cons hA
  obtain ⟨v1, vs1, d1, ds1, p1, q1, rfl, rfl, rfl, h1, r1⟩ := trodAll_cons r0
  obtain ⟨rfl, rfl, rfl⟩ := trodAll_nil r1
  obtain rfl : args = #[v0, v1] := by cases args; simp_all
  obtain ⟨rfl, rfl⟩ := trodVars_none hV
  obtain ⟨a0, rfl, rfl, rfl, w0⟩ := open_int Try.underlying5 (hval 0 5 v0 rfl rfl) h0
  obtain ⟨a1, rfl, rfl, rfl, w1⟩ := open_int Try.underlying5 (hval 1 5 v1 rfl rfl) h1
  clear hA0 hval0
  simp only [List.append_nil] at hW'
  refine (walk a0 a1 w0 w1 W).mono fun e W' ⟨he, hg⟩ => ?_
  subst he
  exact ⟨_, rfl, _, _, _, [], [], [], hW', (trodAll_cons_mk (shut_bool Try.underlying4 _) trodAll_mk0), (trodAll_cons_mk (shut_int Try.underlying5 w0) (trodAll_cons_mk (shut_int Try.underlying5 w1) trodAll_mk0)), rfl, hg.frame _, fun h => by cases h⟩

theorem over : Rows.fieldSquaresRow.holds Try.pinned (OpenSpec.ofChange Rows.fieldSquaresSpec) :=
  OpenClaim.holds_of_wide 3 Try.f3 rfl rfl rfl rfl rfl rfl rfl ⟨rfl, rfl, rfl, rfl, rfl⟩ rfl rfl rfl rfl rfl (by kernel_rfl) Try.func3 (by kernel_rfl)
    (of_decide_eq_true (by kernel_rfl)) (by unfold Func.isWrapper; first | (rw [if_pos (by decide +kernel)]; kernel_rfl) | (rw [if_neg (by decide +kernel)]; exact ⟨rfl, rfl⟩))
    (fun os started H enc _ => lifted os started H enc)

theorem proved : Rows.FieldSquaresSaid :=
  over
end Go.Proofs.Ytehoimfbcjiloab.fieldSquares
namespace Go.Proofs.Ytehoimfbcjiloab
theorem fieldSquares_holds : Rows.FieldSquaresSaid := fieldSquares.proved
#print axioms fieldSquares_holds
end Go.Proofs.Ytehoimfbcjiloab

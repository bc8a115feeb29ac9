/-
  Of two numbers that are not just half a round apart one is behind the other, and moved alike they stay so: the call returns true, whatever the numbers are (no condition).
-/
import Derived.Test.YtclgoaimbdaehaaRows
import Derived.WalkKit
import Derived.ProofKit
import Derived.OpenShut
import Derived.ShutString
import Derived.Test.YtclgoaimbdaehaaSeb
import Derived.ChangeOld
import Derived.Below
namespace Go.Proofs.Ytclgoaimbdaehaa.serialRound
open Go.ChangeShapes Go.WideShapes Go.ChangeAt Go.RowKit
open Go.ChangeMaps (open_string shut_string)
set_option linter.unusedVariables false      -- a walk need not use every 'w<i>' (that an integer argument fits its kind)

theorem own : ownKnob Try.prog.godebug = none := by kernel_rfl

open Go.Deep

theorem dif_moved (a b m : Nat) : Ser.dif ((a + m) % 65536) ((b + m) % 65536) = Ser.dif a b := by
  unfold Ser.dif
  rw [show ((((b + m) % 65536 : Nat) : Int) - ((a + m) % 65536 : Nat)) % 65536 = ((b : Int) - a) % 65536 by omega]
theorem dif_back {a b : Nat} (ha : a < 65536) (hb : b < 65536) (h : Ser.dif a b ≠ -32768) : Ser.dif b a = - Ser.dif a b := by
  revert h
  unfold Ser.dif
  split <;> split <;> omega
theorem dif_half {a b : Nat} (ha : a < 65536) (hb : b < 65536) (h : Ser.dif a b = -32768) : Ser.dif b a = -32768 := by
  revert h
  unfold Ser.dif
  split <;> split <;> omega
theorem dif_zero {a b : Nat} (ha : a < 65536) (hb : b < 65536) : Ser.dif a b = 0 ↔ a = b := by
  unfold Ser.dif
  split <;> omega
theorem dif_to {a b : Nat} (hb : b < 65536) : ((a : Int) + Ser.dif a b) % 65536 = b := by
  unfold Ser.dif
  split <;> omega

set_option maxRecDepth 100000 in
set_option maxHeartbeats 1000000 in
theorem core (a b m : Nat) (w : World) (ha : a < 65536) (hb : b < 65536) :
    Calls Try.prog 4 #[.int .u16 (a : Int), .int .u16 (b : Int), .int .u16 (m : Int)] w fun e w' => e = .returned (.bool true) ∧ Below w.heap.size w w' := by
  go_enter Try.func4, Try.ntmps4
  go_wp2_with fail
  refine (begun8 _).mono ?_
  rintro e w1 ⟨rfl, b1⟩
  have HB : Hid (Below w.heap.size w w1) := b1
  clear b1
  go_wp2_with fail
  refine (diff_any a b _).mono ?_
  rintro e w2 ⟨rfl, rfl⟩
  have hr := Ser.dif_range a b
  have l1 : decide (Ser.dif a b < -32768) = false := by simp; omega
  have l2 : decide (32767 < Ser.dif a b) = false := by simp; omega
  have e1 : IntKind.u16.wrap ((a : Int) + Ser.dif a b) = (b : Int) := by rw [IntKind.wrap_u16, dif_to hb]
  have e2 : IntKind.u16.wrap ((a : Int) + (m : Int)) = (((a + m) % 65536 : Nat) : Int) := by rw [IntKind.wrap_u16]; omega
  have e3 : IntKind.u16.wrap ((b : Int) + (m : Int)) = (((b + m) % 65536 : Nat) : Int) := by rw [IntKind.wrap_u16]; omega
  go_wp2_with fail
  refine (diff_any ((a + m) % 65536) ((b + m) % 65536) _).mono ?_
  rw [dif_moved]
  rintro e w3 ⟨rfl, rfl⟩
  go_wp2_with fail
  refine (less_any a b _).mono ?_
  rintro e w4 ⟨rfl, rfl⟩
  clear e2 e3 e1 l1 l2
  go_wp2_with fail
  · rename_i h0 _ _ _ _
    have h0 := eq_of_beq h0
    refine (less_any a b _).mono ?_
    rw [h0]
    rintro e w5 ⟨rfl, rfl⟩
    go_wp2_with fail
    refine (less_any b a _).mono ?_
    rw [dif_half ha hb h0]
    rintro e w6 ⟨rfl, rfl⟩
    go_wp2
    go_ret
    exact ⟨rfl, HB.out⟩
  · rename_i h0 _ _ _ _
    have h0 := ne_of_beq_false h0
    refine (diff_any b a _).mono ?_
    rw [dif_back ha hb h0]
    rintro e w5 ⟨rfl, rfl⟩
    go_wp2_with fail
    refine (less_any b a _).mono ?_
    rw [dif_back ha hb h0, show decide (0 < -Ser.dif a b) = decide (Ser.dif a b < 0) from decide_eq_decide.2 (by omega)]
    rintro e w6 ⟨rfl, rfl⟩
    have ez : (Ser.dif a b == 0) = ((a : Int) == (b : Int)) := by
      have := dif_zero ha hb
      rw [Bool.eq_iff_iff, beq_iff_eq, beq_iff_eq]
      omega
    go_wp2
    go_ret
    exact ⟨rfl, HB.out⟩
theorem walk (a0 : Int) (a1 : Int) (a2 : Int) (w0 : (Lit.int .u16 a0).wf = true) (w1 : (Lit.int .u16 a1).wf = true) (w2 : (Lit.int .u16 a2).wf = true) (w : World) :
    Calls Try.prog 4 #[.int .u16 a0, .int .u16 a1, .int .u16 a2] w fun e w' => e = .returned (.bool true) ∧ Below w.heap.size w w' := by
  have b0 := bounds_u16 w0
  have b1 := bounds_u16 w1
  have b2 := bounds_u16 w2
  obtain ⟨a, rfl⟩ : ∃ n : Nat, a0 = n := ⟨a0.toNat, by omega⟩
  obtain ⟨b, rfl⟩ : ∃ n : Nat, a1 = n := ⟨a1.toNat, by omega⟩
  obtain ⟨m, rfl⟩ : ∃ n : Nat, a2 = n := ⟨a2.toNat, by omega⟩
  exact core a b m w (by omega) (by omega)

/-! ### THE ROW's STEP: WRITTEN OUT: LEAVE IT -/
set_option maxRecDepth 100000 in
theorem lifted (os : Os) (started : os.Started) (H : Type) (enc : TypeId × Value → H) :
    ReturnsInHanded {} Try.checked os 4 .any (Rows.serialRoundSpec.pre6 enc Try.prog Try.f4 Rows.serialRoundRow.domain false) (Rows.serialRoundSpec.post enc Try.prog Try.f4 false true false false) := by
  refine returnsInHanded_of_change (C := Try.checked) own started (by kernel_rfl) Try.func4
    (ChangeSpec.witness6 (enc := enc) (C := Try.checked) false ⟨#[], #[.int .u16 0, .int .u16 0, .int .u16 0], []⟩ 8 (by kernel_rfl) (by kernel_rfl) (by kernel_rfl) (by kernel_rfl)) ?_
  intro W base args ds gs before hval0 hW hcnd _
  have hval : ∀ (j : Nat) t v, Try.f4.params[j]? = some t → args[j]? = some v → Value.okWide Try.prog W .any base t v := hval0
  have hW' := hW
  obtain ⟨p, q, hA0, hV, rfl, hfz, hnd⟩ := hW
  have hA : DataW.TrodAll enc Try.prog W 0 (fun _ => true) true Try.f4.params.toList args.toList ds p := hA0
  rw [Try.params4] at hA hval
  obtain ⟨v0, vs0, d0, ds0, p0, q0, hargs, rfl, rfl, h0, r0⟩ := trodAll_cons hA
  obtain ⟨v1, vs1, d1, ds1, p1, q1, rfl, rfl, rfl, h1, r1⟩ := trodAll_cons r0
  obtain ⟨v2, vs2, d2, ds2, p2, q2, rfl, rfl, rfl, h2, r2⟩ := trodAll_cons r1
  obtain ⟨rfl, rfl, rfl⟩ := trodAll_nil r2
  obtain rfl : args = #[v0, v1, v2] := by cases args; simp_all
  obtain ⟨rfl, rfl⟩ := trodVars_none hV
  obtain ⟨a0, rfl, rfl, rfl, w0⟩ := open_int Try.underlying22 (hval 0 22 v0 rfl rfl) h0
  obtain ⟨a1, rfl, rfl, rfl, w1⟩ := open_int Try.underlying22 (hval 1 22 v1 rfl rfl) h1
  obtain ⟨a2, rfl, rfl, rfl, w2⟩ := open_int Try.underlying22 (hval 2 22 v2 rfl rfl) h2
  clear hA0 hval0
  simp only [List.append_nil] at hW'
  refine (walk a0 a1 a2 w0 w1 w2 W).mono fun e W' ⟨he, hg⟩ => ?_
  subst he
  exact ⟨_, rfl, _, _, _, [], [], [], hW', (trodAll_cons_mk (shut_bool Try.underlying4 _) trodAll_mk0), (trodAll_cons_mk (shut_int Try.underlying22 w0) (trodAll_cons_mk (shut_int Try.underlying22 w1) (trodAll_cons_mk (shut_int Try.underlying22 w2) trodAll_mk0))), rfl, hg.frame _, fun h => by cases h⟩

theorem over : Rows.serialRoundRow.holds Try.pinned (OpenSpec.ofChange Rows.serialRoundSpec) :=
  OpenClaim.holds_of_wide 4 Try.f4 rfl rfl rfl rfl rfl rfl rfl ⟨rfl, rfl, rfl, rfl, rfl⟩ rfl rfl rfl rfl rfl (by kernel_rfl) Try.func4 (by kernel_rfl)
    (of_decide_eq_true (by kernel_rfl)) (by unfold Func.isWrapper; first | (rw [if_pos (by decide +kernel)]; kernel_rfl) | (rw [if_neg (by decide +kernel)]; exact ⟨rfl, rfl⟩))
    (fun os started H enc _ => lifted os started H enc)

theorem proved : Rows.SerialRoundSaid :=
  over
end Go.Proofs.Ytclgoaimbdaehaa.serialRound
namespace Go.Proofs.Ytclgoaimbdaehaa
theorem serialRound_holds : Rows.SerialRoundSaid := serialRound.proved
#print axioms serialRound_holds
end Go.Proofs.Ytclgoaimbdaehaa

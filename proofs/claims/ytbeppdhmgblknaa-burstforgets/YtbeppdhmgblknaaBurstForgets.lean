/-
  A long row is forgotten by a quarter each time, and wholly behind a hundred looks of none: the call returns true, whatever the numbers are (no condition).
-/
import Derived.Test.YtbeppdhmgblknaaRows
import Derived.WalkKit
import Derived.ProofKit
import Derived.OpenShut
import Derived.ShutString
import Derived.Test.YtbeppdhmgblknaaBu2
import Derived.ChangeOld
import Derived.Below
namespace Go.Proofs.Ytbeppdhmgblknaa.burstForgets
open Go.ChangeShapes Go.WideShapes Go.ChangeAt Go.RowKit
open Go.ChangeMaps (open_string shut_string)
set_option linter.unusedVariables false      -- a walk need not use every 'w<i>' (that an integer argument fits its kind)

theorem own : ownKnob Try.prog.godebug = none := by kernel_rfl

open Go.Deep

/-- The most that a value can be behind i looks of none. -/
def most : Nat → Nat
  | 0 => 1048560
  | i + 1 => 3 * most i / 4
set_option maxRecDepth 100000 in
theorem most_hundred : most 100 = 0 := by decide
theorem most_end : ∀ d, most (100 + d) = 0
  | 0 => most_hundred
  | d + 1 => by
    show 3 * most (100 + d) / 4 = 0
    rw [most_end d]
/-- The value v is no more than that. -/
def Small (i v : Nat) : Prop := v ≤ most i
theorem small_next {i v : Nat} (h : Small i v) : Small (i + 1) (3 * v / 4) := by
  unfold Small at *
  show 3 * v / 4 ≤ 3 * most i / 4
  omega
theorem most_le (i : Nat) : most i ≤ 1048560 := by
  induction i with
  | zero => exact Nat.le_refl _
  | succ i ih =>
    show 3 * most i / 4 ≤ 1048560
    omega

set_option maxRecDepth 100000 in
set_option maxHeartbeats 1000000 in
theorem core (n T : Nat) (w : World) (hn : n < 65536) (hT : T < 256) :
    Calls Try.prog 4 #[.int .u16 (n : Int), .int .u8 (T : Int)] w fun e w' => e = .returned (.bool true) ∧ Below w.heap.size w w' := by
  have t1 : IntKind.i64.wrap (T : Int) = T := by simp [IntKind.wrap, IntKind.bits, IntKind.signed]; omega
  obtain ⟨P, hP, e1, e2, e3, e4⟩ := look_run hn
  have hA : ∀ W, Hid (∀ G, BuAt W G false 0 → Calls Try.prog 8 #[.pointer (some ⟨G, 0, none⟩), .int .u16 (n : Int)] W fun e w' => e = .returned (.tuple #[]) ∧ BuAt w' G true P ∧ Kept G W w') := fun W G hm =>
    (badd_any G 0 n false W hm (by decide) hn).mono fun e w' h => by
      rw [Bu.val_first, ← hP] at h
      exact ⟨h.1, h.2.1, h.2.2.1⟩
  have HS0 : Hid (Small 0 P) := show P ≤ 1048560 by omega
  clear hP hn
  go_enter Try.func4, Try.ntmps4
  go_wp2_with fail
  refine (begun18 _).mono ?_
  rintro e w0 ⟨rfl, b0⟩
  go_wp2_with fail
  refine (burst_new _).mono ?_
  rintro e w1 ⟨rfl, M1, d1, -⟩
  have b1 := b0.trans (d1.mono b0.size)
  have h0 : w.heap.size ≤ w0.heap.size := b0.size
  clear b0 d1
  go_wp2_with fail
  refine ((hA _).out _ M1).mono ?_
  rintro e w2 ⟨rfl, M2, k2⟩
  have HM2 : Hid (BuAt w2 w0.heap.size true P) := M2
  have HB2 : Hid (Below w.heap.size w w2) := b1.trans (k2.below h0 b1.size)
  clear M1 b1 M2 k2 hA
  generalize w0.heap.size = G at *
  go_wp2_with fail
  clear e1 e2 e3 e4
  go_loopw [6, 7] (fun s6 s7 wr => ∃ (j v : Nat), j ≤ T ∧ s6 = .int .i64 v ∧ s7 = .int .i64 j ∧ Hid (Small j v) ∧ Hid (BuAt wr G true v) ∧ Hid (Below w.heap.size w wr)) (fun _ i _ => T - (intOf i).toNat)
  case atStart => exact ⟨0, P, Nat.zero_le _, rfl, rfl, HS0, HM2, HB2⟩
  case round =>
    clear HS0 HM2 HB2
    obtain ⟨j, v, hj, rfl, rfl, HS, HM, HB⟩ := hrel
    by_cases hjT : j < T
    · have i1 : (j : Int) < (T : Int) := by omega
      have hv : v ≤ 1048560 := Nat.le_trans HS.out (most_le j)
      obtain ⟨A, B, V, hV, d1, d2, d3, d4, d5, d6, d7, d8⟩ := next_run hv (P := 0) (by decide)
      obtain rfl : A = B := by omega
      have hV3 : V = 3 * v / 4 := hV
      have HSV : Hid (Small (j + 1) V) := by rw [hV3]; exact small_next HS.out
      have hA : ∀ W, Hid (BuAt W G true v → Calls Try.prog 8 #[.pointer (some ⟨G, 0, none⟩), .int .u16 0] W fun e w' => e = .returned (.tuple #[]) ∧ BuAt w' G true V ∧ Kept G W w') := fun W hm =>
        (badd_any G v 0 true W hm hv (by decide)).mono fun e w' h => by
          rw [Bu.val_next, Nat.mul_zero, ← hV] at h
          exact ⟨h.1, h.2.1, h.2.2.1⟩
      clear hV hV3 hv HS d1 d4
      go_wp2_with fail
      refine ((hA _).out HM.out).mono ?_
      rintro e w3 ⟨rfl, M3, k3⟩
      have HM3 : Hid (BuAt w3 G true V) := M3
      have HB3 : Hid (Below w.heap.size w w3) := HB.out.trans (k3.below h0 HB.out.size)
      clear HM HB M3 k3 hA
      go_wp2_with fail
      refine (bval_any G V true _ HM3.out).mono ?_
      rintro e w4 ⟨rfl, rfl⟩
      go_wp2
      go_roundw
      case rel => exact ⟨j + 1, V, by omega, rfl, by go_num, HSV, HM3, HB3⟩
      case measure => simp [intOf]; omega
    · obtain rfl : j = T := by omega
      by_cases h100 : j < 100
      · have i2 : (j : Int) < 100 := by omega
        go_wp2
        go_ret
        exact ⟨rfl, HB.out⟩
      · have i2 : decide ((j : Int) < 100) = false := by simp; omega
        obtain rfl : v = 0 := by
          have h : v ≤ most j := HS.out
          rw [show j = 100 + (j - 100) by omega, most_end] at h
          omega
        go_wp2_with fail
        refine (bval_any G 0 true _ HM.out).mono ?_
        rintro e w4 ⟨rfl, rfl⟩
        go_wp2
        go_ret
        exact ⟨rfl, HB.out⟩
theorem walk (a0 : Int) (a1 : Int) (w0 : (Lit.int .u16 a0).wf = true) (w1 : (Lit.int .u8 a1).wf = true) (w : World) :
    Calls Try.prog 4 #[.int .u16 a0, .int .u8 a1] w fun e w' => e = .returned (.bool true) ∧ Below w.heap.size w w' := by
  have b0 := bounds_u16 w0
  have b1 := bounds_u8 w1
  obtain ⟨n, rfl⟩ : ∃ n : Nat, a0 = n := ⟨a0.toNat, by omega⟩
  obtain ⟨T, rfl⟩ : ∃ n : Nat, a1 = n := ⟨a1.toNat, by omega⟩
  exact core n T w (by omega) (by omega)

/-! ### THE ROW's STEP: WRITTEN OUT: LEAVE IT -/
set_option maxRecDepth 100000 in
theorem lifted (os : Os) (started : os.Started) (H : Type) (enc : TypeId × Value → H) :
    ReturnsInHanded {} Try.checked os 4 .any (Rows.burstForgetsSpec.pre6 enc Try.prog Try.f4 Rows.burstForgetsRow.domain false) (Rows.burstForgetsSpec.post enc Try.prog Try.f4 false true false false) := by
  refine returnsInHanded_of_change (C := Try.checked) own started (by kernel_rfl) Try.func4
    (ChangeSpec.witness6 (enc := enc) (C := Try.checked) false ⟨#[], #[.int .u16 0, .int .u8 0], []⟩ 8 (by kernel_rfl) (by kernel_rfl) (by kernel_rfl) (by kernel_rfl)) ?_
  intro W base args ds gs before hval0 hW hcnd _
  have hval : ∀ (j : Nat) t v, Try.f4.params[j]? = some t → args[j]? = some v → Value.okWide Try.prog W .any base t v := hval0
  have hW' := hW
  obtain ⟨p, q, hA0, hV, rfl, hfz, hnd⟩ := hW
  have hA : DataW.TrodAll enc Try.prog W 0 (fun _ => true) true Try.f4.params.toList args.toList ds p := hA0
  rw [Try.params4] at hA hval
  obtain ⟨v0, vs0, d0, ds0, p0, q0, hargs, rfl, rfl, h0, r0⟩ := trodAll_cons hA
  obtain ⟨v1, vs1, d1, ds1, p1, q1, rfl, rfl, rfl, h1, r1⟩ := trodAll_cons r0
  obtain ⟨rfl, rfl, rfl⟩ := trodAll_nil r1
  obtain rfl : args = #[v0, v1] := by cases args; simp_all
  obtain ⟨rfl, rfl⟩ := trodVars_none hV
  obtain ⟨a0, rfl, rfl, rfl, w0⟩ := open_int Try.underlying30 (hval 0 30 v0 rfl rfl) h0
  obtain ⟨a1, rfl, rfl, rfl, w1⟩ := open_int Try.underlying5 (hval 1 5 v1 rfl rfl) h1
  clear hA0 hval0
  simp only [List.append_nil] at hW'
  refine (walk a0 a1 w0 w1 W).mono fun e W' ⟨he, hg⟩ => ?_
  subst he
  exact ⟨_, rfl, _, _, _, [], [], [], hW', (trodAll_cons_mk (shut_bool Try.underlying4 _) trodAll_mk0), (trodAll_cons_mk (shut_int Try.underlying30 w0) (trodAll_cons_mk (shut_int Try.underlying5 w1) trodAll_mk0)), rfl, hg.frame _, fun h => by cases h⟩

theorem over : Rows.burstForgetsRow.holds Try.pinned (OpenSpec.ofChange Rows.burstForgetsSpec) :=
  OpenClaim.holds_of_wide 4 Try.f4 rfl rfl rfl rfl rfl rfl rfl ⟨rfl, rfl, rfl, rfl, rfl⟩ rfl rfl rfl rfl rfl (by kernel_rfl) Try.func4 (by kernel_rfl)
    (of_decide_eq_true (by kernel_rfl)) (by unfold Func.isWrapper; first | (rw [if_pos (by decide +kernel)]; kernel_rfl) | (rw [if_neg (by decide +kernel)]; exact ⟨rfl, rfl⟩))
    (fun os started H enc _ => lifted os started H enc)

theorem proved : Rows.BurstForgetsSaid :=
  over
end Go.Proofs.Ytbeppdhmgblknaa.burstForgets
namespace Go.Proofs.Ytbeppdhmgblknaa
theorem burstForgets_holds : Rows.BurstForgetsSaid := burstForgets.proved
#print axioms burstForgets_holds
end Go.Proofs.Ytbeppdhmgblknaa

/-
  Package dice has the document's row for every frame, symbol and k, and none where the document has none: the call returns true for every three numbers (no condition).
-/
import Derived.Test.YtdlalcbcgdambaaRows
import Derived.WalkKit
import Derived.ProofKit
import Derived.OpenShut
import Derived.ShutString
import Derived.Test.YtdlalcbcgdambaaDrw
import Derived.ChangeOld
import Derived.Below
namespace Go.Proofs.Ytdlalcbcgdambaa.diceAll
open Go.ChangeShapes Go.WideShapes Go.ChangeAt Go.RowKit
open Go.ChangeMaps (open_string shut_string)
set_option linter.unusedVariables false      -- a walk need not use every 'w<i>' (that an integer argument fits its kind)

theorem own : ownKnob Try.prog.godebug = none := by kernel_rfl

open Go.Deep

set_option maxRecDepth 100000 in
set_option maxHeartbeats 400000 in
theorem core_no (f s k : Int) (w : World) (hno : ¬ (1 ≤ k ∧ k ≤ 32 ∧ 0 ≤ s ∧ s < k + 64)) :
    Calls Try.prog 3 #[.int .u32 f, .int .i64 s, .int .i64 k] w fun e w' => e = .returned (.bool true) ∧ Below w.heap.size w w' := by
  have HN : Hid (¬ (1 ≤ k ∧ k ≤ 32 ∧ 0 ≤ s ∧ s < k + 64)) := hno
  clear hno
  go_enter Try.func3, Try.ntmps3
  go_wp2_with fail
  refine (begun3 _).mono ?_
  rintro e w0 ⟨rfl, b0⟩
  go_wp2_with fail
  refine (drow_no f s k _ HN.out).mono ?_
  rintro e w1 ⟨rfl, rfl⟩
  go_wp2_with fail
  refine (rrow_no f s k _ HN.out).mono ?_
  rintro e w2 ⟨rfl, rfl⟩
  have e1 : (convert 24 9 (.slice none 0 0)).run Try.prog w2 = .ok (.string (strOf 0 fun _ => 0)) w2 := conv_bytes _ 0 0 _ _ ⟨fun h => absurd h (by decide), fun i hi => absurd hi (by omega)⟩
  have HB : Hid (Below w.heap.size w w2) := b0
  clear b0
  generalize strOf 0 (fun _ => 0) = str at *
  go_wp2
  go_ret
  exact ⟨rfl, HB.out⟩

set_option maxRecDepth 100000 in
set_option maxHeartbeats 400000 in
theorem core_yes (f s k : Nat) (w : World) (hf : f < 4294967296) (k1 : 1 ≤ k) (k2 : k ≤ 32) (hs : s < k + 64) :
    Calls Try.prog 3 #[.int .u32 (f : Int), .int .i64 (s : Int), .int .i64 (k : Int)] w fun e w' => e = .returned (.bool true) ∧ Below w.heap.size w w' := by
  go_enter Try.func3, Try.ntmps3
  go_wp2_with fail
  refine (begun3 _).mono ?_
  rintro e w0 ⟨rfl, b0⟩
  go_wp2_with fail
  refine (drow_yes f s k _ hf k1 k2 hs).mono ?_
  rintro e w1 ⟨r1, rfl, -, B1, b1⟩
  have b1 := b0.trans (b1.mono b0.size)
  clear b0
  go_wp2_with fail
  refine (rrow_yes f s k _ hf k1 k2 hs).mono ?_
  rintro e w2 ⟨r2, rfl, -, B2, b2⟩
  have B1 := B1.grew b2
  have HB : Hid (Below w.heap.size w w2) := b1.trans (b2.mono b1.size)
  have e1 : (convert 24 9 (.slice (some ⟨r1, 0, none⟩) k k)).run Try.prog w2 = .ok (.string (strOf k (Dice.rowOf f s k))) w2 := conv_bytes _ k k _ _ B1
  have e2 : (convert 24 9 (.slice (some ⟨r2, 0, none⟩) k k)).run Try.prog w2 = .ok (.string (strOf k (Dice.rowOf f s k))) w2 := conv_bytes _ k k _ _ B2
  clear b1 b2 B1 B2
  generalize strOf k (Dice.rowOf f s k) = str at *
  go_wp2
  go_ret
  exact ⟨rfl, HB.out⟩

theorem walk (a0 : Int) (a1 : Int) (a2 : Int) (w0 : (Lit.int .u32 a0).wf = true) (w1 : (Lit.int .i64 a1).wf = true) (w2 : (Lit.int .i64 a2).wf = true) (w : World) :
    Calls Try.prog 3 #[.int .u32 a0, .int .i64 a1, .int .i64 a2] w fun e w' => e = .returned (.bool true) ∧ Below w.heap.size w w' := by
  have b0 := bounds_u32 w0
  have b1 := bounds_i64 w1
  have b2 := bounds_i64 w2
  clear w0 w1 w2
  by_cases hno : 1 ≤ a2 ∧ a2 ≤ 32 ∧ 0 ≤ a1 ∧ a1 < a2 + 64
  · obtain ⟨f, rfl⟩ : ∃ n : Nat, a0 = n := ⟨a0.toNat, by omega⟩
    obtain ⟨s, rfl⟩ : ∃ n : Nat, a1 = n := ⟨a1.toNat, by omega⟩
    obtain ⟨k, rfl⟩ : ∃ n : Nat, a2 = n := ⟨a2.toNat, by omega⟩
    exact core_yes f s k w (by omega) (by omega) (by omega) (by omega)
  · exact core_no a0 a1 a2 w hno

/-! ### THE ROW's STEP: WRITTEN OUT: LEAVE IT -/
set_option maxRecDepth 100000 in
theorem lifted (os : Os) (started : os.Started) (H : Type) (enc : TypeId × Value → H) :
    ReturnsInHanded {} Try.checked os 3 .any (Rows.diceAllSpec.pre6 enc Try.prog Try.f3 Rows.diceAllRow.domain false) (Rows.diceAllSpec.post enc Try.prog Try.f3 false true false false) := by
  refine returnsInHanded_of_change (C := Try.checked) own started (by kernel_rfl) Try.func3
    (ChangeSpec.witness6 (enc := enc) (C := Try.checked) false ⟨#[], #[.int .u32 0, .int .i64 0, .int .i64 0], []⟩ 8 (by kernel_rfl) (by kernel_rfl) (by kernel_rfl) (by kernel_rfl)) ?_
  intro W base args ds gs before hval0 hW hcnd _
  have hval : ∀ (j : Nat) t v, Try.f3.params[j]? = some t → args[j]? = some v → Value.okWide Try.prog W .any base t v := hval0
  have hW' := hW
  obtain ⟨p, q, hA0, hV, rfl, hfz, hnd⟩ := hW
  have hA : DataW.TrodAll enc Try.prog W 0 (fun _ => true) true Try.f3.params.toList args.toList ds p := hA0
  rw [Try.params3] at hA hval
  obtain ⟨v0, vs0, d0, ds0, p0, q0, hargs, rfl, rfl, h0, r0⟩ := trodAll_cons hA
  obtain ⟨v1, vs1, d1, ds1, p1, q1, rfl, rfl, rfl, h1, r1⟩ := trodAll_cons r0
  obtain ⟨v2, vs2, d2, ds2, p2, q2, rfl, rfl, rfl, h2, r2⟩ := trodAll_cons r1
  obtain ⟨rfl, rfl, rfl⟩ := trodAll_nil r2
  obtain rfl : args = #[v0, v1, v2] := by cases args; simp_all
  obtain ⟨rfl, rfl⟩ := trodVars_none hV
  obtain ⟨a0, rfl, rfl, rfl, w0⟩ := open_int Try.underlying22 (hval 0 22 v0 rfl rfl) h0
  obtain ⟨a1, rfl, rfl, rfl, w1⟩ := open_int Try.underlying3 (hval 1 3 v1 rfl rfl) h1
  obtain ⟨a2, rfl, rfl, rfl, w2⟩ := open_int Try.underlying3 (hval 2 3 v2 rfl rfl) h2
  clear hA0 hval0
  simp only [List.append_nil] at hW'
  refine (walk a0 a1 a2 w0 w1 w2 W).mono fun e W' ⟨he, hg⟩ => ?_
  subst he
  exact ⟨_, rfl, _, _, _, [], [], [], hW', (trodAll_cons_mk (shut_bool Try.underlying4 _) trodAll_mk0), (trodAll_cons_mk (shut_int Try.underlying22 w0) (trodAll_cons_mk (shut_int Try.underlying3 w1) (trodAll_cons_mk (shut_int Try.underlying3 w2) trodAll_mk0))), rfl, hg.frame _, fun h => by cases h⟩

theorem over : Rows.diceAllRow.holds Try.pinned (OpenSpec.ofChange Rows.diceAllSpec) :=
  OpenClaim.holds_of_wide 3 Try.f3 rfl rfl rfl rfl rfl rfl rfl ⟨rfl, rfl, rfl, rfl, rfl⟩ rfl rfl rfl rfl rfl (by kernel_rfl) Try.func3 (by kernel_rfl)
    (of_decide_eq_true (by kernel_rfl)) (by unfold Func.isWrapper; first | (rw [if_pos (by decide +kernel)]; kernel_rfl) | (rw [if_neg (by decide +kernel)]; exact ⟨rfl, rfl⟩))
    (fun os started H enc _ => lifted os started H enc)

theorem proved : Rows.DiceAllSaid :=
  over
end Go.Proofs.Ytdlalcbcgdambaa.diceAll
namespace Go.Proofs.Ytdlalcbcgdambaa
theorem diceAll_holds : Rows.DiceAllSaid := diceAll.proved
#print axioms diceAll_holds
end Go.Proofs.Ytdlalcbcgdambaa

/-
  Package dice has the rows, and the bounds, that the statement DiceForms lists: the call returns true (a closed statement; no condition).
-/
import Derived.Test.YtdlalcbcgdambaaRows
import Derived.WalkKit
import Derived.ProofKit
import Derived.OpenShut
import Derived.ShutString
import Derived.Test.YtdlalcbcgdambaaDrw
import Derived.ChangeOld
import Derived.Below
namespace Go.Proofs.Ytdlalcbcgdambaa.diceForms
open Go.ChangeShapes Go.WideShapes Go.ChangeAt Go.RowKit
open Go.ChangeMaps (open_string shut_string)
set_option linter.unusedVariables false      -- a walk need not use every 'w<i>' (that an integer argument fits its kind)

theorem own : ownKnob Try.prog.godebug = none := by kernel_rfl

open Go.Deep

theorem first_row : strOf 1 (Dice.rowOf 0 1 1) = ⟨#[173]⟩ := by
  rw [show strOf 1 (Dice.rowOf 0 1 1) = strOf 1 (fun _ => 173) from strOf_congr fun i hi => by
    obtain rfl : i = 0 := by omega
    decide +kernel]
  rfl

set_option maxRecDepth 100000 in
set_option maxHeartbeats 400000 in
theorem walk (w : World) :
    Calls Try.prog 5 #[] w fun e w' => e = .returned (.bool true) ∧ Below w.heap.size w w' := by
  have f1 : bits .xor .u32 40504 331808768 = 331849272 := by decide +kernel
  have f2 : bits .xor .u32 331849272 2531 = 331847643 := by decide +kernel
  have f3 : bits .xor .u32 331847643 2029189984 = 1798663355 := by decide +kernel
  go_enter Try.func5, Try.ntmps5
  go_wp2_with fail
  refine (begun3 _).mono ?_
  rintro e w0 ⟨rfl, b0⟩
  go_wp2_with fail
  refine (drow_yes 0 1 1 _ (by decide) (by decide) (by decide) (by decide)).mono ?_
  rintro e w1 ⟨r1, rfl, -, B1, b1⟩
  have b1 := b0.trans (b1.mono b0.size)
  clear b0
  go_wp2_with fail
  refine (drow_no 0 0 33 _ (by decide)).mono ?_
  rintro e w2 ⟨rfl, rfl⟩
  go_wp2_with fail
  refine (drow_no 0 65 1 _ (by decide)).mono ?_
  rintro e w3 ⟨rfl, rfl⟩
  go_wp2_with fail
  refine (drow_yes 0 64 1 _ (by decide) (by decide) (by decide) (by decide)).mono ?_
  rintro e w4 ⟨r4, rfl, -, -, b4⟩
  have B4 := B1.grew b4
  have b4 := b1.trans (b4.mono b1.size)
  clear B1 b1
  have e1 : (convert 24 9 (.slice (some ⟨r1, 0, none⟩) 1 1)).run Try.prog w4 = .ok (.string ⟨#[173]⟩) w4 := by rw [← first_row]; exact conv_bytes _ 1 1 _ _ B4
  have e2 : (convert 24 9 (.slice (some ⟨w4.heap.size, 0, none⟩) 1 1)).run Try.prog (w4.alloc (.cells #[.int .u8 173] 5)) = .ok (.string ⟨#[173]⟩) (w4.alloc (.cells #[.int .u8 173] 5)) := by
    have := conv_bytes (some ⟨w4.heap.size, 0, none⟩) 1 1 _ (w4.alloc (.cells #[.int .u8 173] 5)) (bytes_one _ _ 173 (by decide) (by rw [World.cell?_alloc_at _ _ _ _ rfl]; rfl))
    rw [this]
    rfl
  have HB : Hid (Below w.heap.size w (w4.alloc (.cells #[.int .u8 173] 5))) := b4.alloc b4.size _
  clear B4 b4
  go_wp2
  go_ret
  exact ⟨rfl, HB.out⟩

/-! ### THE ROW's STEP: WRITTEN OUT: LEAVE IT -/
set_option maxRecDepth 100000 in
theorem lifted (os : Os) (started : os.Started) (H : Type) (enc : TypeId × Value → H) :
    ReturnsInHanded {} Try.checked os 5 .any (Rows.diceFormsSpec.pre6 enc Try.prog Try.f5 Rows.diceFormsRow.domain false) (Rows.diceFormsSpec.post enc Try.prog Try.f5 false true false false) := by
  refine returnsInHanded_of_change (C := Try.checked) own started (by kernel_rfl) Try.func5
    (ChangeSpec.witness6 (enc := enc) (C := Try.checked) false ⟨#[], #[], []⟩ 8 (by kernel_rfl) (by kernel_rfl) (by kernel_rfl) (by kernel_rfl)) ?_
  intro W base args ds gs before hval0 hW hcnd _
  have hval : ∀ (j : Nat) t v, Try.f5.params[j]? = some t → args[j]? = some v → Value.okWide Try.prog W .any base t v := hval0
  have hW' := hW
  obtain ⟨p, q, hA0, hV, rfl, hfz, hnd⟩ := hW
  have hA : DataW.TrodAll enc Try.prog W 0 (fun _ => true) true Try.f5.params.toList args.toList ds p := hA0
  rw [Try.params5] at hA hval
  obtain ⟨rfl, rfl, rfl⟩ := trodAll_none hA
  obtain ⟨rfl, rfl⟩ := trodVars_none hV
  clear hA0 hval0
  simp only [List.append_nil] at hW'
  refine (walk  W).mono fun e W' ⟨he, hg⟩ => ?_
  subst he
  exact ⟨_, rfl, _, _, _, [], [], [], hW', (trodAll_cons_mk (shut_bool Try.underlying4 _) trodAll_mk0), rfl, rfl, hg.frame _, fun h => by cases h⟩

theorem over : Rows.diceFormsRow.holds Try.pinned (OpenSpec.ofChange Rows.diceFormsSpec) :=
  OpenClaim.holds_of_wide 5 Try.f5 rfl rfl rfl rfl rfl rfl rfl ⟨rfl, rfl, rfl, rfl, rfl⟩ rfl rfl rfl rfl rfl (by kernel_rfl) Try.func5 (by kernel_rfl)
    (of_decide_eq_true (by kernel_rfl)) (by unfold Func.isWrapper; first | (rw [if_pos (by decide +kernel)]; kernel_rfl) | (rw [if_neg (by decide +kernel)]; exact ⟨rfl, rfl⟩))
    (fun os started H enc _ => lifted os started H enc)

theorem proved : Rows.DiceFormsSaid :=
  over
end Go.Proofs.Ytdlalcbcgdambaa.diceForms
namespace Go.Proofs.Ytdlalcbcgdambaa
theorem diceForms_holds : Rows.DiceFormsSaid := diceForms.proved
#print axioms diceForms_holds
end Go.Proofs.Ytdlalcbcgdambaa

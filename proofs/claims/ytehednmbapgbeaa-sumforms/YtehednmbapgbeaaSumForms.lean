/-
  Package sum's sums, and what it seals and opens, are those that the statement SumForms lists: the call returns true (a closed statement; no condition).
-/
import Derived.Test.YtehednmbapgbeaaRows
import Derived.WalkKit
import Derived.ProofKit
import Derived.OpenShut
import Derived.ShutString
import Derived.Test.YtehednmbapgbeaaSbg
import Derived.ChangeOld
import Derived.Below
namespace Go.Proofs.Ytehednmbapgbeaa.sumForms
open Go.ChangeShapes Go.WideShapes Go.ChangeAt Go.RowKit
open Go.ChangeMaps (open_string shut_string)
set_option linter.unusedVariables false      -- a walk need not use every 'w<i>' (that an integer argument fits its kind)

theorem own : ownKnob Try.prog.godebug = none := by kernel_rfl

open Go.Deep

theorem digits : Crc.sum (listAt [49, 50, 51, 52, 53, 54, 55, 56, 57]) 9 = 58124007 := by decide +kernel
theorem nought : Crc.sum (listAt [0]) 1 = 1309196212 := by decide +kernel
theorem four_yes : opB (listAt [255, 255, 255, 255]) 4 = true ∧ opN (listAt [255, 255, 255, 255]) 4 = 0 := by decide +kernel
theorem four_no : opB (listAt [255, 255, 255, 254]) 4 = false ∧ opN (listAt [255, 255, 255, 254]) 4 = 0 := by decide +kernel
theorem sealed : strOf 4 (Crc.seald (fun _ => 0) 0) = ⟨#[255, 255, 255, 255]⟩ := by decide +kernel

set_option maxRecDepth 100000 in
set_option maxHeartbeats 1000000 in
theorem walk (w : World) :
    Calls Try.prog 6 #[] w fun e w' => e = .returned (.bool true) ∧ Below w.heap.size w w' := by
  have hcv := conv_const
  go_enter Try.func6, Try.ntmps6
  go_wp2_with fail
  refine (begun7 _).mono ?_
  rintro e w0 ⟨rfl, b0⟩
  go_wp2_with fail
  refine (open_few none 0 0 _ (by decide)).mono ?_
  rintro e w1 ⟨rfl, d1⟩
  have b1 := b0.trans (d1.mono b0.size)
  clear b0 d1
  go_wp2_with fail
  have B2 := bytes_lit w1 5 (0, 0) [255, 255, 255, 255] (by decide)
  have b2 := b1.alloc b1.size (.cells #[.int .u8 255, .int .u8 255, .int .u8 255, .int .u8 255] 5)
  simp only [List.map, List.length] at B2
  change BytesAt (w1.alloc (.cells #[.int .u8 255, .int .u8 255, .int .u8 255, .int .u8 255] 5)) _ _ _ at B2
  generalize (w1.alloc (.cells #[.int .u8 255, .int .u8 255, .int .u8 255, .int .u8 255] 5)) = w2 at *
  refine (open_any _ 4 4 _ _ B2 (by decide) (by decide)).mono ?_
  rw [four_yes.1, four_yes.2]
  rintro e w3 ⟨r3, c3, rfl, -, -, -, -, d3⟩
  have b3 := b2.trans (d3.mono b2.size)
  clear b1 b2 B2 d3
  go_wp2_with fail
  have B4 := bytes_lit w3 5 (0, 0) [255, 255, 255, 254] (by decide)
  have b4 := b3.alloc b3.size (.cells #[.int .u8 255, .int .u8 255, .int .u8 255, .int .u8 254] 5)
  simp only [List.map, List.length] at B4
  change BytesAt (w3.alloc (.cells #[.int .u8 255, .int .u8 255, .int .u8 255, .int .u8 254] 5)) _ _ _ at B4
  generalize (w3.alloc (.cells #[.int .u8 255, .int .u8 255, .int .u8 255, .int .u8 254] 5)) = w4 at *
  refine (open_any _ 4 4 _ _ B4 (by decide) (by decide)).mono ?_
  rw [four_no.1, four_no.2]
  rintro e w5 ⟨r5, c5, rfl, -, -, -, -, d5⟩
  have b5 := b4.trans (d5.mono b4.size)
  clear b3 b4 B4 d5
  go_wp2_with fail
  have B6 := bytes_lit w5 5 (9, 10) [49, 50, 51, 52, 53, 54, 55, 56, 57] (by decide)
  have b6 := b5.alloc b5.size (.cells #[.int .u8 49, .int .u8 50, .int .u8 51, .int .u8 52, .int .u8 53, .int .u8 54, .int .u8 55, .int .u8 56, .int .u8 57] 5 (9, 10))
  simp only [List.map, List.length] at B6
  change BytesAt (w5.alloc (.cells #[.int .u8 49, .int .u8 50, .int .u8 51, .int .u8 52, .int .u8 53, .int .u8 54, .int .u8 55, .int .u8 56, .int .u8 57] 5 (9, 10))) _ _ _ at B6
  generalize (w5.alloc (.cells #[.int .u8 49, .int .u8 50, .int .u8 51, .int .u8 52, .int .u8 53, .int .u8 54, .int .u8 55, .int .u8 56, .int .u8 57] 5 (9, 10))) = w6 at *
  refine (sum_any _ 9 9 _ _ B6 (by decide)).mono ?_
  rw [digits]
  rintro e w7 ⟨rfl, d7⟩
  have b7 := b6.trans (d7.mono b6.size)
  clear b5 b6 B6 d7
  go_wp2_with fail
  have B8 := bytes_lit w7 5 (0, 0) [0] (by decide)
  have b8 := b7.alloc b7.size (.cells #[.int .u8 0] 5)
  simp only [List.map, List.length] at B8
  change BytesAt (w7.alloc (.cells #[.int .u8 0] 5)) _ _ _ at B8
  generalize (w7.alloc (.cells #[.int .u8 0] 5)) = w8 at *
  refine (sum_any _ 1 1 _ _ B8 (by decide)).mono ?_
  rw [nought]
  rintro e w9 ⟨rfl, d9⟩
  have b9 := b8.trans (d9.mono b8.size)
  clear b7 b8 B8 d9
  go_wp2_with fail
  refine (seal_any none 0 0 (fun _ => 0) _ (nil_bytes _ _) (by decide)).mono ?_
  rintro e w10 ⟨rfl, R10, d10⟩
  have HB : Hid (Below w.heap.size w w10) := b9.trans (d10.mono b9.size)
  have e1 := conv_bytes _ 4 4 _ _ (seal_bytes (n := 0) (x := fun _ => 0) R10 (fun _ _ => by decide))
  rw [sealed] at e1
  clear b9 d10 R10 hcv
  go_wp2
  go_ret
  exact ⟨rfl, HB.out⟩

/-! ### THE ROW's STEP: WRITTEN OUT: LEAVE IT -/
set_option maxRecDepth 100000 in
theorem lifted (os : Os) (started : os.Started) (H : Type) (enc : TypeId × Value → H) :
    ReturnsInHanded {} Try.checked os 6 .any (Rows.sumFormsSpec.pre6 enc Try.prog Try.f6 Rows.sumFormsRow.domain false) (Rows.sumFormsSpec.post enc Try.prog Try.f6 false true false false) := by
  refine returnsInHanded_of_change (C := Try.checked) own started (by kernel_rfl) Try.func6
    (ChangeSpec.witness6 (enc := enc) (C := Try.checked) false ⟨#[], #[], []⟩ 8 (by kernel_rfl) (by kernel_rfl) (by kernel_rfl) (by kernel_rfl)) ?_
  intro W base args ds gs before hval0 hW hcnd _
  have hval : ∀ (j : Nat) t v, Try.f6.params[j]? = some t → args[j]? = some v → Value.okWide Try.prog W .any base t v := hval0
  have hW' := hW
  obtain ⟨p, q, hA0, hV, rfl, hfz, hnd⟩ := hW
  have hA : DataW.TrodAll enc Try.prog W 0 (fun _ => true) true Try.f6.params.toList args.toList ds p := hA0
  rw [Try.params6] at hA hval
  obtain ⟨rfl, rfl, rfl⟩ := trodAll_none hA
  obtain ⟨rfl, rfl⟩ := trodVars_none hV
  clear hA0 hval0
  simp only [List.append_nil] at hW'
  refine (walk  W).mono fun e W' ⟨he, hg⟩ => ?_
  subst he
  exact ⟨_, rfl, _, _, _, [], [], [], hW', (trodAll_cons_mk (shut_bool Try.underlying4 _) trodAll_mk0), rfl, rfl, hg.frame _, fun h => by cases h⟩

theorem over : Rows.sumFormsRow.holds Try.pinned (OpenSpec.ofChange Rows.sumFormsSpec) :=
  OpenClaim.holds_of_wide 6 Try.f6 rfl rfl rfl rfl rfl rfl rfl ⟨rfl, rfl, rfl, rfl, rfl⟩ rfl rfl rfl rfl rfl (by kernel_rfl) Try.func6 (by kernel_rfl)
    (of_decide_eq_true (by kernel_rfl)) (by unfold Func.isWrapper; first | (rw [if_pos (by decide +kernel)]; kernel_rfl) | (rw [if_neg (by decide +kernel)]; exact ⟨rfl, rfl⟩))
    (fun os started H enc _ => lifted os started H enc)

theorem proved : Rows.SumFormsSaid :=
  over
end Go.Proofs.Ytehednmbapgbeaa.sumForms
namespace Go.Proofs.Ytehednmbapgbeaa
theorem sumForms_holds : Rows.SumFormsSaid := sumForms.proved
#print axioms sumForms_holds
end Go.Proofs.Ytehednmbapgbeaa

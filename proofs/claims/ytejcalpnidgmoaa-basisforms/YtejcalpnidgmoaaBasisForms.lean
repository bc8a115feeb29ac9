/-
  Rows that say more are taken, others refused, and the three symbols come out as the statement BasisForms has them: the call returns true (a closed statement; no condition).
-/
import Derived.Test.YtejcalpnidgmoaaRows
import Derived.WalkKit
import Derived.ProofKit
import Derived.OpenShut
import Derived.ShutString
import Derived.Test.YtejcalpnidgmoaaTab
import Derived.ChangeOld
import Derived.Below
namespace Go.Proofs.Ytejcalpnidgmoaa.basisForms
open Go.ChangeShapes Go.WideShapes Go.ChangeAt Go.RowKit
open Go.ChangeMaps (open_string shut_string)
set_option linter.unusedVariables false      -- a walk need not use every 'w<i>' (that an integer argument fits its kind)

theorem own : ownKnob Try.prog.godebug = none := by kernel_rfl

open Go.Deep

set_option maxRecDepth 100000 in
set_option maxHeartbeats 2000000 in
theorem walk (w : World) :
    Calls Try.prog 6 #[] w fun e w' => e = .returned (.bool true) ∧ Below w.heap.size w w' := by
  go_enter Try.func6, Try.ntmps6
  go_wp2_with fail
  refine (begun2_any _).mono ?_
  rintro e w0 ⟨rfl, hb0⟩
  go_wp2_with fail
  refine (new_any _).mono ?_
  rintro e w1 ⟨rfl, hb1, hf1, hs1⟩
  go_wp2_with fail
  refine (newBasis_yes w0.heap.size 3 2 _ hf1 (by decide) (by decide) (by decide) (by decide)).mono ?_
  rintro e w2 ⟨B, R, rfl, gB, gR, h2, hb2⟩
  have GR : Hid (w.heap.size ≤ R) := by show w.heap.size ≤ R; have := hb1.size; have := hb0.size; omega
  have K2 : Hid (Below w.heap.size w w2) := (hb0.trans (hb1.mono hb0.size)).trans (hb2.mono (by have := hb1.size; have := hb0.size; omega))
  have h2 : BasisAt w2 B R 3 2 (tab [none, none, none]) := h2.tab (by decide +kernel)
  clear hb0 hb1 hf1 hs1 hb2 gB gR
  go_wp2_with fail
  refine (add_lits B R 3 2 [none, none, none] false [none, none, none] [0, 0, 0] [1, 2] #[.int .u8 0, .int .u8 0, .int .u8 0] #[.int .u8 1, .int .u8 2] _ h2 rfl rfl (by decide) (by decide) rfl rfl (by decide +kernel)).mono ?_
  rintro e w3 ⟨rfl, h3, k3⟩
  have K3 : Hid (Below w.heap.size w w3) := K2.out.trans (k3.below GR.out K2.out.size)
  clear k3 K2 h2
  go_wp2_with fail
  refine (add_lits_no B R 3 2 2 2 _ #[.int .u8 1, .int .u8 0] #[.int .u8 1, .int .u8 2] _ h3 (by decide)).mono ?_
  rintro e w4 ⟨rfl, h4, k4⟩
  have K4 : Hid (Below w.heap.size w w4) := K3.out.trans (k4.below GR.out K3.out.size)
  clear k4 K3 h3
  go_wp2_with fail
  refine (add_lits_no B R 3 2 3 1 _ #[.int .u8 1, .int .u8 0, .int .u8 0] #[.int .u8 1] _ h4 (by decide)).mono ?_
  rintro e w5 ⟨rfl, h5, k5⟩
  have K5 : Hid (Below w.heap.size w w5) := K4.out.trans (k5.below GR.out K4.out.size)
  clear k5 K4 h4
  go_wp2_with fail
  refine (rank_any B R 3 2 _ _ h5).mono ?_
  rintro e w6 ⟨rfl, he⟩
  subst w6
  rw [show rankTo (tab [none, none, none]) 3 = 0 by decide +kernel]
  go_wp2_with fail
  refine (add_lits B R 3 2 [none, none, none] true [none, some [0, 1, 142, 142, 1], none] [0, 2, 1] [1, 2] #[.int .u8 0, .int .u8 2, .int .u8 1] #[.int .u8 1, .int .u8 2] _ h5 rfl rfl (by decide) (by decide) rfl rfl (by decide +kernel)).mono ?_
  rintro e w6 ⟨rfl, h6, k6⟩
  have K6 : Hid (Below w.heap.size w w6) := K5.out.trans (k6.below GR.out K5.out.size)
  clear k6 K5 h5
  go_wp2_with fail
  refine (add_lits B R 3 2 [none, some [0, 1, 142, 142, 1], none] false [none, some [0, 1, 142, 142, 1], none] [0, 4, 2] [9, 9] #[.int .u8 0, .int .u8 4, .int .u8 2] #[.int .u8 9, .int .u8 9] _ h6 rfl rfl (by decide) (by decide) rfl rfl (by decide +kernel)).mono ?_
  rintro e w7 ⟨rfl, h7, k7⟩
  have K7 : Hid (Below w.heap.size w w7) := K6.out.trans (k7.below GR.out K6.out.size)
  clear k7 K6 h6
  go_wp2_with fail
  refine (add_lits B R 3 2 [none, some [0, 1, 142, 142, 1], none] true [none, some [0, 1, 0, 0, 0], some [0, 0, 1, 1, 2]] [0, 0, 3] [3, 6] #[.int .u8 0, .int .u8 0, .int .u8 3] #[.int .u8 3, .int .u8 6] _ h7 rfl rfl (by decide) (by decide) rfl rfl (by decide +kernel)).mono ?_
  rintro e w8 ⟨rfl, h8, k8⟩
  have K8 : Hid (Below w.heap.size w w8) := K7.out.trans (k8.below GR.out K7.out.size)
  clear k8 K7 h7
  go_wp2_with fail
  refine (add_lits B R 3 2 [none, some [0, 1, 0, 0, 0], some [0, 0, 1, 1, 2]] true [some [1, 0, 0, 1, 2], some [0, 1, 0, 0, 0], some [0, 0, 1, 1, 2]] [1, 1, 1] [0, 0] #[.int .u8 1, .int .u8 1, .int .u8 1] #[.int .u8 0, .int .u8 0] _ h8 rfl rfl (by decide) (by decide) rfl rfl (by decide +kernel)).mono ?_
  rintro e w9 ⟨rfl, h9, k9⟩
  have K9 : Hid (Below w.heap.size w w9) := K8.out.trans (k9.below GR.out K8.out.size)
  clear k9 K8 h8
  go_wp2_with fail
  refine (add_lits B R 3 2 [some [1, 0, 0, 1, 2], some [0, 1, 0, 0, 0], some [0, 0, 1, 1, 2]] false [some [1, 0, 0, 1, 2], some [0, 1, 0, 0, 0], some [0, 0, 1, 1, 2]] [7, 8, 9] [1, 1] #[.int .u8 7, .int .u8 8, .int .u8 9] #[.int .u8 1, .int .u8 1] _ h9 rfl rfl (by decide) (by decide) rfl rfl (by decide +kernel)).mono ?_
  rintro e w10 ⟨rfl, h10, k10⟩
  have K10 : Hid (Below w.heap.size w w10) := K9.out.trans (k10.below GR.out K9.out.size)
  clear k10 K9 h9
  go_wp2_with fail
  refine (solve_yes B R 3 2 _ _ h10 (by decide +kernel)).mono ?_
  rintro e wz ⟨L, A, rfl, gL, hA, hY, hbz⟩
  have Kz : Hid (Below w.heap.size w wz) := K10.out.trans (hbz.mono K10.out.size)
  obtain ⟨b0, c0, s0, v0⟩ := sym_at hA hY 0 (by decide) [1, 0, 0, 1, 2] rfl ⟨#[1, 2]⟩ (by decide +kernel)
  obtain ⟨b1, c1, s1, v1⟩ := sym_at hA hY 1 (by decide) [0, 1, 0, 0, 0] rfl ⟨#[0, 0]⟩ (by decide +kernel)
  obtain ⟨b2, c2, s2, v2⟩ := sym_at hA hY 2 (by decide) [0, 0, 1, 1, 2] rfl ⟨#[1, 2]⟩ (by decide +kernel)
  clear hbz h10 K10 gL hA hY
  go_wp2
  go_ret
  exact ⟨rfl, Kz.out⟩

/-! ### THE ROW's STEP: WRITTEN OUT: LEAVE IT -/
set_option maxRecDepth 100000 in
theorem lifted (os : Os) (started : os.Started) (H : Type) (enc : TypeId × Value → H) :
    ReturnsInHanded {} Try.checked os 6 .any (Rows.basisFormsSpec.pre6 enc Try.prog Try.f6 Rows.basisFormsRow.domain false) (Rows.basisFormsSpec.post enc Try.prog Try.f6 false true false false) := by
  refine returnsInHanded_of_change (C := Try.checked) own started (by kernel_rfl) Try.func6
    (ChangeSpec.witness6 (enc := enc) (C := Try.checked) false ⟨#[], #[], []⟩ 8 (by kernel_rfl) (by kernel_rfl) (by kernel_rfl) (by kernel_rfl)) ?_
  intro W base args ds gs before hval0 hW hcnd _
  have hval : ∀ (j : Nat) t v, Try.f6.params[j]? = some t → args[j]? = some v → Value.okWide Try.prog W .any base t v := hval0
  have hW' := hW
  obtain ⟨p, q, hA0, hV, rfl, hfz, hnd⟩ := hW
  have hA : DataW.TrodAll enc Try.prog W 0 (fun _ => true) true Try.f6.params.toList args.toList ds p := hA0
  rw [Try.params6] at hA hval
  obtain ⟨rfl, rfl, rfl⟩ := trodAll_none hA
  obtain ⟨rfl, rfl⟩ := trodVars_none hV
  clear hA0 hval0
  simp only [List.append_nil] at hW'
  refine (walk  W).mono fun e W' ⟨he, hg⟩ => ?_
  subst he
  exact ⟨_, rfl, _, _, _, [], [], [], hW', (trodAll_cons_mk (shut_bool Try.underlying4 _) trodAll_mk0), rfl, rfl, hg.frame _, fun h => by cases h⟩

theorem over : Rows.basisFormsRow.holds Try.pinned (OpenSpec.ofChange Rows.basisFormsSpec) :=
  OpenClaim.holds_of_wide 6 Try.f6 rfl rfl rfl rfl rfl rfl rfl ⟨rfl, rfl, rfl, rfl, rfl⟩ rfl rfl rfl rfl rfl (by kernel_rfl) Try.func6 (by kernel_rfl)
    (of_decide_eq_true (by kernel_rfl)) (by unfold Func.isWrapper; first | (rw [if_pos (by decide +kernel)]; kernel_rfl) | (rw [if_neg (by decide +kernel)]; exact ⟨rfl, rfl⟩))
    (fun os started H enc _ => lifted os started H enc)

theorem proved : Rows.BasisFormsSaid :=
  over
end Go.Proofs.Ytejcalpnidgmoaa.basisForms
namespace Go.Proofs.Ytejcalpnidgmoaa
theorem basisForms_holds : Rows.BasisFormsSaid := basisForms.proved
#print axioms basisForms_holds
end Go.Proofs.Ytejcalpnidgmoaa

/-
  Which symbols are told: the statement LedgerForms: the call returns true. (A closed statement.)
-/
import Derived.Test.YtjmfhkpaloipkaaRows
import Derived.WalkKit
import Derived.ProofKit
import Derived.OpenShut
import Derived.ShutString
import Derived.Test.YtjmfhkpaloipkaaLg6
import Derived.ChangeOld
import Derived.Below
namespace Go.Proofs.Ytjmfhkpaloipkaa.ledgerForms
open Go.ChangeShapes Go.WideShapes Go.ChangeAt Go.RowKit
open Go.ChangeMaps (open_string shut_string)
set_option linter.unusedVariables false      -- a walk need not use every 'w<i>' (that an integer argument fits its kind)

theorem own : ownKnob Try.prog.godebug = none := by kernel_rfl

open Go.Deep

set_option maxRecDepth 100000 in
set_option maxHeartbeats 4000000 in
theorem walk (w : World) : Calls Try.prog 5 #[] w fun e w' => e = .returned (.bool true) ∧ Below w.heap.size w w' := by
  obtain ⟨X, hX⟩ : ∃ X : Nat → Prop, X = fun i => i < w.heap.size := ⟨_, rfl⟩
  have HX : Hid (∀ w', KeptF (fun i => ¬ X i) w w' → Below w.heap.size w w') := fun w' K => K.belowX (fun i hi => by rw [hX]; exact hi) (Nat.le_refl _)
  have I : InW X w := by rw [hX]; exact fun _ h => h
  have hB : Hid (Calls Try.prog 7 #[] w fun e w' => e = .returned (.bool true) ∧ Below w.heap.size w w') := begun23 w
  clear hX
  go_enter Try.func5, Try.ntmps5
  go_wp2_with fail
  refine hB.out.mono ?_
  rintro e w0 ⟨rfl, b0⟩
  have k0 : KeptF (fun i => ¬ X i) w w0 := KeptF.of_below b0
  have I0 := I.kept k0
  clear hB b0
  go_wp2_with fail
  refine (lnewX X w0 I0).mono ?_
  rintro e w1 ⟨a, rfl, L0, K0⟩
  have g0_1 : (fun _ => none : Lg.St) 1 = none := rfl
  have g0_2 : (fun _ => none : Lg.St) 2 = none := rfl
  have g0_3 : (fun _ => none : Lg.St) 3 = none := rfl
  generalize (fun _ => none : Lg.St) = G0 at *
  go_wp2_with fail
  refine (lopenX X a 0 1 0 G0 w1 L0 (I0.kept K0) (by decide) (by decide)).mono ?_
  rintro e w2 ⟨e1, L1, k1⟩
  rw [g0_1] at e1
  obtain rfl : e = .returned (.bool false) := e1
  have K1 := K0.trans k1
  clear k1
  rw [Lg.ev_shut (G := G0) (x := 1) (k := 0) (by rw [g0_1]; rfl)] at L1
  have g1_1 := g0_1
  have g1_2 := g0_2
  have g1_3 := g0_3
  obtain ⟨G1, eG1⟩ : ∃ G, G = G0 := ⟨_, rfl⟩
  rw [← eG1] at L1 g1_1 g1_2 g1_3
  clear eG1
  clear L0 K0 g0_1 g0_2 g0_3
  go_wp2_with fail
  refine (lopenX X a 1 1 33 G1 w2 L1 (I0.kept K1) (by decide) (by decide)).mono ?_
  rintro e w3 ⟨e2, L2, k2⟩
  rw [g1_1] at e2
  obtain rfl : e = .returned (.bool false) := e2
  have K2 := K1.trans k2
  clear k2
  rw [Lg.ev_shut (G := G1) (x := 1) (k := 33) (by rw [g1_1]; rfl)] at L2
  have g2_1 := g1_1
  have g2_2 := g1_2
  have g2_3 := g1_3
  obtain ⟨G2, eG2⟩ : ∃ G, G = G1 := ⟨_, rfl⟩
  rw [← eG2] at L2 g2_1 g2_2 g2_3
  clear eG2
  clear L1 K1 g1_1 g1_2 g1_3
  go_wp2_with fail
  refine (lopenX X a 2 1 (-1) G2 w3 L2 (I0.kept K2) (by decide) (by decide)).mono ?_
  rintro e w4 ⟨e3, L3, k3⟩
  rw [g2_1] at e3
  obtain rfl : e = .returned (.bool false) := e3
  have K3 := K2.trans k3
  clear k3
  rw [Lg.ev_shut (G := G2) (x := 1) (k := (-1)) (by rw [g2_1]; rfl)] at L3
  have g3_1 := g2_1
  have g3_2 := g2_2
  have g3_3 := g2_3
  obtain ⟨G3, eG3⟩ : ∃ G, G = G2 := ⟨_, rfl⟩
  rw [← eG3] at L3 g3_1 g3_2 g3_3
  clear eG3
  clear L2 K2 g2_1 g2_2 g2_3
  go_wp2_with fail
  refine (lleftX X a 3 1 G3 w4 L3 (by decide)).mono ?_
  rintro e w5 ⟨q4, r4⟩
  rw [g3_1] at q4
  obtain rfl : e = .returned (.int .i64 0) := q4
  obtain rfl := r4
  go_wp2_with fail
  refine (lopenX X a 3 1 32 G3 w5 L3 (I0.kept K3) (by decide) (by decide)).mono ?_
  rintro e w6 ⟨e4, L4, k4⟩
  rw [g3_1] at e4
  obtain rfl : e = .returned (.bool true) := e4
  have K4 := K3.trans k4
  clear k4
  rw [Lg.ev_open (k := 32) 32 g3_1 rfl (by decide) (by decide)] at L4
  have g4_1 : Lg.put G3 1 (some (32, 0)) 1 = some (32, 0) := Lg.put_same _ _ _
  have g4_2 : Lg.put G3 1 (some (32, 0)) 2 = none := (Lg.put_other _ _ (by decide)).trans g3_2
  have g4_3 : Lg.put G3 1 (some (32, 0)) 3 = none := (Lg.put_other _ _ (by decide)).trans g3_3
  generalize Lg.put G3 1 (some (32, 0)) = G4 at *
  clear L3 K3 g3_1 g3_2 g3_3
  go_wp2_with fail
  refine (lopenX X a 4 1 5 G4 w6 L4 (I0.kept K4) (by decide) (by decide)).mono ?_
  rintro e w7 ⟨e5, L5, k5⟩
  rw [g4_1] at e5
  obtain rfl : e = .returned (.bool false) := e5
  have K5 := K4.trans k5
  clear k5
  rw [Lg.ev_shut (G := G4) (x := 1) (k := 5) (by rw [g4_1]; rfl)] at L5
  have g5_1 := g4_1
  have g5_2 := g4_2
  have g5_3 := g4_3
  obtain ⟨G5, eG5⟩ : ∃ G, G = G4 := ⟨_, rfl⟩
  rw [← eG5] at L5 g5_1 g5_2 g5_3
  clear eG5
  clear L4 K4 g4_1 g4_2 g4_3
  go_wp2_with fail
  refine (lopenX X a 5 2 1 G5 w7 L5 (I0.kept K5) (by decide) (by decide)).mono ?_
  rintro e w8 ⟨e6, L6, k6⟩
  rw [g5_2] at e6
  obtain rfl : e = .returned (.bool true) := e6
  have K6 := K5.trans k6
  clear k6
  rw [Lg.ev_open (k := 1) 1 g5_2 rfl (by decide) (by decide)] at L6
  have g6_1 : Lg.put G5 2 (some (1, 0)) 1 = some (32, 0) := (Lg.put_other _ _ (by decide)).trans g5_1
  have g6_2 : Lg.put G5 2 (some (1, 0)) 2 = some (1, 0) := Lg.put_same _ _ _
  have g6_3 : Lg.put G5 2 (some (1, 0)) 3 = none := (Lg.put_other _ _ (by decide)).trans g5_3
  generalize Lg.put G5 2 (some (1, 0)) = G6 at *
  clear L5 K5 g5_1 g5_2 g5_3
  go_wp2_with fail
  refine (lleftX X a 6 2 G6 w8 L6 (by decide)).mono ?_
  rintro e w9 ⟨q8, r8⟩
  rw [g6_2] at q8
  obtain rfl : e = .returned (.int .i64 64) := q8
  obtain rfl := r8
  go_wp2_with fail
  refine (lnextX X a 6 1 G6 w9 L6 (by decide) (by decide)).mono ?_
  rintro e w10 ⟨e7, L7, k7⟩
  rw [g6_1] at e7
  obtain rfl : e = .returned (.tuple #[.int .i64 32, .bool true]) := e7
  have K7 := K6.trans k7
  clear k7
  rw [Lg.ev_next g6_1 (by decide)] at L7
  have g7_1 : Lg.put G6 1 (some (32, 1)) 1 = some (32, 1) := Lg.put_same _ _ _
  have g7_2 : Lg.put G6 1 (some (32, 1)) 2 = some (1, 0) := (Lg.put_other _ _ (by decide)).trans g6_2
  have g7_3 : Lg.put G6 1 (some (32, 1)) 3 = none := (Lg.put_other _ _ (by decide)).trans g6_3
  generalize Lg.put G6 1 (some (32, 1)) = G7 at *
  clear L6 K6 g6_1 g6_2 g6_3
  go_wp2_with fail
  refine (lnextX X a 7 2 G7 w10 L7 (by decide) (by decide)).mono ?_
  rintro e w11 ⟨e8, L8, k8⟩
  rw [g7_2] at e8
  obtain rfl : e = .returned (.tuple #[.int .i64 1, .bool true]) := e8
  have K8 := K7.trans k8
  clear k8
  rw [Lg.ev_next g7_2 (by decide)] at L8
  have g8_1 : Lg.put G7 2 (some (1, 1)) 1 = some (32, 1) := (Lg.put_other _ _ (by decide)).trans g7_1
  have g8_2 : Lg.put G7 2 (some (1, 1)) 2 = some (1, 1) := Lg.put_same _ _ _
  have g8_3 : Lg.put G7 2 (some (1, 1)) 3 = none := (Lg.put_other _ _ (by decide)).trans g7_3
  generalize Lg.put G7 2 (some (1, 1)) = G8 at *
  clear L7 K7 g7_1 g7_2 g7_3
  go_wp2_with fail
  refine (lnextX X a 8 1 G8 w11 L8 (by decide) (by decide)).mono ?_
  rintro e w12 ⟨e9, L9, k9⟩
  rw [g8_1] at e9
  obtain rfl : e = .returned (.tuple #[.int .i64 33, .bool true]) := e9
  have K9 := K8.trans k9
  clear k9
  rw [Lg.ev_next g8_1 (by decide)] at L9
  have g9_1 : Lg.put G8 1 (some (32, 2)) 1 = some (32, 2) := Lg.put_same _ _ _
  have g9_2 : Lg.put G8 1 (some (32, 2)) 2 = some (1, 1) := (Lg.put_other _ _ (by decide)).trans g8_2
  have g9_3 : Lg.put G8 1 (some (32, 2)) 3 = none := (Lg.put_other _ _ (by decide)).trans g8_3
  generalize Lg.put G8 1 (some (32, 2)) = G9 at *
  clear L8 K8 g8_1 g8_2 g8_3
  go_wp2_with fail
  refine (lnextX X a 9 3 G9 w12 L9 (by decide) (by decide)).mono ?_
  rintro e w13 ⟨e10, L10, k10⟩
  rw [g9_3] at e10
  obtain rfl : e = .returned (.tuple #[.int .i64 0, .bool false]) := e10
  have K10 := K9.trans k10
  clear k10
  rw [Lg.ev_stay (G := G9) (x := 3) (by rw [g9_3]; rfl)] at L10
  have g10_1 := g9_1
  have g10_2 := g9_2
  have g10_3 := g9_3
  obtain ⟨G10, eG10⟩ : ∃ G, G = G9 := ⟨_, rfl⟩
  rw [← eG10] at L10 g10_1 g10_2 g10_3
  clear eG10
  clear L9 K9 g9_1 g9_2 g9_3
  go_wp2_with fail
  refine (lleftX X a 10 1 G10 w13 L10 (by decide)).mono ?_
  rintro e w14 ⟨q13, r13⟩
  rw [g10_1] at q13
  obtain rfl : e = .returned (.int .i64 62) := q13
  obtain rfl := r13
  go_wp2_with fail
  refine (lcloseX X a 10 1 G10 w14 L10 (by decide)).mono ?_
  rintro e w15 ⟨e11, L11, k11⟩
  rw [g10_1] at e11
  obtain rfl : e = .returned (.bool true) := e11
  have K11 := K10.trans k11
  clear k11
  rw [show Lg.put G10 1 none = Lg.put G10 1 none from rfl] at L11
  have g11_1 : Lg.put G10 1 (none) 1 = none := Lg.put_same _ _ _
  have g11_2 : Lg.put G10 1 (none) 2 = some (1, 1) := (Lg.put_other _ _ (by decide)).trans g10_2
  have g11_3 : Lg.put G10 1 (none) 3 = none := (Lg.put_other _ _ (by decide)).trans g10_3
  generalize Lg.put G10 1 (none) = G11 at *
  clear L10 K10 g10_1 g10_2 g10_3
  go_wp2_with fail
  refine (lleftX X a 10 1 G11 w15 L11 (by decide)).mono ?_
  rintro e w16 ⟨q15, r15⟩
  rw [g11_1] at q15
  obtain rfl : e = .returned (.int .i64 0) := q15
  obtain rfl := r15
  go_wp2_with fail
  refine (lleftX X a 10 2 G11 w16 L11 (by decide)).mono ?_
  rintro e w17 ⟨q16, r16⟩
  rw [g11_2] at q16
  obtain rfl : e = .returned (.int .i64 63) := q16
  obtain rfl := r16
  go_wp2_with fail
  refine (lopenX X a 10 1 5 G11 w17 L11 (I0.kept K11) (by decide) (by decide)).mono ?_
  rintro e w18 ⟨e12, L12, k12⟩
  rw [g11_1] at e12
  obtain rfl : e = .returned (.bool true) := e12
  have K12 := K11.trans k12
  clear k12
  rw [Lg.ev_open (k := 5) 5 g11_1 rfl (by decide) (by decide)] at L12
  have g12_1 : Lg.put G11 1 (some (5, 0)) 1 = some (5, 0) := Lg.put_same _ _ _
  have g12_2 : Lg.put G11 1 (some (5, 0)) 2 = some (1, 1) := (Lg.put_other _ _ (by decide)).trans g11_2
  have g12_3 : Lg.put G11 1 (some (5, 0)) 3 = none := (Lg.put_other _ _ (by decide)).trans g11_3
  generalize Lg.put G11 1 (some (5, 0)) = G12 at *
  clear L11 K11 g11_1 g11_2 g11_3
  go_wp2_with fail
  refine (lleftX X a 11 1 G12 w18 L12 (by decide)).mono ?_
  rintro e w19 ⟨q18, r18⟩
  rw [g12_1] at q18
  obtain rfl : e = .returned (.int .i64 64) := q18
  obtain rfl := r18
  go_wp2
  go_ret
  exact ⟨rfl, HX.out _ (k0.trans K12)⟩

/-! ### THE ROW's STEP: WRITTEN OUT: LEAVE IT -/
set_option maxRecDepth 100000 in
theorem lifted (os : Os) (started : os.Started) (H : Type) (enc : TypeId × Value → H) :
    ReturnsInHanded {} Try.checked os 5 .any (Rows.ledgerFormsSpec.pre6 enc Try.prog Try.f5 Rows.ledgerFormsRow.domain false) (Rows.ledgerFormsSpec.post enc Try.prog Try.f5 false true false false) := by
  refine returnsInHanded_of_change (C := Try.checked) own started (by kernel_rfl) Try.func5
    (ChangeSpec.witness6 (enc := enc) (C := Try.checked) false ⟨#[], #[], []⟩ 8 (by kernel_rfl) (by kernel_rfl) (by kernel_rfl) (by kernel_rfl)) ?_
  intro W base args ds gs before hval0 hW hcnd _
  have hval : ∀ (j : Nat) t v, Try.f5.params[j]? = some t → args[j]? = some v → Value.okWide Try.prog W .any base t v := hval0
  have hW' := hW
  obtain ⟨p, q, hA0, hV, rfl, hfz, hnd⟩ := hW
  have hA : DataW.TrodAll enc Try.prog W 0 (fun _ => true) true Try.f5.params.toList args.toList ds p := hA0
  rw [Try.params5] at hA hval
  obtain ⟨rfl, rfl, rfl⟩ := trodAll_none hA
  obtain ⟨rfl, rfl⟩ := trodVars_none hV
  clear hA0 hval0
  simp only [List.append_nil] at hW'
  refine (walk  W).mono fun e W' ⟨he, hg⟩ => ?_
  subst he
  exact ⟨_, rfl, _, _, _, [], [], [], hW', (trodAll_cons_mk (shut_bool Try.underlying4 _) trodAll_mk0), rfl, rfl, hg.frame _, fun h => by cases h⟩

theorem over : Rows.ledgerFormsRow.holds Try.pinned (OpenSpec.ofChange Rows.ledgerFormsSpec) :=
  OpenClaim.holds_of_wide 5 Try.f5 rfl rfl rfl rfl rfl rfl rfl ⟨rfl, rfl, rfl, rfl, rfl⟩ rfl rfl rfl rfl rfl (by kernel_rfl) Try.func5 (by kernel_rfl)
    (of_decide_eq_true (by kernel_rfl)) (by unfold Func.isWrapper; first | (rw [if_pos (by decide +kernel)]; kernel_rfl) | (rw [if_neg (by decide +kernel)]; exact ⟨rfl, rfl⟩))
    (fun os started H enc _ => lifted os started H enc)

theorem proved : Rows.LedgerFormsSaid :=
  over
end Go.Proofs.Ytjmfhkpaloipkaa.ledgerForms
namespace Go.Proofs.Ytjmfhkpaloipkaa
theorem ledgerForms_holds : Rows.LedgerFormsSaid := ledgerForms.proved
#print axioms ledgerForms_holds
end Go.Proofs.Ytjmfhkpaloipkaa

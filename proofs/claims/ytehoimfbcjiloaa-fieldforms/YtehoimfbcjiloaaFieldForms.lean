/-
  The program's field has the products, powers and logs that the statement FieldForms lists: the call returns true (a closed statement; no condition).
-/
import Derived.Test.YtehoimfbcjiloaaRows
import Derived.WalkKit
import Derived.ProofKit
import Derived.OpenShut
import Derived.ShutString
import Derived.Test.YtehoimfbcjiloaaBeg
import Derived.ChangeOld
import Derived.Below
namespace Go.Proofs.Ytehoimfbcjiloaa.fieldForms
open Go.ChangeShapes Go.WideShapes Go.ChangeAt Go.RowKit
open Go.ChangeMaps (open_string shut_string)
set_option linter.unusedVariables false      -- a walk need not use every 'w<i>' (that an integer argument fits its kind)

theorem own : ownKnob Try.prog.godebug = none := by kernel_rfl

open Go.Deep

def fa (i : Nat) : Nat := ([0, 1, 2, 3, 128, 255, 83, 142] : List Nat).getD i 0
def fb (i : Nat) : Nat := ([7, 9, 2, 3, 128, 255, 2, 2] : List Nat).getD i 0
def fw (i : Nat) : Nat := ([0, 9, 4, 5, 19, 226, 166, 1] : List Nat).getD i 0
theorem forms_ok (k : Nat) (h : k < 8) : fa k < 256 ∧ fb k < 256 ∧ Gf.mul (fa k) (fb k) = fw k ∧ Gf.mul (fb k) (fa k) = fw k := by
  have := Gf.all_of (n := 8) (p := fun k => decide (fa k < 256 ∧ fb k < 256 ∧ Gf.mul (fa k) (fb k) = fw k ∧ Gf.mul (fb k) (fa k) = fw k)) (by decide +kernel) k h
  simpa using this

/-- The three rows of the statement, in blocks B, B + 1, B + 2. -/
def Tab (w : World) (B : Nat) : Prop := ∀ i, i < 8 → w.cell? ⟨B, i, none⟩ = some (.int .u8 (fa i)) ∧ w.cell? ⟨B + 1, i, none⟩ = some (.int .u8 (fb i)) ∧ w.cell? ⟨B + 1 + 1, i, none⟩ = some (.int .u8 (fw i))
theorem tab_start (w : World) (B : Nat) (hB : w.heap.size = B) (ca cb cc : Array Value) (t : TypeId) (ha : ∀ i, i < 8 → ca[i]? = some (.int .u8 (fa i))) (hb : ∀ i, i < 8 → cb[i]? = some (.int .u8 (fb i))) (hc : ∀ i, i < 8 → cc[i]? = some (.int .u8 (fw i))) :
    Tab (((w.alloc (.cells ca t)).alloc (.cells cb t)).alloc (.cells cc t)) B := by
  subst hB
  intro i hi
  refine ⟨?_, ?_, ?_⟩
  · rw [World.cell?_alloc_past _ _ _ (by simp; omega), World.cell?_alloc_past _ _ _ (by simp), World.cell?_alloc_at _ _ _ _ rfl, ha i hi]
  · rw [World.cell?_alloc_past _ _ _ (by simp), World.cell?_alloc_at _ _ _ _ (by simp), hb i hi]
  · rw [World.cell?_alloc_at _ _ _ _ (by simp), hc i hi]
theorem Tab.same {w w' : World} {B : Nat} (h : Tab w B) (q : Same w w') : Tab w' B := by
  obtain ⟨n, rfl⟩ := q; exact h

set_option maxRecDepth 100000 in
set_option maxHeartbeats 400000 in
theorem walk (w : World) :
    Calls Try.prog 8 #[] w fun e w' => e = .returned (.bool true) ∧ Below w.heap.size w w' := by
  go_enter Try.func8, Try.ntmps8
  go_wp2_with fail
  refine (begun_any _).mono ?_
  rintro e w0 ⟨rfl, hb0⟩
  go_wp2_with fail
  refine (new_any _).mono ?_
  rintro e w1 ⟨rfl, hb1, hf1, hs1⟩
  go_wp2_with fail
  go_loopw [5] (fun i wr => ∃ k : Nat, k ≤ 8 ∧ i = .int .i64 k ∧ Tab wr (w0.heap.size + 1) ∧ FieldAt wr w0.heap.size ∧ Below w.heap.size w wr) (fun i _ => 8 - (intOf i).toNat)
  case atStart =>
    refine ⟨0, by omega, rfl, tab_start w1 _ hs1 _ _ _ _ ?_ ?_ ?_, ?_, ?_⟩
    · intro i hi; match i, hi with | 0, _ => rfl | 1, _ => rfl | 2, _ => rfl | 3, _ => rfl | 4, _ => rfl | 5, _ => rfl | 6, _ => rfl | 7, _ => rfl
    · intro i hi; match i, hi with | 0, _ => rfl | 1, _ => rfl | 2, _ => rfl | 3, _ => rfl | 4, _ => rfl | 5, _ => rfl | 6, _ => rfl | 7, _ => rfl
    · intro i hi; match i, hi with | 0, _ => rfl | 1, _ => rfl | 2, _ => rfl | 3, _ => rfl | 4, _ => rfl | 5, _ => rfl | 6, _ => rfl | 7, _ => rfl
    · exact hf1.below (((Below.refl w1.heap.size w1).alloc (Nat.le_refl _) _ |>.alloc (by simp) _).alloc (by simp; omega) _) hf1.lt
    · have := hb0.size
      have := hb1.size
      exact (((hb0.trans (hb1.mono (by omega))).alloc (by omega) _).alloc (by simp; omega) _).alloc (by simp; omega) _
  case round =>
    obtain ⟨k, hk, rfl, htab, hf, hb⟩ := hrel
    by_cases hlt : k < 8
    · obtain ⟨c1, c2, c3⟩ := htab k hlt
      obtain ⟨l1, l2, m1, m2⟩ := forms_ok k hlt
      generalize fa k = u at *
      generalize fb k = v at *
      generalize fw k = z at *
      have M1 : Hid (Gf.mul u v = z) := m1
      have M2 : Hid (Gf.mul v u = z) := m2
      have HT : Hid (Tab wr (w0.heap.size + 1)) := htab
      clear m1 m2 htab
      have ilt : (k : Int) < 8 := by omega
      go_wp2_with fail
      go_quiet ((go_at_call 17; refine Calls.quiet_of (mul_is _ _ _ z _ ?_ ?_ ?_ ?_); exact hf.drewN _; (first | exact l1 | exact l2); (first | exact l1 | exact l2); (first | exact M1.out | exact M2.out)))
      go_wp2
      go_roundw
      case rel => exact ⟨k + 1, by omega, by go_num, HT.out, ⟨hf.powers, hf.logs⟩, hb.trans (below_drews _)⟩
      case measure => simp [intOf]; omega
    · have hk8 : k = 8 := by omega
      subst hk8
      go_wp2_with fail
      refine (log_at w0.heap.size 1 0 _ hf (by decide) (by decide) (by decide +kernel)).mono ?_
      rintro e w2 ⟨rfl, rfl⟩
      go_wp2_with fail
      refine (exp_at w0.heap.size 0 1 _ hf (by decide) (by decide) (by decide +kernel)).mono ?_
      rintro e w3 ⟨rfl, rfl⟩
      go_wp2_with fail
      refine (exp_at w0.heap.size 255 1 _ hf (by decide) (by decide) (by decide +kernel)).mono ?_
      rintro e w3 ⟨rfl, rfl⟩
      go_wp2_with fail
      refine (exp_at w0.heap.size (-1) 142 _ hf (by decide) (by decide) (by decide +kernel)).mono ?_
      rintro e w3 ⟨rfl, rfl⟩
      go_wp2_with fail
      refine (exp_at w0.heap.size 1 2 _ hf (by decide) (by decide) (by decide +kernel)).mono ?_
      rintro e w3 ⟨rfl, rfl⟩
      go_wp2
      go_ret
      exact ⟨rfl, hb⟩

/-! ### THE ROW's STEP: WRITTEN OUT: LEAVE IT -/
set_option maxRecDepth 100000 in
theorem lifted (os : Os) (started : os.Started) (H : Type) (enc : TypeId × Value → H) :
    ReturnsInHanded {} Try.checked os 8 .any (Rows.fieldFormsSpec.pre6 enc Try.prog Try.f8 Rows.fieldFormsRow.domain false) (Rows.fieldFormsSpec.post enc Try.prog Try.f8 false true false false) := by
  refine returnsInHanded_of_change (C := Try.checked) own started (by kernel_rfl) Try.func8
    (ChangeSpec.witness6 (enc := enc) (C := Try.checked) false ⟨#[], #[], []⟩ 8 (by kernel_rfl) (by kernel_rfl) (by kernel_rfl) (by kernel_rfl)) ?_
  intro W base args ds gs before hval0 hW hcnd _
  have hval : ∀ (j : Nat) t v, Try.f8.params[j]? = some t → args[j]? = some v → Value.okWide Try.prog W .any base t v := hval0
  have hW' := hW
  obtain ⟨p, q, hA0, hV, rfl, hfz, hnd⟩ := hW
  have hA : DataW.TrodAll enc Try.prog W 0 (fun _ => true) true Try.f8.params.toList args.toList ds p := hA0
  rw [Try.params8] at hA hval
  obtain ⟨rfl, rfl, rfl⟩ := trodAll_none hA
  obtain ⟨rfl, rfl⟩ := trodVars_none hV
  clear hA0 hval0
  simp only [List.append_nil] at hW'
  refine (walk  W).mono fun e W' ⟨he, hg⟩ => ?_
  subst he
  exact ⟨_, rfl, _, _, _, [], [], [], hW', (trodAll_cons_mk (shut_bool Try.underlying4 _) trodAll_mk0), rfl, rfl, hg.frame _, fun h => by cases h⟩

theorem over : Rows.fieldFormsRow.holds Try.pinned (OpenSpec.ofChange Rows.fieldFormsSpec) :=
  OpenClaim.holds_of_wide 8 Try.f8 rfl rfl rfl rfl rfl rfl rfl ⟨rfl, rfl, rfl, rfl, rfl⟩ rfl rfl rfl rfl rfl (by kernel_rfl) Try.func8 (by kernel_rfl)
    (of_decide_eq_true (by kernel_rfl)) (by unfold Func.isWrapper; first | (rw [if_pos (by decide +kernel)]; kernel_rfl) | (rw [if_neg (by decide +kernel)]; exact ⟨rfl, rfl⟩))
    (fun os started H enc _ => lifted os started H enc)

theorem proved : Rows.FieldFormsSaid :=
  over
end Go.Proofs.Ytehoimfbcjiloaa.fieldForms
namespace Go.Proofs.Ytehoimfbcjiloaa
theorem fieldForms_holds : Rows.FieldFormsSaid := fieldForms.proved
#print axioms fieldForms_holds
end Go.Proofs.Ytehoimfbcjiloaa

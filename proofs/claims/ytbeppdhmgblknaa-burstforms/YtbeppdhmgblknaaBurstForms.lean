/-
  What five looks come to is what the statement BurstForms lists: the call returns true (a closed statement; no condition).
-/
import Derived.Test.YtbeppdhmgblknaaRows
import Derived.WalkKit
import Derived.ProofKit
import Derived.OpenShut
import Derived.ShutString
import Derived.Test.YtbeppdhmgblknaaBu2
import Derived.ChangeOld
import Derived.Below
namespace Go.Proofs.Ytbeppdhmgblknaa.burstForms
open Go.ChangeShapes Go.WideShapes Go.ChangeAt Go.RowKit
open Go.ChangeMaps (open_string shut_string)
set_option linter.unusedVariables false      -- a walk need not use every 'w<i>' (that an integer argument fits its kind)

theorem own : ownKnob Try.prog.godebug = none := by kernel_rfl

open Go.Deep

def lns : List Nat := [0, 65535, 0, 1, 3]
def lws : List Nat := [0, 262140, 196605, 147457, 110604]
/-- What stands behind the first j looks. -/
def tells : Nat → Bool
  | 0 => false
  | _ + 1 => true
def vals : Nat → Nat
  | 0 => 0
  | j + 1 => Bu.val (tells j) (vals j) (listAt lns j)
theorem table : ∀ j, j < 5 → vals (j + 1) = listAt lws j ∧ vals j ≤ 1048560 ∧ listAt lns j < 65536 := by decide

theorem row_nat (κ : IntKind) (w : World) (t : TypeId) (l : List Nat) : (w.alloc (.cells (l.map fun (z : Nat) => Value.int κ (z : Int)).toArray t)).rowIs w.heap.size t l.length (fun i => .int κ (listAt l i : Int)) := by
  have h := World.rowIs_alloc w (l.map fun (z : Nat) => Value.int κ (z : Int)).toArray t (fun i => .int κ (listAt l i : Int)) fun i hi => by
    simp at hi
    simp [listAt, List.getD, hi]
  simpa using h
theorem head (w0 : World) : ∃ w1, w1 = ((w0.alloc (.cells (lns.map fun (z : Nat) => Value.int .u16 (z : Int)).toArray 30)).alloc (.cells (lws.map fun (z : Nat) => Value.int .i64 (z : Int)).toArray 3)) ∧
    w1.rowIs w0.heap.size 30 5 (fun i => .int .u16 (listAt lns i : Int)) ∧ w1.rowIs (w0.heap.size + 1) 3 5 (fun i => .int .i64 (listAt lws i : Int)) ∧ Below w0.heap.size w0 w1 := by
  refine ⟨_, rfl, (row_nat .u16 w0 _ lns).alloc _, ?_, ((Below.refl _ w0).alloc (Nat.le_refl _) _).alloc (by simp) _⟩
  have h := row_nat .i64 (w0.alloc (.cells (lns.map fun (z : Nat) => Value.int .u16 (z : Int)).toArray 30)) 3 lws
  rw [show (w0.alloc (.cells (lns.map fun (z : Nat) => Value.int .u16 (z : Int)).toArray 30)).heap.size = w0.heap.size + 1 by simp] at h
  exact h

/-- The two rows that the statement lists, behind block G. -/
def Rows2 (G : Nat) (w : World) : Prop := w.rowIs (G + 1) 30 5 (fun i => .int .u16 (listAt lns i : Int)) ∧ w.rowIs (G + 1 + 1) 3 5 (fun i => .int .i64 (listAt lws i : Int))
theorem Rows2.of_same {G : Nat} {w w' : World} (h : Rows2 G w) (q : Same w w') : Rows2 G w' := by
  obtain ⟨n, rfl⟩ := q
  exact ⟨h.1.of_block rfl, h.2.of_block rfl⟩
theorem Rows2.kept {G : Nat} {w w' : World} (h : Rows2 G w) (q : Kept G w w') : Rows2 G w' :=
  ⟨h.1.of_block (q.block _ h.1.lt (by omega)), h.2.of_block (q.block _ h.2.lt (by omega))⟩

set_option maxRecDepth 100000 in
set_option maxHeartbeats 1000000 in
theorem walk (w : World) :
    Calls Try.prog 5 #[] w fun e w' => e = .returned (.bool true) ∧ Below w.heap.size w w' := by
  go_enter Try.func5, Try.ntmps5
  go_wp2_with fail
  refine (begun18 _).mono ?_
  rintro e w0 ⟨rfl, b0⟩
  go_wp2_with fail
  refine (burst_new _).mono ?_
  rintro e w1 ⟨rfl, M1, d1, z1⟩
  have b1 := b0.trans (d1.mono b0.size)
  have h0 : w.heap.size ≤ w0.heap.size := b0.size
  clear b0 d1
  go_wp2_with fail
  obtain ⟨w2, e2, R1, R2, d2⟩ := head w1
  simp only [lns, lws, List.map] at e2
  have e2 : w2 = ((w1.alloc (.cells #[.int .u16 0, .int .u16 65535, .int .u16 0, .int .u16 1, .int .u16 3] 30)).alloc (.cells #[.int .i64 0, .int .i64 262140, .int .i64 196605, .int .i64 147457, .int .i64 110604] 3)) := e2
  rw [← e2]
  have M2 := M1.grew d2
  have b2 := b1.trans (d2.mono b1.size)
  rw [z1] at R1 R2
  clear e2 M1 b1 d2 z1
  generalize w0.heap.size = G at *
  have HM2 : Hid (BuAt w2 G false 0) := M2
  have HB2 : Hid (Below w.heap.size w w2) := b2
  clear M2 b2
  go_loopw [4] (fun i wr => ∃ j : Nat, j ≤ 5 ∧ i = .int .i64 j ∧ Hid (Rows2 G wr) ∧ Hid (BuAt wr G (tells j) (vals j)) ∧ Hid (Below w.heap.size w wr)) (fun i _ => 5 - (intOf i).toNat)
  case atStart => exact ⟨0, by decide, rfl, ⟨R1, R2⟩, HM2, HB2⟩
  case round =>
    clear R1 R2 HM2 HB2
    obtain ⟨j, hj, rfl, HR, HM, HB⟩ := hrel
    by_cases hj5 : j < 5
    · obtain ⟨t1, t2, t3⟩ := table j hj5
      have c1 := HR.out.1.cell hj5
      have i1 : (j : Int) < 5 := by omega
      have hA : ∀ W, Hid (BuAt W G (tells j) (vals j) → Calls Try.prog 8 #[.pointer (some ⟨G, 0, none⟩), .int .u16 (listAt lns j : Int)] W fun e w' => e = .returned (.tuple #[]) ∧ BuAt w' G (tells (j + 1)) (listAt lws j) ∧ Kept G W w') := fun W hm =>
        (badd_any G _ _ _ W hm t2 t3).mono fun e w' h => ⟨h.1, t1 ▸ h.2.1, h.2.2.1⟩
      have HT : Hid (vals (j + 1) = listAt lws j) := t1
      clear t1 t2 t3
      generalize listAt lns j = x at *
      go_wp2_with fail
      refine ((hA _).out HM.out).mono ?_
      rintro e w6 ⟨rfl, M6, k6⟩
      have HM6 : Hid (BuAt w6 G (tells (j + 1)) (listAt lws j)) := M6
      have HR6 : Hid (Rows2 G w6) := HR.out.kept k6
      have HB6 : Hid (Below w.heap.size w w6) := HB.out.trans (k6.below h0 HB.out.size)
      have c3 := HR6.out.2.cell hj5
      clear HM HR HB M6 k6 c1 hA
      generalize listAt lws j = z at *
      go_wp2_with fail
      go_quiet ((go_at_call 10; exact Calls.quiet_of_same (bval_any G z _ _ (HM6.out.same ⟨_, rfl⟩))))
      go_wp2
      go_roundw
      case rel => exact ⟨j + 1, by omega, by go_num, HR6.out.of_same ⟨_, rfl⟩, HT.out ▸ HM6.out.same ⟨_, rfl⟩, HB6.out.trans (below_drews _)⟩
      case measure => simp [intOf]; omega
    · obtain rfl : j = 5 := by omega
      go_wp2
      go_ret
      exact ⟨rfl, HB.out⟩

/-! ### THE ROW's STEP: WRITTEN OUT: LEAVE IT -/
set_option maxRecDepth 100000 in
theorem lifted (os : Os) (started : os.Started) (H : Type) (enc : TypeId × Value → H) :
    ReturnsInHanded {} Try.checked os 5 .any (Rows.burstFormsSpec.pre6 enc Try.prog Try.f5 Rows.burstFormsRow.domain false) (Rows.burstFormsSpec.post enc Try.prog Try.f5 false true false false) := by
  refine returnsInHanded_of_change (C := Try.checked) own started (by kernel_rfl) Try.func5
    (ChangeSpec.witness6 (enc := enc) (C := Try.checked) false ⟨#[], #[], []⟩ 8 (by kernel_rfl) (by kernel_rfl) (by kernel_rfl) (by kernel_rfl)) ?_
  intro W base args ds gs before hval0 hW hcnd _
  have hval : ∀ (j : Nat) t v, Try.f5.params[j]? = some t → args[j]? = some v → Value.okWide Try.prog W .any base t v := hval0
  have hW' := hW
  obtain ⟨p, q, hA0, hV, rfl, hfz, hnd⟩ := hW
  have hA : DataW.TrodAll enc Try.prog W 0 (fun _ => true) true Try.f5.params.toList args.toList ds p := hA0
  rw [Try.params5] at hA hval
  obtain ⟨rfl, rfl, rfl⟩ := trodAll_none hA
  obtain ⟨rfl, rfl⟩ := trodVars_none hV
  clear hA0 hval0
  simp only [List.append_nil] at hW'
  refine (walk  W).mono fun e W' ⟨he, hg⟩ => ?_
  subst he
  exact ⟨_, rfl, _, _, _, [], [], [], hW', (trodAll_cons_mk (shut_bool Try.underlying4 _) trodAll_mk0), rfl, rfl, hg.frame _, fun h => by cases h⟩

theorem over : Rows.burstFormsRow.holds Try.pinned (OpenSpec.ofChange Rows.burstFormsSpec) :=
  OpenClaim.holds_of_wide 5 Try.f5 rfl rfl rfl rfl rfl rfl rfl ⟨rfl, rfl, rfl, rfl, rfl⟩ rfl rfl rfl rfl rfl (by kernel_rfl) Try.func5 (by kernel_rfl)
    (of_decide_eq_true (by kernel_rfl)) (by unfold Func.isWrapper; first | (rw [if_pos (by decide +kernel)]; kernel_rfl) | (rw [if_neg (by decide +kernel)]; exact ⟨rfl, rfl⟩))
    (fun os started H enc _ => lifted os started H enc)

theorem proved : Rows.BurstFormsSaid :=
  over
end Go.Proofs.Ytbeppdhmgblknaa.burstForms
namespace Go.Proofs.Ytbeppdhmgblknaa
theorem burstForms_holds : Rows.BurstFormsSaid := burstForms.proved
#print axioms burstForms_holds
end Go.Proofs.Ytbeppdhmgblknaa

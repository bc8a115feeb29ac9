/-
  What five looks and one come to is what the statement MeanForms lists: the call returns true (a closed statement; no condition).
-/
import Derived.Test.YtmogplpljinloaaRows
import Derived.WalkKit
import Derived.ProofKit
import Derived.OpenShut
import Derived.ShutString
import Derived.Test.YtmogplpljinloaaMn2
import Derived.Deep.RegionHeld
import Derived.Deep.RegionHeld3
import Derived.ChangeOld
import Derived.Below
namespace Go.Proofs.Ytmogplpljinloaa.meanForms
open Go.ChangeShapes Go.WideShapes Go.ChangeAt Go.RowKit
open Go.ChangeMaps (open_string shut_string)
set_option linter.unusedVariables false      -- a walk need not use every 'w<i>' (that an integer argument fits its kind)

theorem own : ownKnob Try.prog.godebug = none := by kernel_rfl

open Go.Deep

def lls : List Nat := [0, 0, 4294967295, 0, 1]
def lgs : List Nat := [0, 5, 0, 0, 3]
def lws : List Nat := [0, 0, 8192, 8192, 9216]
/-- What stands behind the first j looks. -/
def tells : Nat → Bool
  | 0 => false
  | j + 1 => Mn.any (tells j) (listAt lls j) (listAt lgs j)
def vals : Nat → Nat
  | 0 => 0
  | j + 1 => Mn.val (tells j) (vals j) (listAt lls j) (listAt lgs j)
theorem table : ∀ j, j < 5 → vals (j + 1) = listAt lws j ∧ vals j ≤ 65536 ∧ listAt lls j < 4294967296 ∧ listAt lgs j < 4294967296 ∧ listAt lws j ≤ 65536 := by decide

theorem row_nat (κ : IntKind) (w : World) (t : TypeId) (l : List Nat) : (w.alloc (.cells (l.map fun (z : Nat) => Value.int κ (z : Int)).toArray t)).rowIs w.heap.size t l.length (fun i => .int κ (listAt l i : Int)) := by
  have h := World.rowIs_alloc w (l.map fun (z : Nat) => Value.int κ (z : Int)).toArray t (fun i => .int κ (listAt l i : Int)) fun i hi => by
    simp at hi
    simp [listAt, List.getD, hi]
  simpa using h
theorem head (w0 : World) : ∃ w1, w1 = (((w0.alloc (.cells (lls.map fun (z : Nat) => Value.int .u32 (z : Int)).toArray 30)).alloc (.cells (lgs.map fun (z : Nat) => Value.int .u32 (z : Int)).toArray 30)).alloc (.cells (lws.map fun (z : Nat) => Value.int .i64 (z : Int)).toArray 3)) ∧
    w1.rowIs w0.heap.size 30 5 (fun i => .int .u32 (listAt lls i : Int)) ∧ w1.rowIs (w0.heap.size + 1) 30 5 (fun i => .int .u32 (listAt lgs i : Int)) ∧ w1.rowIs (w0.heap.size + 1 + 1) 3 5 (fun i => .int .i64 (listAt lws i : Int)) ∧ Below w0.heap.size w0 w1 := by
  refine ⟨_, rfl, ((row_nat .u32 w0 _ lls).alloc _).alloc _, ?_, ?_, (((Below.refl _ w0).alloc (Nat.le_refl _) _).alloc (by simp) _).alloc (by simp; omega) _⟩
  · have h := (row_nat .u32 (w0.alloc (.cells (lls.map fun (z : Nat) => Value.int .u32 (z : Int)).toArray 30)) 30 lgs).alloc (.cells (lws.map fun (z : Nat) => Value.int .i64 (z : Int)).toArray 3)
    rw [show (w0.alloc (.cells (lls.map fun (z : Nat) => Value.int .u32 (z : Int)).toArray 30)).heap.size = w0.heap.size + 1 by simp] at h
    exact h
  · have h := row_nat .i64 ((w0.alloc (.cells (lls.map fun (z : Nat) => Value.int .u32 (z : Int)).toArray 30)).alloc (.cells (lgs.map fun (z : Nat) => Value.int .u32 (z : Int)).toArray 30)) 3 lws
    rw [show ((w0.alloc (.cells (lls.map fun (z : Nat) => Value.int .u32 (z : Int)).toArray 30)).alloc (.cells (lgs.map fun (z : Nat) => Value.int .u32 (z : Int)).toArray 30)).heap.size = w0.heap.size + 1 + 1 by simp] at h
    exact h

/-- The three rows that the statement lists, behind block G. -/
def Rows3 (G : Nat) (w : World) : Prop := w.rowIs (G + 1) 30 5 (fun i => .int .u32 (listAt lls i : Int)) ∧ w.rowIs (G + 1 + 1) 30 5 (fun i => .int .u32 (listAt lgs i : Int)) ∧ w.rowIs (G + 1 + 1 + 1) 3 5 (fun i => .int .i64 (listAt lws i : Int))
theorem Rows3.of_same {G : Nat} {w w' : World} (h : Rows3 G w) (q : Same w w') : Rows3 G w' := by
  obtain ⟨n, rfl⟩ := q
  exact ⟨h.1.of_block rfl, h.2.1.of_block rfl, h.2.2.of_block rfl⟩
theorem Rows3.kept {G : Nat} {w w' : World} (h : Rows3 G w) (q : Kept G w w') : Rows3 G w' :=
  ⟨h.1.of_block (q.block _ h.1.lt (by omega)), h.2.1.of_block (q.block _ h.2.1.lt (by omega)), h.2.2.of_block (q.block _ h.2.2.lt (by omega))⟩

set_option maxRecDepth 100000 in
set_option maxHeartbeats 1000000 in
theorem walk (w : World) :
    Calls Try.prog 5 #[] w fun e w' => e = .returned (.bool true) ∧ Below w.heap.size w w' := by
  go_enter Try.func5, Try.ntmps5
  go_wp2_with fail
  refine (begun17 _).mono ?_
  rintro e w0 ⟨rfl, b0⟩
  go_wp2_with fail
  refine (mean_new _).mono ?_
  rintro e w1 ⟨rfl, M1, d1, z1⟩
  have b1 := b0.trans (d1.mono b0.size)
  have h0 : w.heap.size ≤ w0.heap.size := b0.size
  clear b0 d1
  go_wp2_with fail
  obtain ⟨w2, e2, R1, R2, R3, d2⟩ := head w1
  simp only [lls, lgs, lws, List.map] at e2
  have e2 : w2 = ((w1.alloc (.cells #[.int .u32 0, .int .u32 0, .int .u32 4294967295, .int .u32 0, .int .u32 1] 30)).alloc (.cells #[.int .u32 0, .int .u32 5, .int .u32 0, .int .u32 0, .int .u32 3] 30)).alloc (.cells #[.int .i64 0, .int .i64 0, .int .i64 8192, .int .i64 8192, .int .i64 9216] 3) := e2
  rw [← e2]
  have M2 := M1.grew d2
  have b2 := b1.trans (d2.mono b1.size)
  rw [z1] at R1 R2 R3
  clear e2 M1 b1 d2 z1
  generalize w0.heap.size = G at *
  have HM2 : Hid (MnAt w2 G false 0) := M2
  have HB2 : Hid (Below w.heap.size w w2) := b2
  clear M2 b2
  go_loopw [5] (fun i wr => ∃ j : Nat, j ≤ 5 ∧ i = .int .i64 j ∧ Hid (Rows3 G wr) ∧ Hid (MnAt wr G (tells j) (vals j)) ∧ Hid (Below w.heap.size w wr)) (fun i _ => 5 - (intOf i).toNat)
  case atStart => exact ⟨0, by decide, rfl, ⟨R1, R2, R3⟩, HM2, HB2⟩
  case round =>
    clear R1 R2 R3 HM2 HB2
    obtain ⟨j, hj, rfl, HR, HM, HB⟩ := hrel
    by_cases hj5 : j < 5
    · obtain ⟨t1, t2, t3, t4, t5⟩ := table j hj5
      have c1 := HR.out.1.cell hj5
      have c2 := HR.out.2.1.cell hj5
      have i1 : (j : Int) < 5 := by omega
      have hA : ∀ W, Hid (MnAt W G (tells j) (vals j) → Calls Try.prog 9 #[.pointer (some ⟨G, 0, none⟩), .int .u32 (listAt lls j : Int), .int .u32 (listAt lgs j : Int)] W fun e w' => e = .returned (.tuple #[]) ∧ MnAt w' G (tells (j + 1)) (vals (j + 1)) ∧ Kept G W w') := fun W hm =>
        (madd_any G _ _ _ _ W hm t2 t3 t4).mono fun e w' h => ⟨h.1, h.2.1, h.2.2.1⟩
      have HT : Hid (vals (j + 1) = listAt lws j ∧ listAt lws j ≤ 65536) := ⟨t1, t5⟩
      clear t1 t2 t3 t4 t5
      generalize listAt lls j = x at *
      generalize listAt lgs j = y at *
      go_wp2_with fail
      refine wp_region_held (S := fun W => W.cell? ⟨G + 1, j, none⟩ = some (.int .u32 (x : Int)) ∧ W.cell? ⟨G + 1 + 1, j, none⟩ = some (.int .u32 (y : Int))) (by kernel_rfl) ?_
      change wpAnyH _ _ _ _ _ _ _ _ wr.drew
      have hr : wr.drew.cell? ⟨G + 1, j, none⟩ = some (.int .u32 (x : Int)) ∧ wr.drew.cell? ⟨G + 1 + 1, j, none⟩ = some (.int .u32 (y : Int)) := ⟨c1, c2⟩
      have HR : Hid (Rows3 G wr.drew) := HR.out.of_same ⟨1, rfl⟩
      have HM : Hid (MnAt wr.drew G (tells j) (vals j)) := HM.out.same ⟨1, rfl⟩
      have HB : Hid (Below w.heap.size w wr.drew) := HB.out.drew
      clear c1 c2
      generalize wr.drew = w5 at *
      refine wpAnyH_take (i := 0) (v := .pointer (some ⟨G, 0, none⟩)) rfl (by kernel_rfl) (by kernel_rfl) (by kernel_rfl) (fun _ _ _ h => h) (Yields.yieldsIf (Or.inl ⟨by kernel_rfl, fun _ => by kernel_rfl⟩)) hr ?_
      refine wpAnyH_take (i := 1) (v := .slice (some ⟨G + 1, 0, none⟩) 5 5) rfl (by kernel_rfl) (by kernel_rfl) (by kernel_rfl) (fun _ _ _ h => h) (Yields.yieldsIf (Or.inl ⟨by kernel_rfl, fun _ => by kernel_rfl⟩)) hr ?_
      refine wpAnyH_take (i := 2) (v := .int .i64 (j : Int)) rfl (by kernel_rfl) (by kernel_rfl) (by kernel_rfl) (fun _ _ _ h => h) (Yields.yieldsIf (Or.inl ⟨by kernel_rfl, fun _ => by kernel_rfl⟩)) hr ?_
      refine wpAnyH_take (i := 3) (v := .pointer (some ⟨G + 1, j, none⟩)) rfl (by kernel_rfl) (by kernel_rfl) (by kernel_rfl) (fun _ _ _ h => h) (Yields.yieldsIf (Or.inl ⟨by kernel_rfl, fun _ => by go_simp⟩)) hr ?_
      refine wpAnyH_take (i := 4) (v := .int .u32 (x : Int)) rfl (by kernel_rfl) (by kernel_rfl) (by kernel_rfl) (fun _ _ _ h => h) (Or.inl ⟨by kernel_rfl, fun W hW => by have g := hW.1; go_simp⟩) hr ?_
      refine wpAnyH_take (i := 5) (v := .slice (some ⟨G + 1 + 1, 0, none⟩) 5 5) rfl (by kernel_rfl) (by kernel_rfl) (by kernel_rfl) (fun _ _ _ h => h) (Yields.yieldsIf (Or.inl ⟨by kernel_rfl, fun _ => by kernel_rfl⟩)) hr ?_
      refine wpAnyH_take (i := 6) (v := .int .i64 (j : Int)) rfl (by kernel_rfl) (by kernel_rfl) (by kernel_rfl) (fun _ _ _ h => h) (Yields.yieldsIf (Or.inl ⟨by kernel_rfl, fun _ => by kernel_rfl⟩)) hr ?_
      refine wpAnyH_take (i := 7) (v := .pointer (some ⟨G + 1 + 1, j, none⟩)) rfl (by kernel_rfl) (by kernel_rfl) (by kernel_rfl) (fun _ _ _ h => h) (Yields.yieldsIf (Or.inl ⟨by kernel_rfl, fun _ => by go_simp⟩)) hr ?_
      refine wpAnyH_take (i := 8) (v := .int .u32 (y : Int)) rfl (by kernel_rfl) (by kernel_rfl) (by kernel_rfl) (fun _ _ _ h => h) (Or.inl ⟨by kernel_rfl, fun W hW => by have g := hW.2; go_simp⟩) hr ?_
      refine wpAnyH_ready (rs := [9]) (by kernel_rfl) (by simp) ?_
      refine AllReadyH.cons rfl (fun K2 hK2 => ?_) AllReadyH.nil
      go_simp
      refine ((hA w5).out HM.out).mono ?_
      rintro e w6 ⟨rfl, M6, k6⟩
      refine hK2.out _ _ ⟨k6.cell hr.1 (by omega), k6.cell hr.2 (by omega)⟩ (fun hr => ?_)
      clear hK2 K2
      refine wpAnyH_done (by kernel_rfl) ?_ _
      have HM6 : Hid (MnAt w6 G (tells (j + 1)) (vals (j + 1))) := M6
      have HR6 : Hid (Rows3 G w6) := HR.out.kept k6
      have HB6 : Hid (Below w.heap.size w w6) := HB.out.trans (k6.below h0 HB.out.size)
      have c3 := HR6.out.2.2.cell hj5
      have hV : ∀ W, Hid (MnAt W G (tells (j + 1)) (vals (j + 1)) → Calls Try.prog 11 #[.pointer (some ⟨G, 0, none⟩)] W fun e w' => e = .returned (.int .i64 (listAt lws j : Int)) ∧ w' = W) := fun W hm => by
        have := mval_any G _ _ W hm (by rw [HT.out.1]; exact HT.out.2)
        rw [HT.out.1] at this
        exact this
      clear HM HR HB M6 k6 hr hA HT
      generalize listAt lws j = z at *
      go_wp2_with fail
      go_quiet ((go_at_call 11; exact Calls.quiet_of_same ((hV _).out (HM6.out.same ⟨_, rfl⟩))))
      go_wp2
      go_roundw
      case rel => exact ⟨j + 1, by omega, by go_num, HR6.out.of_same ⟨_, rfl⟩, HM6.out.same ⟨_, rfl⟩, HB6.out.trans (below_drews _)⟩
      case measure => simp [intOf]; omega
    · obtain rfl : j = 5 := by omega
      clear hj5 hj HR HM
      go_wp2_with fail
      refine (mean_new _).mono ?_
      rintro e w3 ⟨rfl, M3, d3, -⟩
      have b3 := HB.out.trans (d3.mono HB.out.size)
      have hs := HB.out.size
      clear HB d3
      go_wp2_with fail
      refine (madd_any _ 0 4294967295 4294967295 false _ M3 (by decide) (by decide) (by decide)).mono ?_
      rw [show Mn.any false 4294967295 4294967295 = true by decide, show Mn.val false 0 4294967295 4294967295 = 32768 by decide]
      rintro e w4 ⟨rfl, M4, k4, -⟩
      have HB4 : Hid (Below w.heap.size w w4) := b3.trans (k4.below hs b3.size)
      clear b3 k4 M3
      go_wp2_with fail
      refine (mval_any _ 32768 true _ M4 (by decide)).mono ?_
      rintro e w5 ⟨rfl, rfl⟩
      go_wp2
      go_ret
      exact ⟨rfl, HB4.out⟩

/-! ### THE ROW's STEP: WRITTEN OUT: LEAVE IT -/
set_option maxRecDepth 100000 in
theorem lifted (os : Os) (started : os.Started) (H : Type) (enc : TypeId × Value → H) :
    ReturnsInHanded {} Try.checked os 5 .any (Rows.meanFormsSpec.pre6 enc Try.prog Try.f5 Rows.meanFormsRow.domain false) (Rows.meanFormsSpec.post enc Try.prog Try.f5 false true false false) := by
  refine returnsInHanded_of_change (C := Try.checked) own started (by kernel_rfl) Try.func5
    (ChangeSpec.witness6 (enc := enc) (C := Try.checked) false ⟨#[], #[], []⟩ 8 (by kernel_rfl) (by kernel_rfl) (by kernel_rfl) (by kernel_rfl)) ?_
  intro W base args ds gs before hval0 hW hcnd _
  have hval : ∀ (j : Nat) t v, Try.f5.params[j]? = some t → args[j]? = some v → Value.okWide Try.prog W .any base t v := hval0
  have hW' := hW
  obtain ⟨p, q, hA0, hV, rfl, hfz, hnd⟩ := hW
  have hA : DataW.TrodAll enc Try.prog W 0 (fun _ => true) true Try.f5.params.toList args.toList ds p := hA0
  rw [Try.params5] at hA hval
  obtain ⟨rfl, rfl, rfl⟩ := trodAll_none hA
  obtain ⟨rfl, rfl⟩ := trodVars_none hV
  clear hA0 hval0
  simp only [List.append_nil] at hW'
  refine (walk  W).mono fun e W' ⟨he, hg⟩ => ?_
  subst he
  exact ⟨_, rfl, _, _, _, [], [], [], hW', (trodAll_cons_mk (shut_bool Try.underlying4 _) trodAll_mk0), rfl, rfl, hg.frame _, fun h => by cases h⟩

theorem over : Rows.meanFormsRow.holds Try.pinned (OpenSpec.ofChange Rows.meanFormsSpec) :=
  OpenClaim.holds_of_wide 5 Try.f5 rfl rfl rfl rfl rfl rfl rfl ⟨rfl, rfl, rfl, rfl, rfl⟩ rfl rfl rfl rfl rfl (by kernel_rfl) Try.func5 (by kernel_rfl)
    (of_decide_eq_true (by kernel_rfl)) (by unfold Func.isWrapper; first | (rw [if_pos (by decide +kernel)]; kernel_rfl) | (rw [if_neg (by decide +kernel)]; exact ⟨rfl, rfl⟩))
    (fun os started H enc _ => lifted os started H enc)

theorem proved : Rows.MeanFormsSaid :=
  over
end Go.Proofs.Ytmogplpljinloaa.meanForms
namespace Go.Proofs.Ytmogplpljinloaa
theorem meanForms_holds : Rows.MeanFormsSaid := meanForms.proved
#print axioms meanForms_holds
end Go.Proofs.Ytmogplpljinloaa

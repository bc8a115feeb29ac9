/-
  How unevenly five packets come is what the statement JitterForms lists: the call returns true (a closed statement; no condition).
-/
import Derived.Test.YtmgphmjfgoljcaaRows
import Derived.WalkKit
import Derived.ProofKit
import Derived.OpenShut
import Derived.ShutString
import Derived.Test.YtmgphmjfgoljcaaJi2
import Derived.Deep.RegionHeld
import Derived.Deep.RegionHeld3
import Derived.ChangeOld
import Derived.Below
namespace Go.Proofs.Ytmgphmjfgoljcaa.jitterForms
open Go.ChangeShapes Go.WideShapes Go.ChangeAt Go.RowKit
open Go.ChangeMaps (open_string shut_string)
set_option linter.unusedVariables false      -- a walk need not use every 'w<i>' (that an integer argument fits its kind)

theorem own : ownKnob Try.prog.godebug = none := by kernel_rfl

open Go.Deep

def lst : List Nat := [65530, 65535, 4, 9, 14]
def ltm : List Nat := [0, 5, 170, 175, 20]
def lwt : List Nat := [0, 0, 10, 9, 18]
/-- What stands behind the first j packets: whether one came, its way, the sum. -/
def tells : Nat → Bool
  | 0 => false
  | _ + 1 => true
def ways : Nat → Nat
  | 0 => 0
  | j + 1 => Ji.way (listAt ltm j) (listAt lst j)
def sums : Nat → Nat
  | 0 => 0
  | j + 1 => Ji.sum (tells j) (sums j) (Ji.far (ways j) (Ji.way (listAt ltm j) (listAt lst j)))
theorem table : ∀ j, j < 5 → sums (j + 1) / 16 = listAt lwt j ∧ sums j ≤ 524295 ∧ sums (j + 1) ≤ 524295 ∧ listAt lst j < 65536 := by decide
theorem two_ne (G : Nat) : G + 1 + 1 ≠ G := by omega

theorem row_nat (κ : IntKind) (w : World) (t : TypeId) (l : List Nat) : (w.alloc (.cells (l.map fun (z : Nat) => Value.int κ (z : Int)).toArray t)).rowIs w.heap.size t l.length (fun i => .int κ (listAt l i : Int)) := by
  have h := World.rowIs_alloc w (l.map fun (z : Nat) => Value.int κ (z : Int)).toArray t (fun i => .int κ (listAt l i : Int)) fun i hi => by
    simp at hi
    simp [listAt, List.getD, hi]
  simpa using h
/-- The three rows that the statement lists, behind block G. -/
def Rows3 (G : Nat) (w : World) : Prop := w.rowIs (G + 1) 28 5 (fun i => .int .u16 (listAt lst i : Int)) ∧ w.rowIs (G + 1 + 1) 2 5 (fun i => .int .i64 (listAt ltm i : Int)) ∧ w.rowIs (G + 1 + 1 + 1) 28 5 (fun i => .int .u16 (listAt lwt i : Int))
theorem Rows3.of_same {G : Nat} {w w' : World} (h : Rows3 G w) (q : Same w w') : Rows3 G w' := by
  obtain ⟨n, rfl⟩ := q
  exact ⟨h.1.of_block rfl, h.2.1.of_block rfl, h.2.2.of_block rfl⟩
theorem Rows3.kept {G : Nat} {w w' : World} (h : Rows3 G w) (q : Kept G w w') : Rows3 G w' :=
  ⟨h.1.of_block (q.block _ h.1.lt (by omega)), h.2.1.of_block (q.block _ h.2.1.lt (by omega)), h.2.2.of_block (q.block _ h.2.2.lt (by omega))⟩
theorem head (w0 : World) {G : Nat} (hG : w0.heap.size = G + 1) : ∃ w1, w1 = (((w0.alloc (.cells (lst.map fun (z : Nat) => Value.int .u16 (z : Int)).toArray 28)).alloc (.cells (ltm.map fun (z : Nat) => Value.int .i64 (z : Int)).toArray 2)).alloc (.cells (lwt.map fun (z : Nat) => Value.int .u16 (z : Int)).toArray 28)) ∧
    Rows3 G w1 ∧ Below w0.heap.size w0 w1 := by
  refine ⟨_, rfl, ⟨?_, ?_, ?_⟩, (((Below.refl _ w0).alloc (Nat.le_refl _) _).alloc (by simp) _).alloc (by simp; omega) _⟩
  · rw [← hG]
    exact ((row_nat .u16 w0 _ lst).alloc _).alloc _
  · have h := row_nat .i64 (w0.alloc (.cells (lst.map fun (z : Nat) => Value.int .u16 (z : Int)).toArray 28)) 2 ltm
    rw [show (w0.alloc (.cells (lst.map fun (z : Nat) => Value.int .u16 (z : Int)).toArray 28)).heap.size = G + 1 + 1 by simp [hG]] at h
    exact h.alloc _
  · have h := row_nat .u16 ((w0.alloc (.cells (lst.map fun (z : Nat) => Value.int .u16 (z : Int)).toArray 28)).alloc (.cells (ltm.map fun (z : Nat) => Value.int .i64 (z : Int)).toArray 2)) 28 lwt
    rw [show ((w0.alloc (.cells (lst.map fun (z : Nat) => Value.int .u16 (z : Int)).toArray 28)).alloc (.cells (ltm.map fun (z : Nat) => Value.int .i64 (z : Int)).toArray 2)).heap.size = G + 1 + 1 + 1 by simp [hG]] at h
    exact h

set_option maxRecDepth 100000 in
set_option maxHeartbeats 1000000 in
theorem walk (w : World) :
    Calls Try.prog 6 #[] w fun e w' => e = .returned (.bool true) ∧ Below w.heap.size w w' := by
  go_enter Try.func6, Try.ntmps6
  go_wp2_with fail
  refine (begun19 _).mono ?_
  rintro e w0 ⟨rfl, b0⟩
  go_wp2_with fail
  refine (jitter_new _).mono ?_
  rintro e w1 ⟨rfl, M1, d1, z1⟩
  have b1 := b0.trans (d1.mono b0.size)
  have h0 : w.heap.size ≤ w0.heap.size := b0.size
  clear b0 d1
  go_wp2_with fail
  obtain ⟨w2, e2, R, d2⟩ := head w1 z1
  simp only [lst, ltm, lwt, List.map] at e2
  have e2 : w2 = (((w1.alloc (.cells #[.int .u16 65530, .int .u16 65535, .int .u16 4, .int .u16 9, .int .u16 14] 28)).alloc (.cells #[.int .i64 0, .int .i64 5, .int .i64 170, .int .i64 175, .int .i64 20] 2)).alloc (.cells #[.int .u16 0, .int .u16 0, .int .u16 10, .int .u16 9, .int .u16 18] 28)) := e2
  rw [← e2]
  have M2 := M1.grew d2
  have b2 := b1.trans (d2.mono b1.size)
  clear e2 M1 b1 d2 z1
  generalize w0.heap.size = G at *
  have HM2 : Hid (JiAt w2 G false 0 0) := M2
  have HB2 : Hid (Below w.heap.size w w2) := b2
  have HR2 : Hid (Rows3 G w2) := R
  clear M2 b2 R
  go_loopw [5] (fun i wr => ∃ j : Nat, j ≤ 5 ∧ i = .int .i64 j ∧ Hid (Rows3 G wr) ∧ Hid (JiAt wr G (tells j) (ways j) (sums j)) ∧ Hid (Below w.heap.size w wr)) (fun i _ => 5 - (intOf i).toNat)
  case atStart => exact ⟨0, by decide, rfl, HR2, HM2, HB2⟩
  case round =>
    clear HR2 HM2 HB2
    obtain ⟨j, hj, rfl, HR, HM, HB⟩ := hrel
    by_cases hj5 : j < 5
    · obtain ⟨t1, t2, t3, t4⟩ := table j hj5
      have c1 := HR.out.1.cell hj5
      have c2 := HR.out.2.1.cell hj5
      have i1 : (j : Int) < 5 := by omega
      have hA : ∀ W, Hid (JiAt W G (tells j) (ways j) (sums j) → Calls Try.prog 9 #[.pointer (some ⟨G, 0, none⟩), .int .u16 (listAt lst j : Int), .int .i64 (listAt ltm j : Int)] W fun e w' => e = .returned (.tuple #[]) ∧ JiAt w' G (tells (j + 1)) (ways (j + 1)) (sums (j + 1)) ∧ Kept G W w') := fun W hm =>
        (jadd_any G _ _ _ _ _ W hm t2 t4).mono fun e w' h => ⟨h.1, h.2.1, h.2.2.1⟩
      have hV : ∀ W, Hid (JiAt W G (tells (j + 1)) (ways (j + 1)) (sums (j + 1)) → Calls Try.prog 11 #[.pointer (some ⟨G, 0, none⟩)] W fun e w' => e = .returned (.int .u16 (listAt lwt j : Int)) ∧ w' = W) := fun W hm => t1 ▸ jval_any G _ _ _ W hm t3
      clear t1 t2 t3 t4
      generalize listAt lst j = x at *
      generalize listAt ltm j = y at *
      go_wp2_with fail
      refine wp_region_held (S := fun W => W.cell? ⟨G + 1, j, none⟩ = some (.int .u16 (x : Int)) ∧ W.cell? ⟨G + 1 + 1, j, none⟩ = some (.int .i64 (y : Int))) (by kernel_rfl) ?_
      change wpAnyH _ _ _ _ _ _ _ _ wr.drew
      have hr : wr.drew.cell? ⟨G + 1, j, none⟩ = some (.int .u16 (x : Int)) ∧ wr.drew.cell? ⟨G + 1 + 1, j, none⟩ = some (.int .i64 (y : Int)) := ⟨c1, c2⟩
      have HM : Hid (JiAt wr.drew G (tells j) (ways j) (sums j)) := HM.out.same ⟨1, rfl⟩
      have HR : Hid (Rows3 G wr.drew) := HR.out.of_same ⟨1, rfl⟩
      have HB : Hid (Below w.heap.size w wr.drew) := HB.out.drew
      clear c1 c2
      generalize wr.drew = w5 at *
      refine wpAnyH_take (i := 0) (v := .pointer (some ⟨G, 0, none⟩)) rfl (by kernel_rfl) (by kernel_rfl) (by kernel_rfl) (fun _ _ _ h => h) (Yields.yieldsIf (Or.inl ⟨by kernel_rfl, fun _ => by kernel_rfl⟩)) hr ?_
      refine wpAnyH_take (i := 1) (v := .slice (some ⟨G + 1, 0, none⟩) 5 5) rfl (by kernel_rfl) (by kernel_rfl) (by kernel_rfl) (fun _ _ _ h => h) (Yields.yieldsIf (Or.inl ⟨by kernel_rfl, fun _ => by kernel_rfl⟩)) hr ?_
      refine wpAnyH_take (i := 2) (v := .int .i64 (j : Int)) rfl (by kernel_rfl) (by kernel_rfl) (by kernel_rfl) (fun _ _ _ h => h) (Yields.yieldsIf (Or.inl ⟨by kernel_rfl, fun _ => by kernel_rfl⟩)) hr ?_
      refine wpAnyH_take (i := 3) (v := .pointer (some ⟨G + 1, j, none⟩)) rfl (by kernel_rfl) (by kernel_rfl) (by kernel_rfl) (fun _ _ _ h => h) (Yields.yieldsIf (Or.inl ⟨by kernel_rfl, fun _ => by go_simp⟩)) hr ?_
      refine wpAnyH_take (i := 4) (v := .int .u16 (x : Int)) rfl (by kernel_rfl) (by kernel_rfl) (by kernel_rfl) (fun _ _ _ h => h) (Or.inl ⟨by kernel_rfl, fun W hW => by have g := hW.1; go_simp⟩) hr ?_
      refine wpAnyH_take (i := 5) (v := .slice (some ⟨G + 1 + 1, 0, none⟩) 5 5) rfl (by kernel_rfl) (by kernel_rfl) (by kernel_rfl) (fun _ _ _ h => h) (Yields.yieldsIf (Or.inl ⟨by kernel_rfl, fun _ => by kernel_rfl⟩)) hr ?_
      refine wpAnyH_take (i := 6) (v := .int .i64 (j : Int)) rfl (by kernel_rfl) (by kernel_rfl) (by kernel_rfl) (fun _ _ _ h => h) (Yields.yieldsIf (Or.inl ⟨by kernel_rfl, fun _ => by kernel_rfl⟩)) hr ?_
      refine wpAnyH_take (i := 7) (v := .pointer (some ⟨G + 1 + 1, j, none⟩)) rfl (by kernel_rfl) (by kernel_rfl) (by kernel_rfl) (fun _ _ _ h => h) (Yields.yieldsIf (Or.inl ⟨by kernel_rfl, fun _ => by go_simp⟩)) hr ?_
      refine wpAnyH_take (i := 8) (v := .int .i64 (y : Int)) rfl (by kernel_rfl) (by kernel_rfl) (by kernel_rfl) (fun _ _ _ h => h) (Or.inl ⟨by kernel_rfl, fun W hW => by have g := hW.2; go_simp⟩) hr ?_
      refine wpAnyH_ready (rs := [9]) (by kernel_rfl) (by simp) ?_
      refine AllReadyH.cons rfl (fun K2 hK2 => ?_) AllReadyH.nil
      go_simp
      refine ((hA w5).out HM.out).mono ?_
      rintro e w6 ⟨rfl, M6, k6⟩
      refine hK2.out _ _ ⟨k6.cell hr.1 (Nat.succ_ne_self G), k6.cell hr.2 (two_ne G)⟩ (fun hr => ?_)
      clear hK2 K2
      refine wpAnyH_done (by kernel_rfl) ?_ _
      have HM6 : Hid (JiAt w6 G (tells (j + 1)) (ways (j + 1)) (sums (j + 1))) := M6
      have HR6 : Hid (Rows3 G w6) := HR.out.kept k6
      have HB6 : Hid (Below w.heap.size w w6) := HB.out.trans (k6.below h0 HB.out.size)
      have c3 := HR6.out.2.2.cell hj5
      clear HM HR HB M6 k6 hr hA
      generalize listAt lwt j = z at *
      go_wp2_with fail
      go_quiet ((go_at_call 11; exact Calls.quiet_of_same ((hV _).out (HM6.out.same ⟨_, rfl⟩))))
      go_wp2
      go_roundw
      case rel => exact ⟨j + 1, by omega, by go_num, HR6.out.of_same ⟨_, rfl⟩, HM6.out.same ⟨_, rfl⟩, HB6.out.trans (below_drews _)⟩
      case measure => simp [intOf]; omega
    · obtain rfl : j = 5 := by omega
      go_wp2
      go_ret
      exact ⟨rfl, HB.out⟩

/-! ### THE ROW's STEP: WRITTEN OUT: LEAVE IT -/
set_option maxRecDepth 100000 in
theorem lifted (os : Os) (started : os.Started) (H : Type) (enc : TypeId × Value → H) :
    ReturnsInHanded {} Try.checked os 6 .any (Rows.jitterFormsSpec.pre6 enc Try.prog Try.f6 Rows.jitterFormsRow.domain false) (Rows.jitterFormsSpec.post enc Try.prog Try.f6 false true false false) := by
  refine returnsInHanded_of_change (C := Try.checked) own started (by kernel_rfl) Try.func6
    (ChangeSpec.witness6 (enc := enc) (C := Try.checked) false ⟨#[], #[], []⟩ 8 (by kernel_rfl) (by kernel_rfl) (by kernel_rfl) (by kernel_rfl)) ?_
  intro W base args ds gs before hval0 hW hcnd _
  have hval : ∀ (j : Nat) t v, Try.f6.params[j]? = some t → args[j]? = some v → Value.okWide Try.prog W .any base t v := hval0
  have hW' := hW
  obtain ⟨p, q, hA0, hV, rfl, hfz, hnd⟩ := hW
  have hA : DataW.TrodAll enc Try.prog W 0 (fun _ => true) true Try.f6.params.toList args.toList ds p := hA0
  rw [Try.params6] at hA hval
  obtain ⟨rfl, rfl, rfl⟩ := trodAll_none hA
  obtain ⟨rfl, rfl⟩ := trodVars_none hV
  clear hA0 hval0
  simp only [List.append_nil] at hW'
  refine (walk  W).mono fun e W' ⟨he, hg⟩ => ?_
  subst he
  exact ⟨_, rfl, _, _, _, [], [], [], hW', (trodAll_cons_mk (shut_bool Try.underlying4 _) trodAll_mk0), rfl, rfl, hg.frame _, fun h => by cases h⟩

theorem over : Rows.jitterFormsRow.holds Try.pinned (OpenSpec.ofChange Rows.jitterFormsSpec) :=
  OpenClaim.holds_of_wide 6 Try.f6 rfl rfl rfl rfl rfl rfl rfl ⟨rfl, rfl, rfl, rfl, rfl⟩ rfl rfl rfl rfl rfl (by kernel_rfl) Try.func6 (by kernel_rfl)
    (of_decide_eq_true (by kernel_rfl)) (by unfold Func.isWrapper; first | (rw [if_pos (by decide +kernel)]; kernel_rfl) | (rw [if_neg (by decide +kernel)]; exact ⟨rfl, rfl⟩))
    (fun os started H enc _ => lifted os started H enc)

theorem proved : Rows.JitterFormsSaid :=
  over
end Go.Proofs.Ytmgphmjfgoljcaa.jitterForms
namespace Go.Proofs.Ytmgphmjfgoljcaa
theorem jitterForms_holds : Rows.JitterFormsSaid := jitterForms.proved
#print axioms jitterForms_holds
end Go.Proofs.Ytmgphmjfgoljcaa

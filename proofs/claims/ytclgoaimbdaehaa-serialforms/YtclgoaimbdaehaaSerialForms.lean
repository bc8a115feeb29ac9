/-
  How far some numbers are apart, and which numbers some are, is what the statement SerialForms lists: the call returns true (a closed statement; no condition).
-/
import Derived.Test.YtclgoaimbdaehaaRows
import Derived.WalkKit
import Derived.ProofKit
import Derived.OpenShut
import Derived.ShutString
import Derived.Test.YtclgoaimbdaehaaSeb
import Derived.Deep.RegionHeld
import Derived.Deep.RegionHeld3
import Derived.ChangeOld
import Derived.Below
namespace Go.Proofs.Ytclgoaimbdaehaa.serialForms
open Go.ChangeShapes Go.WideShapes Go.ChangeAt Go.RowKit
open Go.ChangeMaps (open_string shut_string)
set_option linter.unusedVariables false      -- a walk need not use every 'w<i>' (that an integer argument fits its kind)

theorem own : ownKnob Try.prog.godebug = none := by kernel_rfl

open Go.Deep

def las : List Nat := [0, 0, 0, 0, 65535, 1, 40000]
def lbs : List Nat := [0, 1, 32767, 32768, 0, 0, 10000]
def lws : List Int := [0, 1, 32767, -32768, 1, -1, -30000]
def lls : List Nat := [5, 4, 65535, 6, 32773, 5, 40000]
def lts : List Nat := [65541, 65540, 65535, 65542, 98309, 65541, 105536]
/-- The greatest number behind the first j of them. -/
def tops : Nat → Nat
  | 0 => 0
  | j + 1 => Ser.top (tops j) (listAt lls j)
theorem table1 : ∀ j, j < 7 → Ser.dif (listAt las j) (listAt lbs j) = lws.getD j 0 := by decide
theorem table2 : ∀ j, j < 7 → Ser.far (tops j) (listAt lls j) = listAt lts j ∧ (tops j = 0 ∨ 65536 ≤ tops j) ∧ tops j ≤ 1000000000000 ∧ listAt lls j < 65536 := by decide

theorem row_of (κ : IntKind) (w : World) (t : TypeId) (l : List Int) : (w.alloc (.cells (l.map fun z => Value.int κ z).toArray t)).rowIs w.heap.size t l.length (fun i => .int κ (l.getD i 0)) := by
  have h := World.rowIs_alloc w (l.map fun z => Value.int κ z).toArray t (fun i => .int κ (l.getD i 0)) fun i hi => by
    simp at hi
    simp [List.getD, hi]
  simpa using h
theorem row_nat (κ : IntKind) (w : World) (t : TypeId) (l : List Nat) : (w.alloc (.cells (l.map fun (z : Nat) => Value.int κ (z : Int)).toArray t)).rowIs w.heap.size t l.length (fun i => .int κ (listAt l i : Int)) := by
  have h := World.rowIs_alloc w (l.map fun (z : Nat) => Value.int κ (z : Int)).toArray t (fun i => .int κ (listAt l i : Int)) fun i hi => by
    simp at hi
    simp [listAt, List.getD, hi]
  simpa using h
theorem head1 (w : World) (w0 : World) (b0 : Below w.heap.size w w0) : ∃ w1, w1 = (((w0.alloc (.cells (las.map fun (z : Nat) => Value.int .u16 (z : Int)).toArray 22)).alloc (.cells (lbs.map fun (z : Nat) => Value.int .u16 (z : Int)).toArray 22)).alloc (.cells (lws.map fun z => Value.int .i64 z).toArray 3)) ∧
    w1.rowIs w0.heap.size 22 7 (fun i => .int .u16 (listAt las i : Int)) ∧ w1.rowIs (w0.heap.size + 1) 22 7 (fun i => .int .u16 (listAt lbs i : Int)) ∧ w1.rowIs (w0.heap.size + 1 + 1) 3 7 (fun i => .int .i64 (lws.getD i 0)) ∧ Below w.heap.size w w1 := by
  refine ⟨_, rfl, ((row_nat .u16 w0 _ las).alloc _).alloc _, ?_, ?_, ((b0.alloc b0.size _).alloc (by have := b0.size; simp; omega) _).alloc (by have := b0.size; simp; omega) _⟩
  · have h := (row_nat .u16 (w0.alloc (.cells (las.map fun (z : Nat) => Value.int .u16 (z : Int)).toArray 22)) 22 lbs).alloc (.cells (lws.map fun z => Value.int .i64 z).toArray 3)
    rw [show (w0.alloc (.cells (las.map fun (z : Nat) => Value.int .u16 (z : Int)).toArray 22)).heap.size = w0.heap.size + 1 by simp] at h
    exact h
  · have h := row_of .i64 ((w0.alloc (.cells (las.map fun (z : Nat) => Value.int .u16 (z : Int)).toArray 22)).alloc (.cells (lbs.map fun (z : Nat) => Value.int .u16 (z : Int)).toArray 22)) 3 lws
    rw [show ((w0.alloc (.cells (las.map fun (z : Nat) => Value.int .u16 (z : Int)).toArray 22)).alloc (.cells (lbs.map fun (z : Nat) => Value.int .u16 (z : Int)).toArray 22)).heap.size = w0.heap.size + 1 + 1 by simp] at h
    exact h

theorem head2 (w0 : World) : ∃ w1, w1 = (w0.alloc (.cells (lls.map fun (z : Nat) => Value.int .u16 (z : Int)).toArray 22)).alloc (.cells (lts.map fun (z : Nat) => Value.int .u64 (z : Int)).toArray 28) ∧
    w1.rowIs w0.heap.size 22 7 (fun i => .int .u16 (listAt lls i : Int)) ∧ w1.rowIs (w0.heap.size + 1) 28 7 (fun i => .int .u64 (listAt lts i : Int)) ∧ Below w0.heap.size w0 w1 := by
  refine ⟨_, rfl, (row_nat .u16 w0 _ lls).alloc _, ?_, ((Below.refl _ w0).alloc (Nat.le_refl _) _).alloc (by simp) _⟩
  have h := row_nat .u64 (w0.alloc (.cells (lls.map fun (z : Nat) => Value.int .u16 (z : Int)).toArray 22)) 28 lts
  rw [show (w0.alloc (.cells (lls.map fun (z : Nat) => Value.int .u16 (z : Int)).toArray 22)).heap.size = w0.heap.size + 1 by simp] at h
  exact h

set_option maxRecDepth 100000 in
set_option maxHeartbeats 1000000 in
theorem walk (w : World) :
    Calls Try.prog 6 #[] w fun e w' => e = .returned (.bool true) ∧ Below w.heap.size w w' := by
  go_enter Try.func6, Try.ntmps6
  go_wp2_with fail
  refine (begun8 _).mono ?_
  rintro e w0 ⟨rfl, b0⟩
  go_wp2_with fail
  obtain ⟨w1, e1, R1, R2, R3, b1⟩ := head1 w w0 b0
  simp only [las, lbs, lws, List.map] at e1
  have e1 : w1 = ((w0.alloc (.cells #[.int .u16 0, .int .u16 0, .int .u16 0, .int .u16 0, .int .u16 65535, .int .u16 1, .int .u16 40000] 22)).alloc (.cells #[.int .u16 0, .int .u16 1, .int .u16 32767, .int .u16 32768, .int .u16 0, .int .u16 0, .int .u16 10000] 22)).alloc (.cells #[.int .i64 0, .int .i64 1, .int .i64 32767, .int .i64 (-32768), .int .i64 1, .int .i64 (-1), .int .i64 (-30000)] 3) := e1
  rw [← e1]
  clear e1 b0
  go_loopw [4] (fun i wr => ∃ j : Nat, j ≤ 7 ∧ i = .int .i64 j ∧ wr.rowIs w0.heap.size 22 7 (fun i => .int .u16 (listAt las i : Int)) ∧ wr.rowIs (w0.heap.size + 1) 22 7 (fun i => .int .u16 (listAt lbs i : Int)) ∧ wr.rowIs (w0.heap.size + 1 + 1) 3 7 (fun i => .int .i64 (lws.getD i 0)) ∧ Below w.heap.size w wr) (fun i _ => 7 - (intOf i).toNat)
  case atStart => exact ⟨0, by decide, rfl, R1, R2, R3, b1⟩
  case round =>
    clear R1 R2 R3 b1
    obtain ⟨j, hj, rfl, R1, R2, R3, b⟩ := hrel
    by_cases hjk : j < 7
    · have ht := table1 j hjk
      have c1 := R1.cell hjk
      have c2 := R2.cell hjk
      have c3 := R3.cell hjk
      have i1 : (j : Int) < 7 := by omega
      have HR1 : Hid (wr.rowIs w0.heap.size 22 7 (fun i => .int .u16 (listAt las i : Int))) := R1
      have HR2 : Hid (wr.rowIs (w0.heap.size + 1) 22 7 (fun i => .int .u16 (listAt lbs i : Int))) := R2
      have HR3 : Hid (wr.rowIs (w0.heap.size + 1 + 1) 3 7 (fun i => .int .i64 (lws.getD i 0))) := R3
      have HB : Hid (Below w.heap.size w wr) := b
      have hD : ∀ W, Hid (Calls Try.prog 14 #[.int .u16 (listAt las j : Int), .int .u16 (listAt lbs j : Int)] W fun e w' => e = .returned (.int .i64 (lws.getD j 0)) ∧ w' = W) := fun W => by
        have h := diff_any (listAt las j) (listAt lbs j) W
        rw [ht] at h
        exact h
      have hL : ∀ W, Hid (Calls Try.prog 12 #[.int .u16 (listAt las j : Int), .int .u16 (listAt lbs j : Int)] W fun e w' => e = .returned (.bool (decide (0 < lws.getD j 0))) ∧ w' = W) := fun W => by
        have h := less_any (listAt las j) (listAt lbs j) W
        rw [ht] at h
        exact h
      clear R1 R2 R3 b ht
      generalize listAt las j = x at *
      generalize listAt lbs j = y at *
      generalize lws.getD j 0 = v at *
      go_wp2_with fail
      go_quiet (first | (go_at_call 14; exact Calls.quiet_of_same (hD _).out) | (go_at_call 12; exact Calls.quiet_of_same (hL _).out))
      go_wp2
      go_roundw
      case rel => exact ⟨j + 1, by omega, by go_num, HR1.out.of_block rfl, HR2.out.of_block rfl, HR3.out.of_block rfl, HB.out.trans (below_drews _)⟩
      case measure => simp [intOf]; omega
    · obtain rfl : j = 7 := by omega
      clear R1 R2 R3 hjk hj
      go_wp2_with fail
      refine (ext_new _).mono ?_
      rintro e w2 ⟨rfl, E2, d2, z2⟩
      have b2 := b.trans (d2.mono b.size)
      have s2 := b.size
      clear d2 b
      go_wp2_with fail
      refine (top_any _ 0 _ E2).mono ?_
      rintro e w3 ⟨rfl, rfl⟩
      go_wp2_with fail
      obtain ⟨w4, e4, R4, R5, d4⟩ := head2 w3
      have E4 := E2.grew d4
      have b4 := b2.trans (d4.mono b2.size)
      simp only [lls, lts, List.map] at e4
      have e4 : w4 = (w3.alloc (.cells #[.int .u16 5, .int .u16 4, .int .u16 65535, .int .u16 6, .int .u16 32773, .int .u16 5, .int .u16 40000] 22)).alloc (.cells #[.int .u64 65541, .int .u64 65540, .int .u64 65535, .int .u64 65542, .int .u64 98309, .int .u64 65541, .int .u64 105536] 28) := e4
      rw [← e4]
      clear e4 d4 E2 b2
      have hg : wr.heap.size ≠ wr.heap.size + 1 := by omega
      have hg' : wr.heap.size ≠ wr.heap.size + 1 + 1 := by omega
      rw [z2] at R4 R5
      have h0 : w.heap.size ≤ wr.heap.size := s2
      clear z2 s2
      generalize wr.heap.size = G at *
      clear wr
      go_loopw [10] (fun i wr => ∃ j : Nat, j ≤ 7 ∧ i = .int .i64 j ∧ wr.rowIs (G + 1) 22 7 (fun i => .int .u16 (listAt lls i : Int)) ∧ wr.rowIs (G + 1 + 1) 28 7 (fun i => .int .u64 (listAt lts i : Int)) ∧ ExtAt wr G (tops j) ∧ Below w.heap.size w wr) (fun i _ => 7 - (intOf i).toNat)
      case atStart => exact ⟨0, by decide, rfl, R4, R5, E4, b4⟩
      case round =>
        clear R4 R5 E4 b4
        obtain ⟨j, hj, rfl, R1, R2, E, b⟩ := hrel
        by_cases hjk : j < 7
        · obtain ⟨t1, t2, t3, t4⟩ := table2 j hjk
          have i1 : (j : Int) < 7 := by omega
          have HR1 : Hid (wr.rowIs (G + 1) 22 7 (fun i => .int .u16 (listAt lls i : Int))) := R1
          have HR2 : Hid (wr.rowIs (G + 1 + 1) 28 7 (fun i => .int .u64 (listAt lts i : Int))) := R2
          have HB : Hid (Below w.heap.size w wr) := b
          have HE : Hid (ExtAt wr G (tops j)) := E
          have HT : Hid (Ser.far (tops j) (listAt lls j) = listAt lts j) := t1
          have HT2 : Hid (tops j = 0 ∨ 65536 ≤ tops j) := t2
          have HT3 : Hid (tops j ≤ 1000000000000) := t3
          clear R1 R2 b E t1 t2 t3
          go_wp2_with fail
          refine wp_region_held (S := fun W => W.cell? ⟨G + 1, j, none⟩ = some (.int .u16 (listAt lls j : Int)) ∧ W.cell? ⟨G + 1 + 1, j, none⟩ = some (.int .u64 (listAt lts j : Int))) (by kernel_rfl) ?_
          change wpAnyH _ _ _ _ _ _ _ _ wr.drew
          have hr : wr.drew.cell? ⟨G + 1, j, none⟩ = some (.int .u16 (listAt lls j : Int)) ∧ wr.drew.cell? ⟨G + 1 + 1, j, none⟩ = some (.int .u64 (listAt lts j : Int)) := ⟨HR1.out.cell hjk, HR2.out.cell hjk⟩
          have HR1 : Hid (wr.drew.rowIs (G + 1) 22 7 (fun i => .int .u16 (listAt lls i : Int))) := HR1
          have HR2 : Hid (wr.drew.rowIs (G + 1 + 1) 28 7 (fun i => .int .u64 (listAt lts i : Int))) := HR2
          have HB : Hid (Below w.heap.size w wr.drew) := HB.out.drew
          have HE : Hid (ExtAt wr.drew G (tops j)) := HE.out.same ⟨1, rfl⟩
          generalize wr.drew = w5 at *
          refine wpAnyH_take (i := 0) (v := .pointer (some ⟨G, 0, none⟩)) rfl (by kernel_rfl) (by kernel_rfl) (by kernel_rfl) (fun _ _ _ h => h) (Yields.yieldsIf (Or.inl ⟨by kernel_rfl, fun _ => by kernel_rfl⟩)) hr ?_
          refine wpAnyH_take (i := 1) (v := .slice (some ⟨G + 1, 0, none⟩) 7 7) rfl (by kernel_rfl) (by kernel_rfl) (by kernel_rfl) (fun _ _ _ h => h) (Yields.yieldsIf (Or.inl ⟨by kernel_rfl, fun _ => by kernel_rfl⟩)) hr ?_
          refine wpAnyH_take (i := 2) (v := .int .i64 (j : Int)) rfl (by kernel_rfl) (by kernel_rfl) (by kernel_rfl) (fun _ _ _ h => h) (Yields.yieldsIf (Or.inl ⟨by kernel_rfl, fun _ => by kernel_rfl⟩)) hr ?_
          refine wpAnyH_take (i := 3) (v := .pointer (some ⟨G + 1, j, none⟩)) rfl (by kernel_rfl) (by kernel_rfl) (by kernel_rfl) (fun _ _ _ h => h) (Yields.yieldsIf (Or.inl ⟨by kernel_rfl, fun _ => by go_simp⟩)) hr ?_
          refine wpAnyH_take (i := 4) (v := .int .u16 (listAt lls j : Int)) rfl (by kernel_rfl) (by kernel_rfl) (by kernel_rfl) (fun _ _ _ h => h) (Or.inl ⟨by kernel_rfl, fun W hW => by have g := hW.1; go_simp⟩) hr ?_
          refine wpAnyH_take (i := 6) (v := .slice (some ⟨G + 1 + 1, 0, none⟩) 7 7) rfl (by kernel_rfl) (by kernel_rfl) (by kernel_rfl) (fun _ _ _ h => h) (Yields.yieldsIf (Or.inl ⟨by kernel_rfl, fun _ => by kernel_rfl⟩)) hr ?_
          refine wpAnyH_take (i := 7) (v := .int .i64 (j : Int)) rfl (by kernel_rfl) (by kernel_rfl) (by kernel_rfl) (fun _ _ _ h => h) (Yields.yieldsIf (Or.inl ⟨by kernel_rfl, fun _ => by kernel_rfl⟩)) hr ?_
          refine wpAnyH_take (i := 8) (v := .pointer (some ⟨G + 1 + 1, j, none⟩)) rfl (by kernel_rfl) (by kernel_rfl) (by kernel_rfl) (fun _ _ _ h => h) (Yields.yieldsIf (Or.inl ⟨by kernel_rfl, fun _ => by go_simp⟩)) hr ?_
          refine wpAnyH_take (i := 9) (v := .int .u64 (listAt lts j : Int)) rfl (by kernel_rfl) (by kernel_rfl) (by kernel_rfl) (fun _ _ _ h => h) (Or.inl ⟨by kernel_rfl, fun W hW => by have g := hW.2; go_simp⟩) hr ?_
          refine wpAnyH_ready (rs := [5]) (by kernel_rfl) (by simp) ?_
          refine AllReadyH.cons rfl (fun K2 hK2 => ?_) AllReadyH.nil
          go_simp
          refine Calls.mono (extend_any G (tops j) (listAt lls j) w5 HE.out t4 HT2.out HT3.out) ?_
          rw [HT.out]
          rintro e w6 ⟨rfl, E6, k6, z6⟩
          refine hK2.out _ _ ⟨k6.cell hr.1 (Ne.symm hg), k6.cell hr.2 (Ne.symm hg')⟩ (fun hr => ?_)
          clear hK2 K2
          refine wpAnyH_take (i := 10) (v := .bool false) rfl (by kernel_rfl) (by kernel_rfl) (by kernel_rfl) (fun _ _ _ h => h) (Yields.yieldsIf (Or.inl ⟨by kernel_rfl, fun _ => by go_simp⟩)) hr ?_
          refine wpAnyH_done (by kernel_rfl) ?_ _
          have HR1 : Hid (w6.rowIs (G + 1) 22 7 (fun i => .int .u16 (listAt lls i : Int))) := HR1.out.of_block (k6.block _ HR1.out.lt (Ne.symm hg))
          have HR2 : Hid (w6.rowIs (G + 1 + 1) 28 7 (fun i => .int .u64 (listAt lts i : Int))) := HR2.out.of_block (k6.block _ HR2.out.lt (Ne.symm hg'))
          have HB : Hid (Below w.heap.size w w6) := HB.out.trans (k6.below h0 HB.out.size)
          have HE : Hid (ExtAt w6 G (tops (j + 1))) := E6
          clear E6 k6 z6 hr
          go_wp2
          go_roundw
          case rel => exact ⟨j + 1, by omega, by go_num, HR1.out, HR2.out, HE.out, HB.out⟩
          case measure => simp [intOf]; omega
        · obtain rfl : j = 7 := by omega
          have HB : Hid (Below w.heap.size w wr) := b
          rw [show tops 7 = 105536 by decide] at E
          clear R1 R2 hjk hj b
          go_wp2_with fail
          refine (top_any _ 105536 _ E).mono ?_
          rintro e w7 ⟨rfl, rfl⟩
          go_wp2
          go_ret
          exact ⟨rfl, HB.out⟩

/-! ### THE ROW's STEP: WRITTEN OUT: LEAVE IT -/
set_option maxRecDepth 100000 in
theorem lifted (os : Os) (started : os.Started) (H : Type) (enc : TypeId × Value → H) :
    ReturnsInHanded {} Try.checked os 6 .any (Rows.serialFormsSpec.pre6 enc Try.prog Try.f6 Rows.serialFormsRow.domain false) (Rows.serialFormsSpec.post enc Try.prog Try.f6 false true false false) := by
  refine returnsInHanded_of_change (C := Try.checked) own started (by kernel_rfl) Try.func6
    (ChangeSpec.witness6 (enc := enc) (C := Try.checked) false ⟨#[], #[], []⟩ 8 (by kernel_rfl) (by kernel_rfl) (by kernel_rfl) (by kernel_rfl)) ?_
  intro W base args ds gs before hval0 hW hcnd _
  have hval : ∀ (j : Nat) t v, Try.f6.params[j]? = some t → args[j]? = some v → Value.okWide Try.prog W .any base t v := hval0
  have hW' := hW
  obtain ⟨p, q, hA0, hV, rfl, hfz, hnd⟩ := hW
  have hA : DataW.TrodAll enc Try.prog W 0 (fun _ => true) true Try.f6.params.toList args.toList ds p := hA0
  rw [Try.params6] at hA hval
  obtain ⟨rfl, rfl, rfl⟩ := trodAll_none hA
  obtain ⟨rfl, rfl⟩ := trodVars_none hV
  clear hA0 hval0
  simp only [List.append_nil] at hW'
  refine (walk  W).mono fun e W' ⟨he, hg⟩ => ?_
  subst he
  exact ⟨_, rfl, _, _, _, [], [], [], hW', (trodAll_cons_mk (shut_bool Try.underlying4 _) trodAll_mk0), rfl, rfl, hg.frame _, fun h => by cases h⟩

theorem over : Rows.serialFormsRow.holds Try.pinned (OpenSpec.ofChange Rows.serialFormsSpec) :=
  OpenClaim.holds_of_wide 6 Try.f6 rfl rfl rfl rfl rfl rfl rfl ⟨rfl, rfl, rfl, rfl, rfl⟩ rfl rfl rfl rfl rfl (by kernel_rfl) Try.func6 (by kernel_rfl)
    (of_decide_eq_true (by kernel_rfl)) (by unfold Func.isWrapper; first | (rw [if_pos (by decide +kernel)]; kernel_rfl) | (rw [if_neg (by decide +kernel)]; exact ⟨rfl, rfl⟩))
    (fun os started H enc _ => lifted os started H enc)

theorem proved : Rows.SerialFormsSaid :=
  over
end Go.Proofs.Ytclgoaimbdaehaa.serialForms
namespace Go.Proofs.Ytclgoaimbdaehaa
theorem serialForms_holds : Rows.SerialFormsSaid := serialForms.proved
#print axioms serialForms_holds
end Go.Proofs.Ytclgoaimbdaehaa

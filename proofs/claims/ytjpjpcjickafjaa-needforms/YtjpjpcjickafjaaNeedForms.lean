/-
  How much more is sent, of thirteen, is what the statement NeedForms lists: the call returns true (a closed statement; no condition).
-/
import Derived.Test.YtjpjpcjickafjaaRows
import Derived.WalkKit
import Derived.ProofKit
import Derived.OpenShut
import Derived.ShutString
import Derived.Test.YtjpjpcjickafjaaNd2
import Derived.ChangeOld
import Derived.Below
namespace Go.Proofs.Ytjpjpcjickafjaa.needForms
open Go.ChangeShapes Go.WideShapes Go.ChangeAt Go.RowKit
open Go.ChangeMaps (open_string shut_string)
set_option linter.unusedVariables false      -- a walk need not use every 'w<i>' (that an integer argument fits its kind)

theorem own : ownKnob Try.prog.godebug = none := by kernel_rfl

open Go.Deep

def lks : List Int := [1, 1, 32, 32, 100, 10, 10, 10, 4, 4, 0, -1, 3]
def lls : List Int := [1, 65535, 65535, 6554, 6554, -5, 4611686018427387904, 16384, 32768, 32768, 100, 100, 21845]
def lbs : List Int := [0, 0, 0, 0, 0, 9, 0, 0, 1, -4611686018427387904, 9, 9, 4611686018427387904]
def lws : List Int := [1, 64, 64, 4, 4, 0, 64, 4, 5, 4, 0, 0, 64]
def intAt (l : List Int) (i : Nat) : Int := l.getD i 0
theorem table : ∀ j, j < 13 → Nd.count (intAt lks j) (intAt lls j) (intAt lbs j) = intAt lws j := by decide

theorem row_int (w : World) (t : TypeId) (l : List Int) : (w.alloc (.cells (l.map fun z => Value.int .i64 z).toArray t)).rowIs w.heap.size t l.length (fun i => .int .i64 (intAt l i)) := by
  have h := World.rowIs_alloc w (l.map fun z => Value.int .i64 z).toArray t (fun i => .int .i64 (intAt l i)) fun i hi => by
    simp at hi
    simp [intAt, List.getD, hi]
  simpa using h
/-- A row of ints that the call makes. -/
def mk (w : World) (l : List Int) : World := w.alloc (.cells (l.map fun z => Value.int .i64 z).toArray 3)
/-- The four rows that the statement lists, from block G on. -/
def Rows4 (G : Nat) (w : World) : Prop := w.rowIs G 3 13 (fun i => .int .i64 (intAt lks i)) ∧ w.rowIs (G + 1) 3 13 (fun i => .int .i64 (intAt lls i)) ∧ w.rowIs (G + 1 + 1) 3 13 (fun i => .int .i64 (intAt lbs i)) ∧ w.rowIs (G + 1 + 1 + 1) 3 13 (fun i => .int .i64 (intAt lws i))
theorem Rows4.of_same {G : Nat} {w w' : World} (h : Rows4 G w) (q : Same w w') : Rows4 G w' := by
  obtain ⟨n, rfl⟩ := q
  exact ⟨h.1.of_block rfl, h.2.1.of_block rfl, h.2.2.1.of_block rfl, h.2.2.2.of_block rfl⟩
theorem mk_size (w : World) (l : List Int) : (mk w l).heap.size = w.heap.size + 1 := by simp [mk]
theorem mk_below {G : Nat} {w w' : World} (h : Below G w w') (q : G ≤ w'.heap.size) (l : List Int) : Below G w (mk w' l) := h.alloc q _
theorem head (w0 : World) : ∃ w1, w1 = mk (mk (mk (mk w0 lks) lls) lbs) lws ∧ Rows4 w0.heap.size w1 ∧ Below w0.heap.size w0 w1 := by
  have s1 := mk_size w0 lks
  have s2 := mk_size (mk w0 lks) lls
  have s3 := mk_size (mk (mk w0 lks) lls) lbs
  refine ⟨_, rfl, ⟨?_, ?_, ?_, ?_⟩, mk_below (mk_below (mk_below (mk_below (Below.refl _ w0) (Nat.le_refl _) _) (by omega) _) (by omega) _) (by omega) _⟩
  · exact (((row_int w0 _ lks).alloc _).alloc _).alloc _
  · have h := row_int (mk w0 lks) 3 lls
    rw [s1] at h
    exact (h.alloc _).alloc _
  · have h := row_int (mk (mk w0 lks) lls) 3 lbs
    rw [s2, s1] at h
    exact h.alloc _
  · have h := row_int (mk (mk (mk w0 lks) lls) lbs) 3 lws
    rw [s3, s2, s1] at h
    exact h

set_option maxRecDepth 100000 in
set_option maxHeartbeats 1000000 in
theorem walk (w : World) :
    Calls Try.prog 5 #[] w fun e w' => e = .returned (.bool true) ∧ Below w.heap.size w w' := by
  go_enter Try.func5, Try.ntmps5
  go_wp2_with fail
  refine (begun20 _).mono ?_
  rintro e w0 ⟨rfl, rfl⟩
  go_wp2_with fail
  obtain ⟨w2, e2, R, d2⟩ := head w0
  simp only [mk, lks, lls, lbs, lws, List.map] at e2
  have e2 : w2 = ((((w0.alloc (.cells #[.int .i64 1, .int .i64 1, .int .i64 32, .int .i64 32, .int .i64 100, .int .i64 10, .int .i64 10, .int .i64 10, .int .i64 4, .int .i64 4, .int .i64 0, .int .i64 (-1), .int .i64 3] 3)).alloc (.cells #[.int .i64 1, .int .i64 65535, .int .i64 65535, .int .i64 6554, .int .i64 6554, .int .i64 (-5), .int .i64 4611686018427387904, .int .i64 16384, .int .i64 32768, .int .i64 32768, .int .i64 100, .int .i64 100, .int .i64 21845] 3)).alloc (.cells #[.int .i64 0, .int .i64 0, .int .i64 0, .int .i64 0, .int .i64 0, .int .i64 9, .int .i64 0, .int .i64 0, .int .i64 1, .int .i64 (-4611686018427387904), .int .i64 9, .int .i64 9, .int .i64 4611686018427387904] 3)).alloc (.cells #[.int .i64 1, .int .i64 64, .int .i64 64, .int .i64 4, .int .i64 4, .int .i64 0, .int .i64 64, .int .i64 4, .int .i64 5, .int .i64 4, .int .i64 0, .int .i64 0, .int .i64 64] 3)) := e2
  rw [← e2]
  have HR : Hid (Rows4 w0.heap.size w2) := R
  have HB : Hid (Below w0.heap.size w0 w2) := d2
  clear e2 R d2
  go_loopw [5] (fun i wr => ∃ j : Nat, j ≤ 13 ∧ i = .int .i64 j ∧ Hid (Rows4 w0.heap.size wr) ∧ Hid (Below w0.heap.size w0 wr)) (fun i _ => 13 - (intOf i).toNat)
  case atStart => exact ⟨0, by decide, rfl, HR, HB⟩
  case round =>
    clear HR HB
    obtain ⟨j, hj, rfl, HR, HB⟩ := hrel
    by_cases hj5 : j < 13
    · have t1 := table j hj5
      have c1 := HR.out.1.cell hj5
      have c2 := HR.out.2.1.cell hj5
      have c3 := HR.out.2.2.1.cell hj5
      have c4 := HR.out.2.2.2.cell hj5
      have i1 : (j : Int) < 13 := by omega
      generalize intAt lks j = x at *
      generalize intAt lls j = y at *
      generalize intAt lbs j = z at *
      generalize intAt lws j = v at *
      have hC : ∀ W, Hid (Calls Try.prog 7 #[.int .i64 x, .int .i64 y, .int .i64 z] W fun e w' => e = .returned (.int .i64 v) ∧ w' = W) := fun W => t1 ▸ need_any x y z W
      clear t1
      go_wp2_with fail
      go_quiet ((go_at_call 7; exact Calls.quiet_of_same ((hC _).out)))
      go_wp2
      go_roundw
      case rel => exact ⟨j + 1, by omega, by go_num, HR.out.of_same ⟨_, rfl⟩, HB.out.trans (below_drews _)⟩
      case measure => simp [intOf]; omega
    · obtain rfl : j = 13 := by omega
      go_wp2
      go_ret
      exact ⟨rfl, HB.out⟩

/-! ### THE ROW's STEP: WRITTEN OUT: LEAVE IT -/
set_option maxRecDepth 100000 in
theorem lifted (os : Os) (started : os.Started) (H : Type) (enc : TypeId × Value → H) :
    ReturnsInHanded {} Try.checked os 5 .any (Rows.needFormsSpec.pre6 enc Try.prog Try.f5 Rows.needFormsRow.domain false) (Rows.needFormsSpec.post enc Try.prog Try.f5 false true false false) := by
  refine returnsInHanded_of_change (C := Try.checked) own started (by kernel_rfl) Try.func5
    (ChangeSpec.witness6 (enc := enc) (C := Try.checked) false ⟨#[], #[], []⟩ 8 (by kernel_rfl) (by kernel_rfl) (by kernel_rfl) (by kernel_rfl)) ?_
  intro W base args ds gs before hval0 hW hcnd _
  have hval : ∀ (j : Nat) t v, Try.f5.params[j]? = some t → args[j]? = some v → Value.okWide Try.prog W .any base t v := hval0
  have hW' := hW
  obtain ⟨p, q, hA0, hV, rfl, hfz, hnd⟩ := hW
  have hA : DataW.TrodAll enc Try.prog W 0 (fun _ => true) true Try.f5.params.toList args.toList ds p := hA0
  rw [Try.params5] at hA hval
  obtain ⟨rfl, rfl, rfl⟩ := trodAll_none hA
  obtain ⟨rfl, rfl⟩ := trodVars_none hV
  clear hA0 hval0
  simp only [List.append_nil] at hW'
  refine (walk  W).mono fun e W' ⟨he, hg⟩ => ?_
  subst he
  exact ⟨_, rfl, _, _, _, [], [], [], hW', (trodAll_cons_mk (shut_bool Try.underlying4 _) trodAll_mk0), rfl, rfl, hg.frame _, fun h => by cases h⟩

theorem over : Rows.needFormsRow.holds Try.pinned (OpenSpec.ofChange Rows.needFormsSpec) :=
  OpenClaim.holds_of_wide 5 Try.f5 rfl rfl rfl rfl rfl rfl rfl ⟨rfl, rfl, rfl, rfl, rfl⟩ rfl rfl rfl rfl rfl (by kernel_rfl) Try.func5 (by kernel_rfl)
    (of_decide_eq_true (by kernel_rfl)) (by unfold Func.isWrapper; first | (rw [if_pos (by decide +kernel)]; kernel_rfl) | (rw [if_neg (by decide +kernel)]; exact ⟨rfl, rfl⟩))
    (fun os started H enc _ => lifted os started H enc)

theorem proved : Rows.NeedFormsSaid :=
  over
end Go.Proofs.Ytjpjpcjickafjaa.needForms
namespace Go.Proofs.Ytjpjpcjickafjaa
theorem needForms_holds : Rows.NeedFormsSaid := needForms.proved
#print axioms needForms_holds
end Go.Proofs.Ytjpjpcjickafjaa

/-
  A basin takes and refuses the symbols that the statement BasinForms lists, and tells the text: the call returns true (a closed statement; no condition).
-/
import Derived.Test.YtgbeklifcchmlaaRows
import Derived.WalkKit
import Derived.ProofKit
import Derived.OpenShut
import Derived.ShutString
import Derived.Test.YtgbeklifcchmlaaBbg
import Derived.ChangeOld
import Derived.Below
namespace Go.Proofs.Ytgbeklifcchmlaa.basinForms
open Go.ChangeShapes Go.WideShapes Go.ChangeAt Go.RowKit
open Go.ChangeMaps (open_string shut_string)
set_option linter.unusedVariables false      -- a walk need not use every 'w<i>' (that an integer argument fits its kind)

theorem own : ownKnob Try.prog.godebug = none := by kernel_rfl

open Go.Deep

def sizes : List Int := [0, 1, 33, 65, 5]
def symbols : List Int := [1, 0, 1, 2, 65]
theorem table : ∀ j, j < 5 → ¬ (1 ≤ symbols.getD j 0 ∧ symbols.getD j 0 ≤ 64 ∧ 1 ≤ sizes.getD j 0 ∧ sizes.getD j 0 ≤ 32 * symbols.getD j 0) := by decide
theorem row_lit (w : World) (t : TypeId) (l : List Int) : (w.alloc (.cells (l.map fun z => Value.int .i64 z).toArray t)).rowIs w.heap.size t l.length (fun i => .int .i64 (l.getD i 0)) := by
  have h := World.rowIs_alloc w (l.map fun z => Value.int .i64 z).toArray t (fun i => .int .i64 (l.getD i 0)) fun i hi => by
    simp at hi
    simp [List.getD, hi]
  simpa using h
theorem head (w0 : World) : ∃ w1, w1 = ((w0.alloc (.cells (sizes.map fun z => Value.int .i64 z).toArray 3)).alloc (.cells (symbols.map fun z => Value.int .i64 z).toArray 3)) ∧
    w1.rowIs w0.heap.size 3 5 (fun i => .int .i64 (sizes.getD i 0)) ∧ w1.rowIs (w0.heap.size + 1) 3 5 (fun i => .int .i64 (symbols.getD i 0)) ∧ Below w0.heap.size w0 w1 := by
  refine ⟨_, rfl, (row_lit w0 _ sizes).alloc _, ?_, ((Below.refl _ _).alloc (Nat.le_refl _) _).alloc (by simp) _⟩
  have h := row_lit (w0.alloc (.cells (sizes.map fun z => Value.int .i64 z).toArray 3)) 3 symbols
  rw [show (w0.alloc (.cells (sizes.map fun z => Value.int .i64 z).toArray 3)).heap.size = w0.heap.size + 1 by simp] at h
  exact h
theorem lit_dice (N B R f n s k m : Nat) (z : Int) (S : Nat → Option (Nat → Nat)) (A : Array Value) (fz : Nat × Nat) (w : World) (h : BasinAt w N B R f n s k S) (hno : ¬ (0 ≤ z ∧ z < (k : Int) + 64)) :
    Calls Try.prog 13 #[.pointer (some ⟨N, 0, none⟩), .int .i64 z, .slice (some ⟨w.heap.size, 0, none⟩) m m] (w.alloc (.cells A 5 fz)) fun e w' => BNot w e w' := by
  have hb : Below w.heap.size w (w.alloc (.cells A 5 fz)) := (Below.refl _ _).alloc (Nat.le_refl _) _
  refine (badd_dice N B R f n s k z S _ _ (h.grew hb) hno).mono ?_
  rintro e w' ⟨rfl, h3⟩
  exact ⟨rfl, hb.trans (h3.mono hb.size)⟩
theorem lit_len (N B R f n s k id m : Nat) (S : Nat → Option (Nat → Nat)) (A : Array Value) (fz : Nat × Nat) (w : World) (h : BasinAt w N B R f n s k S) (hf : f < 4294967296) (hi : id < k + 64) (hm : m ≠ s) :
    Calls Try.prog 13 #[.pointer (some ⟨N, 0, none⟩), .int .i64 (id : Int), .slice (some ⟨w.heap.size, 0, none⟩) m m] (w.alloc (.cells A 5 fz)) fun e w' => BNot w e w' := by
  have hb : Below w.heap.size w (w.alloc (.cells A 5 fz)) := (Below.refl _ _).alloc (Nat.le_refl _) _
  refine (badd_len N B R f n s k id m m S _ _ (h.grew hb) hf hi hm).mono ?_
  rintro e w' ⟨rfl, h3⟩
  exact ⟨rfl, hb.trans (h3.mono hb.size)⟩

set_option maxRecDepth 100000 in
set_option maxHeartbeats 1000000 in
theorem walk (w : World) :
    Calls Try.prog 6 #[] w fun e w' => e = .returned (.bool true) ∧ Below w.heap.size w w' := by
  have hcv := conv_const
  go_enter Try.func6, Try.ntmps6
  go_wp2_with fail
  refine (begun6 _).mono ?_
  rintro e w0 ⟨rfl, b0⟩
  go_wp2_with fail
  refine (new_any _).mono ?_
  rintro e wf ⟨rfl, bf, Ff, -⟩
  go_wp2_with fail
  obtain ⟨w1, e1, R1, R2, b1⟩ := head wf
  simp only [sizes, symbols, List.map] at e1
  rw [← e1]
  clear e1
  have F1 := Ff.below b1 Ff.lt
  have bw := (b0.trans (bf.mono b0.size)).trans (b1.mono (Nat.le_trans b0.size bf.size))
  clear b0 bf Ff b1
  generalize w0.heap.size = p at *
  generalize wf.heap.size = q at *
  go_loopw [4] (fun i wr => ∃ j : Nat, j ≤ 5 ∧ i = .int .i64 j ∧ wr.rowIs q 3 5 (fun i => .int .i64 (sizes.getD i 0)) ∧ wr.rowIs (q + 1) 3 5 (fun i => .int .i64 (symbols.getD i 0)) ∧ FieldAt wr p ∧ Below w.heap.size w wr) (fun i _ => 5 - (intOf i).toNat)
  case atStart => exact ⟨0, by decide, rfl, R1, R2, F1, bw⟩
  case round =>
    clear R1 R2 bw F1
    obtain ⟨j, hj, rfl, R1, R2, F1, b⟩ := hrel
    by_cases hjk : j < 5
    · have HT : Hid (¬ (1 ≤ symbols.getD j 0 ∧ symbols.getD j 0 ≤ 64 ∧ 1 ≤ sizes.getD j 0 ∧ sizes.getD j 0 ≤ 32 * symbols.getD j 0)) := table j hjk
      have c1 := R1.cell hjk
      have c2 := R2.cell hjk
      have i1 : (j : Int) < 5 := by omega
      generalize sizes.getD j 0 = n at *
      generalize symbols.getD j 0 = s at *
      have HR1 : Hid (wr.rowIs q 3 5 (fun i => .int .i64 (sizes.getD i 0))) := R1
      have HR2 : Hid (wr.rowIs (q + 1) 3 5 (fun i => .int .i64 (symbols.getD i 0))) := R2
      have HF : Hid (FieldAt wr p) := F1
      have HB : Hid (Below w.heap.size w wr) := b
      clear R1 R2 b F1
      go_wp2_with fail
      go_region_with (go_at_call 9; refine (basin_no _ 1 n s _ HT.out).mono ?_; rintro e w2 ⟨rfl, b2⟩)
      all_goals
        have b3 : Below wr.heap.size wr w2 := by (first | exact b2 | exact (below_drews 1).trans b2 | exact (below_drews 2).trans b2 | exact (below_drews 3).trans b2)
        have HB3 : Hid (Below wr.heap.size wr w2) := b3
        clear b2 b3
        go_wp2
        go_roundw
        case rel => exact ⟨j + 1, by omega, by go_num, HR1.out.of_block (HB3.out.block _ HR1.out.lt), HR2.out.of_block (HB3.out.block _ HR2.out.lt), HF.out.below HB3.out HF.out.lt, HB.out.trans (HB3.out.mono HB.out.size)⟩
        case measure => simp [intOf]; omega
    · obtain rfl : j = 5 := by omega
      have HB : Hid (Below w.heap.size w wr) := b
      have HF : Hid (FieldAt wr p) := F1
      clear R1 R2 b hjk hj F1
      go_wp2_with fail
      refine (basin_yes p 9 5 2 3 _ HF.out (by decide) (by decide) (by decide) (by decide) (by decide) (by decide) (by decide)).mono ?_
      rintro e w2 ⟨N, B, R, rfl, hR, N2, b2⟩
      have GR : Hid (w.heap.size ≤ R) := Nat.le_trans HB.out.size hR
      have K2 : Hid (Below w.heap.size w w2) := HB.out.trans (b2.mono HB.out.size)
      have N2 : Hid (BasinAt w2 N B R 9 5 2 3 (tab [none, none, none])) := N2.tab (by decide +kernel)
      clear b2 hR HF HB
      go_wp2_with fail
      refine (bmiss_yes N B R 9 5 2 3 _ w2 N2.out).mono ?_
      rintro e w3 ⟨rfl, q3⟩
      rw [show rankTo (tab [none, none, none]) 3 = 0 by decide +kernel]
      have K3 : Hid (Below w.heap.size w w3) := K2.out.trans (q3.below _)
      have N3 : Hid _ := N2.out.same q3
      clear q3 K2 N2
      go_wp2_with fail
      refine (bbytes_yes N B R 9 5 2 3 _ w3 N3.out).mono ?_
      rintro e w4 ⟨rfl, q4⟩
      have K4 : Hid (Below w.heap.size w w4) := K3.out.trans (q4.below _)
      have N4 : Hid _ := N3.out.same q4
      clear q4 K3 N3
      go_wp2_with fail
      refine (lit_dice N B R 9 5 2 3 2 (-1) _ _ _ w4 N4.out (by decide)).mono ?_
      rintro e w5 ⟨rfl, b5⟩
      have K5 : Hid (Below w.heap.size w w5) := K4.out.trans (b5.mono K4.out.size)
      have N5 : Hid _ := N4.out.grew b5
      clear b5 K4 N4
      go_wp2_with fail
      refine (lit_dice N B R 9 5 2 3 2 67 _ _ _ w5 N5.out (by decide)).mono ?_
      rintro e w6 ⟨rfl, b6⟩
      have K6 : Hid (Below w.heap.size w w6) := K5.out.trans (b6.mono K5.out.size)
      have N6 : Hid _ := N5.out.grew b6
      clear b6 K5 N5
      go_wp2_with fail
      refine (lit_len N B R 9 5 2 3 0 1 _ _ _ w6 N6.out (by decide) (by decide) (by decide)).mono ?_
      rintro e w7 ⟨rfl, b7⟩
      have K7 : Hid (Below w.heap.size w w7) := K6.out.trans (b7.mono K6.out.size)
      have N7 : Hid _ := N6.out.grew b7
      clear b7 K6 N6
      go_wp2_with fail
      refine (lit_len N B R 9 5 2 3 0 3 _ _ _ w7 N7.out (by decide) (by decide) (by decide)).mono ?_
      rintro e w8 ⟨rfl, b8⟩
      have K8 : Hid (Below w.heap.size w w8) := K7.out.trans (b8.mono K7.out.size)
      have N8 : Hid _ := N7.out.grew b8
      clear b8 K7 N7
      go_wp2_with fail
      refine (badd_len N B R 9 5 2 3 0 0 0 _ _ w8 N8.out (by decide) (by decide) (by decide)).mono ?_
      rintro e w9 ⟨rfl, b9⟩
      have K9 : Hid (Below w.heap.size w w9) := K8.out.trans (b9.mono K8.out.size)
      have N9 : Hid _ := N8.out.grew b9
      clear b9 K8 N8
      go_wp2_with fail
      refine (bmiss_yes N B R 9 5 2 3 _ w9 N9.out).mono ?_
      rintro e w10 ⟨rfl, q10⟩
      rw [show rankTo (tab [none, none, none]) 3 = 0 by decide +kernel]
      have K10 : Hid (Below w.heap.size w w10) := K9.out.trans (q10.below _)
      have N10 : Hid _ := N9.out.same q10
      clear q10 K9 N9
      go_wp2_with fail
      refine (badd_lit N B R 9 5 2 3 2 [none, none, none] true [none, none, some [0, 0, 1, 101, 0]] [101, 0] _ _ w10 N10.out rfl (by decide) rfl (by decide) (by decide) (by decide +kernel)).mono ?_
      rintro e w11 ⟨rfl, N11, k11⟩
      have K11 : Hid (Below w.heap.size w w11) := K10.out.trans (k11.below GR.out K10.out.size)
      have N11 : Hid _ := N11
      clear k11 K10 N10
      go_wp2_with fail
      refine (badd_lit N B R 9 5 2 3 1 [none, none, some [0, 0, 1, 101, 0]] true [none, some [0, 1, 0, 99, 100], some [0, 0, 1, 101, 0]] [99, 100] _ _ w11 N11.out rfl (by decide) rfl (by decide) (by decide) (by decide +kernel)).mono ?_
      rintro e w12 ⟨rfl, N12, k12⟩
      have K12 : Hid (Below w.heap.size w w12) := K11.out.trans (k12.below GR.out K11.out.size)
      have N12 : Hid _ := N12
      clear k12 K11 N11
      go_wp2_with fail
      refine (badd_lit N B R 9 5 2 3 1 [none, some [0, 1, 0, 99, 100], some [0, 0, 1, 101, 0]] false [none, some [0, 1, 0, 99, 100], some [0, 0, 1, 101, 0]] [122, 122] _ _ w12 N12.out rfl (by decide) rfl (by decide) (by decide) (by decide +kernel)).mono ?_
      rintro e w13 ⟨rfl, N13, k13⟩
      have K13 : Hid (Below w.heap.size w w13) := K12.out.trans (k13.below GR.out K12.out.size)
      have N13 : Hid _ := N13
      clear k13 K12 N12
      go_wp2_with fail
      refine (bpay_no N B R 9 5 2 3 _ w13 N13.out (by decide +kernel)).mono ?_
      rintro e w14 ⟨rfl, q14⟩
      have K14 : Hid (Below w.heap.size w w14) := K13.out.trans (q14.below _)
      have N14 : Hid _ := N13.out.same q14
      clear q14 K13 N13
      go_wp2_with fail
      refine (badd_lit N B R 9 5 2 3 0 [none, some [0, 1, 0, 99, 100], some [0, 0, 1, 101, 0]] true [some [1, 0, 0, 97, 98], some [0, 1, 0, 99, 100], some [0, 0, 1, 101, 0]] [97, 98] _ _ w14 N14.out rfl (by decide) rfl (by decide) (by decide) (by decide +kernel)).mono ?_
      rintro e w15 ⟨rfl, N15, k15⟩
      have K15 : Hid (Below w.heap.size w w15) := K14.out.trans (k15.below GR.out K14.out.size)
      have N15 : Hid _ := N15
      clear k15 K14 N14
      go_wp2_with fail
      refine (badd_lit N B R 9 5 2 3 66 [some [1, 0, 0, 97, 98], some [0, 1, 0, 99, 100], some [0, 0, 1, 101, 0]] false [some [1, 0, 0, 97, 98], some [0, 1, 0, 99, 100], some [0, 0, 1, 101, 0]] [97, 98] _ _ w15 N15.out rfl (by decide) rfl (by decide) (by decide) (by decide +kernel)).mono ?_
      rintro e w16 ⟨rfl, N16, k16⟩
      have K16 : Hid (Below w.heap.size w w16) := K15.out.trans (k16.below GR.out K15.out.size)
      have N16 : Hid _ := N16
      clear k16 K15 N15
      go_wp2_with fail
      refine (bpay_yes N B R 9 5 2 3 _ w16 N16.out (by decide +kernel) (by decide) (by decide) (by decide)).mono ?_
      rintro e w17 ⟨b, c, rfl, -, -, -, B17, b17⟩
      have K17 : Hid (Below w.heap.size w w17) := K16.out.trans (b17.mono K16.out.size)
      have N17 : Hid _ := N16.out.grew b17
      have e1 := conv_bytes _ 5 c _ _ B17
      rw [show strOf 5 (joined (solOf (tab [some [1, 0, 0, 97, 98], some [0, 1, 0, 99, 100], some [0, 0, 1, 101, 0]]) 3) 2) = ⟨#[97, 98, 99, 100, 101]⟩ by decide +kernel] at e1
      clear K16 N16 B17 b17 hcv
      go_wp2_with fail
      refine (bmiss_yes N B R 9 5 2 3 _ w17 N17.out).mono ?_
      rintro e w18 ⟨rfl, q18⟩
      rw [show rankTo (tab [some [1, 0, 0, 97, 98], some [0, 1, 0, 99, 100], some [0, 0, 1, 101, 0]]) 3 = 3 by decide +kernel]
      have K18 : Hid (Below w.heap.size w w18) := K17.out.trans (q18.below _)
      clear q18 K17 N17 e1
      go_wp2
      go_ret
      exact ⟨rfl, K18.out⟩

/-! ### THE ROW's STEP: WRITTEN OUT: LEAVE IT -/
set_option maxRecDepth 100000 in
theorem lifted (os : Os) (started : os.Started) (H : Type) (enc : TypeId × Value → H) :
    ReturnsInHanded {} Try.checked os 6 .any (Rows.basinFormsSpec.pre6 enc Try.prog Try.f6 Rows.basinFormsRow.domain false) (Rows.basinFormsSpec.post enc Try.prog Try.f6 false true false false) := by
  refine returnsInHanded_of_change (C := Try.checked) own started (by kernel_rfl) Try.func6
    (ChangeSpec.witness6 (enc := enc) (C := Try.checked) false ⟨#[], #[], []⟩ 8 (by kernel_rfl) (by kernel_rfl) (by kernel_rfl) (by kernel_rfl)) ?_
  intro W base args ds gs before hval0 hW hcnd _
  have hval : ∀ (j : Nat) t v, Try.f6.params[j]? = some t → args[j]? = some v → Value.okWide Try.prog W .any base t v := hval0
  have hW' := hW
  obtain ⟨p, q, hA0, hV, rfl, hfz, hnd⟩ := hW
  have hA : DataW.TrodAll enc Try.prog W 0 (fun _ => true) true Try.f6.params.toList args.toList ds p := hA0
  rw [Try.params6] at hA hval
  obtain ⟨rfl, rfl, rfl⟩ := trodAll_none hA
  obtain ⟨rfl, rfl⟩ := trodVars_none hV
  clear hA0 hval0
  simp only [List.append_nil] at hW'
  refine (walk  W).mono fun e W' ⟨he, hg⟩ => ?_
  subst he
  exact ⟨_, rfl, _, _, _, [], [], [], hW', (trodAll_cons_mk (shut_bool Try.underlying4 _) trodAll_mk0), rfl, rfl, hg.frame _, fun h => by cases h⟩

theorem over : Rows.basinFormsRow.holds Try.pinned (OpenSpec.ofChange Rows.basinFormsSpec) :=
  OpenClaim.holds_of_wide 6 Try.f6 rfl rfl rfl rfl rfl rfl rfl ⟨rfl, rfl, rfl, rfl, rfl⟩ rfl rfl rfl rfl rfl (by kernel_rfl) Try.func6 (by kernel_rfl)
    (of_decide_eq_true (by kernel_rfl)) (by unfold Func.isWrapper; first | (rw [if_pos (by decide +kernel)]; kernel_rfl) | (rw [if_neg (by decide +kernel)]; exact ⟨rfl, rfl⟩))
    (fun os started H enc _ => lifted os started H enc)

theorem proved : Rows.BasinFormsSaid :=
  over
end Go.Proofs.Ytgbeklifcchmlaa.basinForms
namespace Go.Proofs.Ytgbeklifcchmlaa
theorem basinForms_holds : Rows.BasinFormsSaid := basinForms.proved
#print axioms basinForms_holds
end Go.Proofs.Ytgbeklifcchmlaa

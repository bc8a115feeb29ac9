/-
  The same look again and again is the value: the call returns true, whatever the numbers are (no condition).
-/
import Derived.Test.YtmogplpljinloaaRows
import Derived.WalkKit
import Derived.ProofKit
import Derived.OpenShut
import Derived.ShutString
import Derived.Test.YtmogplpljinloaaMn2
import Derived.ChangeOld
import Derived.Below
namespace Go.Proofs.Ytmogplpljinloaa.meanSame
open Go.ChangeShapes Go.WideShapes Go.ChangeAt Go.RowKit
open Go.ChangeMaps (open_string shut_string)
set_option linter.unusedVariables false      -- a walk need not use every 'w<i>' (that an integer argument fits its kind)

theorem own : ownKnob Try.prog.godebug = none := by kernel_rfl

open Go.Deep

/-- The value v stands where every look is q. -/
def Stands (t : Bool) (v q : Nat) : Prop := t = false ∧ v = 0 ∨ t = true ∧ v = q
/-- What one more look of the same numbers comes to. -/
theorem again (l k v : Nat) (t : Bool) (h : t = false ∧ v = 0 ∨ t = true ∧ v = Mn.look l k) :
    Mn.val t v l k = Mn.look l k ∧ (Mn.any t l k = false ∧ Mn.look l k = 0 ∨ Mn.any t l k = true) := by
  by_cases h0 : l + k = 0
  · have hq : Mn.look l k = 0 := by unfold Mn.look; rw [h0, Nat.div_zero]
    rw [Mn.val_none h0, Mn.any_none h0, hq]
    rcases h with ⟨rfl, rfl⟩ | ⟨rfl, rfl⟩
    · exact ⟨rfl, Or.inl ⟨rfl, rfl⟩⟩
    · exact ⟨hq, Or.inr rfl⟩
  · have h1 : 0 < l + k := by omega
    rw [Mn.any_some h1]
    refine ⟨?_, Or.inr rfl⟩
    rcases h with ⟨rfl, rfl⟩ | ⟨rfl, rfl⟩
    · exact Mn.val_first h1 0
    · rw [Mn.val_next h1]
      omega

set_option maxRecDepth 100000 in
set_option maxHeartbeats 1000000 in
theorem core (l k T : Nat) (w : World) (hl : l < 4294967296) (hk : k < 4294967296) (hT : T < 256) :
    Calls Try.prog 6 #[.int .u32 (l : Int), .int .u32 (k : Int), .int .u8 (T : Int)] w fun e w' => e = .returned (.bool true) ∧ Below w.heap.size w w' := by
  obtain ⟨P, S, Q, hP, hS, hQ, hq, -, e1, e2, e3, e4, e5, e6, e7, e8, e9, e10⟩ := look_run hl hk
  have HA : Hid (∀ W G v t, MnAt W G t v → Stands t v Q → Calls Try.prog 9 #[.pointer (some ⟨G, 0, none⟩), .int .u32 (l : Int), .int .u32 (k : Int)] W fun e w' => e = .returned (.tuple #[]) ∧ (∃ t', MnAt w' G t' Q ∧ Hid (Stands t' Q Q)) ∧ Kept G W w') := fun W G v t hm hi => by
    rw [hQ] at hi
    obtain ⟨g1, g2⟩ := again l k v t hi
    have hv : v ≤ 65536 := by rcases hi with ⟨-, rfl⟩ | ⟨-, rfl⟩ <;> omega
    refine (madd_any G v l k t W hm hv hl hk).mono ?_
    rintro e w' ⟨rfl, M, K, -⟩
    rw [g1] at M
    rw [hQ]
    refine ⟨rfl, ⟨_, M, ?_⟩, K⟩
    rcases g2 with ⟨g2, g3⟩ | g2
    · exact Or.inl ⟨g2, g3⟩
    · exact Or.inr ⟨g2, rfl⟩
  have t1 : IntKind.i64.wrap (T : Int) = T := by simp [IntKind.wrap, IntKind.bits, IntKind.signed]; omega
  by_cases hl0 : l = 0
  · subst hl0
    obtain rfl : Q = 0 := by rw [hQ]; unfold Mn.look; rw [Nat.zero_mul, Nat.zero_div]
    clear hP hS hQ hl hk
    go_enter Try.func6, Try.ntmps6
    go_wp2_with fail
    refine (begun17 _).mono ?_
    rintro e w0 ⟨rfl, b0⟩
    go_wp2_with fail
    refine (mean_new _).mono ?_
    rintro e w1 ⟨rfl, M1, b1, z1⟩
    have HM1 : Hid (MnAt w1 w0.heap.size false 0) := M1
    have HB1 : Hid (Below w.heap.size w w1) := b0.trans (b1.mono b0.size)
    have h0 : w.heap.size ≤ w0.heap.size := b0.size
    clear M1 b0 b1 z1
    go_wp2_with fail
    generalize w0.heap.size = G at *
    go_loopw [9] (fun i wr => ∃ (j v : Nat) (t : Bool), j ≤ T + 1 ∧ i = .int .i64 j ∧ Hid (Stands t v 0) ∧ Hid (MnAt wr G t v) ∧ Hid (Below w.heap.size w wr)) (fun i _ => T + 1 - (intOf i).toNat)
    case atStart => exact ⟨0, 0, false, Nat.zero_le _, rfl, Or.inl ⟨rfl, rfl⟩, HM1, HB1⟩
    case round =>
      clear HM1 HB1
      obtain ⟨j, v, t, hj, rfl, hi, hm, hb⟩ := hrel
      by_cases hjT : j ≤ T
      · have i1 : (j : Int) ≤ (T : Int) := by omega
        go_wp2_with fail
        refine (HA.out _ G v t hm.out hi.out).mono ?_
        rintro e w2 ⟨rfl, ⟨t', M2, hi2⟩, K2⟩
        have HM2 : Hid (MnAt w2 G t' 0) := M2
        have HB2 : Hid (Below w.heap.size w w2) := hb.out.trans (K2.below h0 hb.out.size)
        clear hm hi hb M2 K2
        go_wp2_with fail
        refine (mval_any G 0 t' _ HM2.out hq).mono ?_
        rintro e w3 ⟨rfl, rfl⟩
        go_wp2
        go_roundw
        case rel => exact ⟨j + 1, 0, t', by omega, by go_num, hi2, HM2, HB2⟩
        case measure => simp [intOf]; omega
      · have i1 : decide ((j : Int) ≤ (T : Int)) = false := by simp; omega
        go_wp2
        go_ret
        exact ⟨rfl, hb.out⟩
  · have l1 : 0 < l := by omega
    have hS0 : ¬ S = 0 := by omega
    clear hP hS hQ hl hk hl0
    go_enter Try.func6, Try.ntmps6
    go_wp2_with fail
    refine (begun17 _).mono ?_
    rintro e w0 ⟨rfl, b0⟩
    go_wp2_with fail
    refine (mean_new _).mono ?_
    rintro e w1 ⟨rfl, M1, b1, z1⟩
    have HM1 : Hid (MnAt w1 w0.heap.size false 0) := M1
    have HB1 : Hid (Below w.heap.size w w1) := b0.trans (b1.mono b0.size)
    have h0 : w.heap.size ≤ w0.heap.size := b0.size
    clear M1 b0 b1 z1
    go_wp2_with fail
    generalize w0.heap.size = G at *
    go_loopw [9] (fun i wr => ∃ (j v : Nat) (t : Bool), j ≤ T + 1 ∧ i = .int .i64 j ∧ Hid (Stands t v Q) ∧ Hid (MnAt wr G t v) ∧ Hid (Below w.heap.size w wr)) (fun i _ => T + 1 - (intOf i).toNat)
    case atStart => exact ⟨0, 0, false, Nat.zero_le _, rfl, Or.inl ⟨rfl, rfl⟩, HM1, HB1⟩
    case round =>
      clear HM1 HB1
      obtain ⟨j, v, t, hj, rfl, hi, hm, hb⟩ := hrel
      by_cases hjT : j ≤ T
      · have i1 : (j : Int) ≤ (T : Int) := by omega
        go_wp2_with fail
        refine (HA.out _ G v t hm.out hi.out).mono ?_
        rintro e w2 ⟨rfl, ⟨t', M2, hi2⟩, K2⟩
        have HM2 : Hid (MnAt w2 G t' Q) := M2
        have HB2 : Hid (Below w.heap.size w w2) := hb.out.trans (K2.below h0 hb.out.size)
        clear hm hi hb M2 K2
        go_wp2_with fail
        refine (mval_any G Q t' _ HM2.out hq).mono ?_
        rintro e w3 ⟨rfl, rfl⟩
        go_wp2
        go_roundw
        case rel => exact ⟨j + 1, Q, t', by omega, by go_num, hi2, HM2, HB2⟩
        case measure => simp [intOf]; omega
      · have i1 : decide ((j : Int) ≤ (T : Int)) = false := by simp; omega
        go_wp2
        go_ret
        exact ⟨rfl, hb.out⟩
theorem walk (a0 : Int) (a1 : Int) (a2 : Int) (w0 : (Lit.int .u32 a0).wf = true) (w1 : (Lit.int .u32 a1).wf = true) (w2 : (Lit.int .u8 a2).wf = true) (w : World) :
    Calls Try.prog 6 #[.int .u32 a0, .int .u32 a1, .int .u8 a2] w fun e w' => e = .returned (.bool true) ∧ Below w.heap.size w w' := by
  have b0 := bounds_u32 w0
  have b1 := bounds_u32 w1
  have b2 := bounds_u8 w2
  obtain ⟨l, rfl⟩ : ∃ n : Nat, a0 = n := ⟨a0.toNat, by omega⟩
  obtain ⟨k, rfl⟩ : ∃ n : Nat, a1 = n := ⟨a1.toNat, by omega⟩
  obtain ⟨T, rfl⟩ : ∃ n : Nat, a2 = n := ⟨a2.toNat, by omega⟩
  exact core l k T w (by omega) (by omega) (by omega)

/-! ### THE ROW's STEP: WRITTEN OUT: LEAVE IT -/
set_option maxRecDepth 100000 in
theorem lifted (os : Os) (started : os.Started) (H : Type) (enc : TypeId × Value → H) :
    ReturnsInHanded {} Try.checked os 6 .any (Rows.meanSameSpec.pre6 enc Try.prog Try.f6 Rows.meanSameRow.domain false) (Rows.meanSameSpec.post enc Try.prog Try.f6 false true false false) := by
  refine returnsInHanded_of_change (C := Try.checked) own started (by kernel_rfl) Try.func6
    (ChangeSpec.witness6 (enc := enc) (C := Try.checked) false ⟨#[], #[.int .u32 0, .int .u32 0, .int .u8 0], []⟩ 8 (by kernel_rfl) (by kernel_rfl) (by kernel_rfl) (by kernel_rfl)) ?_
  intro W base args ds gs before hval0 hW hcnd _
  have hval : ∀ (j : Nat) t v, Try.f6.params[j]? = some t → args[j]? = some v → Value.okWide Try.prog W .any base t v := hval0
  have hW' := hW
  obtain ⟨p, q, hA0, hV, rfl, hfz, hnd⟩ := hW
  have hA : DataW.TrodAll enc Try.prog W 0 (fun _ => true) true Try.f6.params.toList args.toList ds p := hA0
  rw [Try.params6] at hA hval
  obtain ⟨v0, vs0, d0, ds0, p0, q0, hargs, rfl, rfl, h0, r0⟩ := trodAll_cons hA
  obtain ⟨v1, vs1, d1, ds1, p1, q1, rfl, rfl, rfl, h1, r1⟩ := trodAll_cons r0
  obtain ⟨v2, vs2, d2, ds2, p2, q2, rfl, rfl, rfl, h2, r2⟩ := trodAll_cons r1
  obtain ⟨rfl, rfl, rfl⟩ := trodAll_nil r2
  obtain rfl : args = #[v0, v1, v2] := by cases args; simp_all
  obtain ⟨rfl, rfl⟩ := trodVars_none hV
  obtain ⟨a0, rfl, rfl, rfl, w0⟩ := open_int Try.underlying30 (hval 0 30 v0 rfl rfl) h0
  obtain ⟨a1, rfl, rfl, rfl, w1⟩ := open_int Try.underlying30 (hval 1 30 v1 rfl rfl) h1
  obtain ⟨a2, rfl, rfl, rfl, w2⟩ := open_int Try.underlying5 (hval 2 5 v2 rfl rfl) h2
  clear hA0 hval0
  simp only [List.append_nil] at hW'
  refine (walk a0 a1 a2 w0 w1 w2 W).mono fun e W' ⟨he, hg⟩ => ?_
  subst he
  exact ⟨_, rfl, _, _, _, [], [], [], hW', (trodAll_cons_mk (shut_bool Try.underlying4 _) trodAll_mk0), (trodAll_cons_mk (shut_int Try.underlying30 w0) (trodAll_cons_mk (shut_int Try.underlying30 w1) (trodAll_cons_mk (shut_int Try.underlying5 w2) trodAll_mk0))), rfl, hg.frame _, fun h => by cases h⟩

theorem over : Rows.meanSameRow.holds Try.pinned (OpenSpec.ofChange Rows.meanSameSpec) :=
  OpenClaim.holds_of_wide 6 Try.f6 rfl rfl rfl rfl rfl rfl rfl ⟨rfl, rfl, rfl, rfl, rfl⟩ rfl rfl rfl rfl rfl (by kernel_rfl) Try.func6 (by kernel_rfl)
    (of_decide_eq_true (by kernel_rfl)) (by unfold Func.isWrapper; first | (rw [if_pos (by decide +kernel)]; kernel_rfl) | (rw [if_neg (by decide +kernel)]; exact ⟨rfl, rfl⟩))
    (fun os started H enc _ => lifted os started H enc)

theorem proved : Rows.MeanSameSaid :=
  over
end Go.Proofs.Ytmogplpljinloaa.meanSame
namespace Go.Proofs.Ytmogplpljinloaa
theorem meanSame_holds : Rows.MeanSameSaid := meanSame.proved
#print axioms meanSame_holds
end Go.Proofs.Ytmogplpljinloaa

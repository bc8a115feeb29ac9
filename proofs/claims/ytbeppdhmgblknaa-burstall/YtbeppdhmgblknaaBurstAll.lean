/-
  How long the rows are that are lost is as the document has it, and lies between what was looked at: the call returns true, whatever the looks are (at most 60 looks are looked at; no condition).
-/
import Derived.Test.YtbeppdhmgblknaaRows
import Derived.WalkKit
import Derived.ProofKit
import Derived.OpenShut
import Derived.ShutString
import Derived.ChangeOld
import Derived.Below
import Derived.Test.YtbeppdhmgblknaaBu1
import Derived.Test.YtbeppdhmgblknaaBu2
import Derived.Test.YtbeppdhmgblknaaNms
namespace Go.Proofs.Ytbeppdhmgblknaa.burstAll
open Go.ChangeShapes Go.WideShapes Go.ChangeAt Go.RowKit
open Go.ChangeMaps (open_string shut_string)
set_option linter.unusedVariables false

theorem own : ownKnob Try.prog.godebug = none := by kernel_rfl
theorem laidOut : laidOutB Try.prog = true := by kernel_rfl

/-- WHAT THE WALK IS TOLD OF A SLICE OF INTEGERS THAT CAME IN: it is nil; or it leads to a row of 'cap' cells, the numbers 'zs' (the first 'len' are its elements, the rest its spare room), each fitting its kind. -/
def IsRow (k : IntKind) (w : World) (a : Option Addr) (len cap : Nat) (zs : List Int) : Prop :=
  (a = none ∧ len = 0 ∧ cap = 0 ∧ zs = []) ∨
  ∃ x, a = some x ∧ len ≤ cap ∧ cap ≤ maxLen ∧ zs.length = cap ∧ (∀ i, i < zs.length → w.cell? (x.add i) = some (.int k (zs.getD i 0))) ∧ ∀ n ∈ zs, (Lit.int k n).wf = true

open Go.Deep

theorem max_two (ts : Array TypeId) (t : TypeId) (x y z : Nat) (w : World) (h : max x y = z) : (Builtin.max_ ts t #[.int .i64 (x : Int), .int .i64 (y : Int)]).run Try.prog w = .ok (.int .i64 (z : Int)) w := by
  subst h
  simp [Builtin.max_, Builtin.max2]
  split <;> omega
theorem min_two (ts : Array TypeId) (t : TypeId) (x y z : Nat) (w : World) (h : min x y = z) : (Builtin.min_ ts t #[.int .i64 (x : Int), .int .i64 (y : Int)]).run Try.prog w = .ok (.int .i64 (z : Int)) w := by
  subst h
  simp [Builtin.min_, Builtin.min2]
  split <;> omega
/-- The value v lies between lo and hi, if there was a look at all. -/
def Lies (t : Bool) (v lo hi : Nat) : Prop := t = true → lo ≤ v ∧ v ≤ hi
theorem lies_next {t : Bool} {v lo hi P n : Nat} (h : Lies t v lo hi) (hP : P = 16 * n) : Lies true (Bu.val t v n) (min lo P) (max hi P) := fun _ => by
  cases t
  · rw [Bu.val_first]
    omega
  · rw [Bu.val_next]
    obtain ⟨h1, h2⟩ := h rfl
    omega

set_option maxRecDepth 100000 in
set_option maxHeartbeats 400000 in
theorem long (a0 : Option Addr) (n ca : Nat) (w : World) (hn : 60 < n) :
    Calls Try.prog 3 #[.slice a0 n ca] w fun e w' => e = .returned (.bool true) ∧ Below w.heap.size w w' := by
  have i60 : (60 : Int) < (n : Int) := by omega
  go_enter Try.func3, Try.ntmps3
  go_wp2_with fail
  refine (begun18 _).mono ?_
  rintro e w0 ⟨rfl, b0⟩
  go_wp2
  go_ret
  exact ⟨rfl, b0⟩

set_option maxRecDepth 100000 in
set_option maxHeartbeats 1000000 in
theorem core (a0 : Option Addr) (n ca : Nat) (x : Nat → Nat) (w : World) (hx : NumsAt .u16 w a0 n (fun i => (x i : Int))) (hn : n ≤ 60) (hrx : ∀ i, x i < 65536) :
    Calls Try.prog 3 #[.slice a0 n ca] w fun e w' => e = .returned (.bool true) ∧ Below w.heap.size w w' := by
  have HX : Hid (NumsAt .u16 w a0 n (fun i => (x i : Int))) := hx
  have HR : Hid (∀ i, x i < 65536) := hrx
  have i60 : decide ((60 : Int) < (n : Int)) = false := by simp; omega
  clear hx hrx
  go_enter Try.func3, Try.ntmps3
  go_wp2_with fail
  refine (begun18 _).mono ?_
  rintro e w0 ⟨rfl, b0⟩
  go_wp2_with fail
  refine (burst_new _).mono ?_
  rintro e w1 ⟨rfl, M1, d1, z1⟩
  have b1 := b0.trans (d1.mono b0.size)
  have h0 := b0.size
  clear b0 d1
  have F2 := RBuAt.made w1 28
  have d2 : Below w1.heap.size w1 (w1.alloc (.cells #[.bool false, .int .i64 0] 28)) := (Below.refl _ w1).alloc (Nat.le_refl _) _
  have HM : Hid (BuAt (w1.alloc (.cells #[.bool false, .int .i64 0] 28)) w0.heap.size false 0) := M1.grew d2
  have HB : Hid (Below w.heap.size w (w1.alloc (.cells #[.bool false, .int .i64 0] 28))) := b1.trans (d2.mono b1.size)
  rw [z1] at F2
  have HF : Hid (RBuAt (w1.alloc (.cells #[.bool false, .int .i64 0] 28)) (w0.heap.size + 1) false 0) := F2
  clear M1 b1 d2 F2
  go_wp2_with fail
  clear z1
  generalize w1.alloc (.cells #[.bool false, .int .i64 0] 28) = w2 at *
  generalize w0.heap.size = G at *
  go_loopw [5, 6, 7] (fun s5 s6 s7 wr => ∃ (j v lo hi : Nat) (t : Bool), j ≤ n ∧ s5 = .int .i64 lo ∧ s6 = .int .i64 hi ∧ s7 = .int .i64 j ∧ v ≤ 1048560 ∧ Hid (Lies t v lo hi) ∧ Hid (BuAt wr G t v) ∧ Hid (RBuAt wr (G + 1) t v) ∧ Hid (Below w.heap.size w wr)) (fun _ _ i _ => n - (intOf i).toNat)
  case atStart =>
    have HL : Hid (Lies false 0 2097152 0) := fun h => absurd h (by decide)
    exact ⟨0, 0, 2097152, 0, false, Nat.zero_le _, rfl, rfl, rfl, by omega, HL, HM, HF, HB⟩
  case round =>
    clear HM HB HF
    obtain ⟨j, v, lo, hi, t, hj, rfl, rfl, rfl, hv, HL, HM, HF, HB⟩ := hrel
    by_cases hjn : j < n
    · have i1 : (j : Int) < (n : Int) := by omega
      obtain ⟨ba, oa, rfl, hca⟩ := HX.out (by omega)
      have la := cell_lt (hca j hjn)
      have c1 : wr.cell? ⟨ba, oa + j, none⟩ = some (.int .u16 (x j : Int)) := (HB.out.cell (p := ⟨ba, oa + j, none⟩) la).trans (hca j hjn)
      have HN : Hid (ba ≠ G ∧ ba ≠ G + 1) := ⟨by omega, by omega⟩
      obtain ⟨P, hP, e1, e2, e3, e4⟩ := look_run (HR.out j)
      have HXY : Hid (x j < 65536) := HR.out j
      clear hca la
      generalize x j = p at *
      have HP : Hid (P = 16 * p) := hP
      clear hP
      go_wp2_with fail
      refine (badd_any G v p t _ HM.out hv HXY.out).mono ?_
      rintro e w6 ⟨rfl, M6, k6, -⟩
      have HM6 : Hid (BuAt w6 G true (Bu.val t v p)) := M6
      have HF6 : Hid (RBuAt w6 (G + 1) t v) := HF.out.kept k6 (by omega)
      have HB6 : Hid (Below w.heap.size w w6) := HB.out.trans (k6.below h0 HB.out.size)
      have c2 := k6.cell c1 HN.out.1
      clear HM HF HB M6 k6 c1
      go_wp2_with fail
      refine (rbadd_any (G + 1) v p t _ HF6.out hv HXY.out).mono ?_
      rintro e w8 ⟨rfl, F8, k8, -⟩
      have HM8 : Hid (BuAt w8 G true (Bu.val t v p)) := HM6.out.kept k8 (by omega)
      have HF8 : Hid (RBuAt w8 (G + 1) true (Bu.val t v p)) := F8
      have HB8 : Hid (Below w.heap.size w w8) := HB6.out.trans (k8.below (by omega) HB6.out.size)
      have HU : Hid (Bu.val t v p ≤ 1048560) := Bu.val_le hv HXY.out t
      have HV : Hid (Lies true (Bu.val t v p) (min lo P) (max hi P)) := lies_next HL.out HP.out
      have c3 := k8.cell c2 HN.out.2
      clear HM6 HF6 HB6 F8 k8 hv HXY HN c2 HP HL
      generalize Bu.val t v p = u at *
      obtain ⟨lo', hlo⟩ : ∃ z, min lo P = z := ⟨_, rfl⟩
      obtain ⟨hi', hhi⟩ : ∃ z, max hi P = z := ⟨_, rfl⟩
      have r1 := fun ts ty W => min_two ts ty lo P lo' W hlo
      have r2 := fun ts ty W => max_two ts ty hi P hi' W hhi
      rw [hlo, hhi] at HV
      obtain ⟨v1, v2⟩ := HV.out rfl
      have v3 : decide ((u : Int) < (lo' : Int)) = false := by simp; omega
      have v4 : decide ((hi' : Int) < (u : Int)) = false := by simp; omega
      have v5 : decide (u < lo') = false := by simp; omega
      have v6 : decide (hi' < u) = false := by simp; omega
      clear hlo hhi v1 v2
      go_wp2_with fail
      go_quiet (fail)
      have HM9 : Hid (BuAt (w8.drewN nq) G true u) := HM8.out.same ⟨_, rfl⟩
      have HF9 : Hid (RBuAt (w8.drewN nq) (G + 1) true u) := HF8.out.same ⟨_, rfl⟩
      have HB9 : Hid (Below w.heap.size w (w8.drewN nq)) := HB8.out.trans (below_drews _)
      have c4 := HF9.out.cell
      clear HM8 HF8 HB8 c3
      generalize w8.drewN nq = w9 at *
      go_wp2_with fail
      go_quiet ((go_at_call 10; exact Calls.quiet_of_same (bval_any G u true _ (HM9.out.same ⟨_, rfl⟩))))
      go_wp2
      go_roundw
      case rel => exact ⟨j + 1, u, lo', hi', true, by omega, rfl, rfl, by go_num, HU.out, HV, HM9.out.same ⟨_, rfl⟩, HF9.out.same ⟨_, rfl⟩, HB9.out.trans (below_drews _)⟩
      case measure => simp [intOf]; omega
    · obtain rfl : j = n := by omega
      clear HM HF HL hv hj hjn
      go_wp2_with fail
      refine (badd_nil _ _).mono ?_
      rintro e w3 ⟨rfl, rfl⟩
      go_wp2_with fail
      refine (bval_nil _).mono ?_
      rintro e w4 ⟨rfl, rfl⟩
      go_wp2
      go_ret
      exact ⟨rfl, HB.out⟩
theorem walk (a0 : Option Addr) (len0 cap0 : Nat) (z0 : List Int) (w : World) (w0 : IsRow .u16 w a0 len0 cap0 z0) :
    Calls Try.prog 3 #[.slice a0 len0 cap0] w fun e w' => e = .returned (.bool true) ∧ Below w.heap.size w w' := by
  have r0 : CameAs .u16 w a0 len0 cap0 z0 := w0
  obtain ⟨h0, k0⟩ := r0.nums
  by_cases hn : len0 ≤ 60
  · have g0 : NumsAt .u16 w a0 len0 (fun i => ((z0[i]?.getD 0).toNat : Int)) := fun h => by
      obtain ⟨b', o', e, hc⟩ := h0 h
      exact ⟨b', o', e, fun i hi => by rw [hc i hi]; show _ = some (Value.int .u16 ((z0[i]?.getD 0).toNat : Int)); rw [Int.toNat_of_nonneg (range_u16 k0 i).1]⟩
    exact core a0 len0 cap0 _ w g0 hn (fun i => by have := range_u16 k0 i; omega)
  · exact long a0 len0 cap0 w (by omega)

/-! ### THE ROW's STEP: WRITTEN OUT: LEAVE IT -/
set_option maxRecDepth 100000 in
theorem lifted (os : Os) (started : os.Started) (H : Type) (enc : TypeId × Value → H) :
    ReturnsInHanded {} Try.checked os 3 .any (Rows.burstAllSpec.pre6 enc Try.prog Try.f3 Rows.burstAllRow.domain false) (Rows.burstAllSpec.post enc Try.prog Try.f3 false true false false) := by
  refine returnsInHanded_of_change (C := Try.checked) own started (by kernel_rfl) Try.func3
    (ChangeSpec.witness6 (enc := enc) (C := Try.checked) false ⟨#[], #[.slice none 0 0], []⟩ 8 (by kernel_rfl) (by kernel_rfl) (by kernel_rfl) (by kernel_rfl)) ?_
  intro W base args ds gs before hval0 hW hcnd _
  have hval : ∀ (j : Nat) t v, Try.f3.params[j]? = some t → args[j]? = some v → Value.okWide Try.prog W .any base t v := hval0
  have hW' := hW
  obtain ⟨p, q, hA0, hV, rfl, hfz, hnd⟩ := hW
  have hA : DataW.TrodAll enc Try.prog W 0 (fun _ => true) true Try.f3.params.toList args.toList ds p := hA0
  rw [Try.params3] at hA hval
  obtain ⟨v0, vs0, d0, ds0, p0, q0, hargs, rfl, rfl, h0, r0⟩ := trodAll_cons hA
  obtain ⟨rfl, rfl, rfl⟩ := trodAll_nil r0
  obtain rfl : args = #[v0] := by cases args; simp_all
  obtain ⟨rfl, rfl⟩ := trodVars_none hV
  obtain ⟨a0, len0, cap0, rfl⟩ := okWide_slice Try.underlying22 (hval 0 22 v0 rfl rfl)
  have k0 := h0
  have lt0 : ∀ x ∈ p0, x.block < W.heap.size := by obtain ⟨m, hm⟩ := k0; exact DataW.trod_lt m _ _ _ hm
  obtain ⟨z0, w0⟩ : ∃ zs, IsRow .u16 W a0 len0 cap0 zs := by
    obtain ⟨fuel, hf⟩ := h0
    rcases open_ints Try.underlying22 Try.underlying30 (by kernel_rfl) hf with ⟨hcs, _⟩ | ⟨x, l, c, zs, hcs, _, hl, hm, hz, _, hcell, hwz⟩
    · simp [Value.cells] at hcs
      obtain ⟨rfl, rfl, rfl⟩ := hcs
      exact ⟨[], .inl ⟨rfl, rfl, rfl, rfl⟩⟩
    · simp [Value.cells] at hcs
      obtain ⟨rfl, rfl, rfl⟩ := hcs
      exact ⟨zs, .inr ⟨_, rfl, hl, hm, by simpa using hz, hcell, hwz⟩⟩
  clear hA0 hval0
  refine (walk a0 len0 cap0 z0 W w0).mono fun e W' ⟨he, bel⟩ => ?_
  subst he
  exact ⟨_, rfl, _, _, _, [], _, [], hW', trodAll_mk1 (shut_bool Try.underlying4 _), (trodAll_cons_mk (Below.trod laidOut (by kernel_rfl) (of_decide_eq_true (by kernel_rfl)) k0 bel lt0) trodAll_mk0), rfl, bel.frame _, fun h => by cases h⟩

theorem over : Rows.burstAllRow.holds Try.pinned (OpenSpec.ofChange Rows.burstAllSpec) :=
  OpenClaim.holds_of_wide 3 Try.f3 rfl rfl rfl rfl rfl rfl rfl ⟨rfl, rfl, rfl, rfl, rfl⟩ rfl rfl rfl rfl rfl (by kernel_rfl) Try.func3 (by kernel_rfl)
    (of_decide_eq_true (by kernel_rfl)) (by unfold Func.isWrapper; first | (rw [if_pos (by decide +kernel)]; kernel_rfl) | (rw [if_neg (by decide +kernel)]; exact ⟨rfl, rfl⟩))
    (fun os started H enc _ => lifted os started H enc)

theorem proved : Rows.BurstAllSaid := over
end Go.Proofs.Ytbeppdhmgblknaa.burstAll
namespace Go.Proofs.Ytbeppdhmgblknaa
theorem burstAll_holds : Rows.BurstAllSaid := burstAll.proved
#print axioms burstAll_holds
end Go.Proofs.Ytbeppdhmgblknaa

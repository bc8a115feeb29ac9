/-
  How unevenly packets come is as the document has it: the call returns true, whatever the stamps and times are (at most 60 packets are looked at, and there is a time for each; no condition).
-/
import Derived.Test.YtmgphmjfgoljcaaRows
import Derived.WalkKit
import Derived.ProofKit
import Derived.OpenShut
import Derived.ShutString
import Derived.ChangeOld
import Derived.Below
import Derived.Test.YtmgphmjfgoljcaaJi1
import Derived.Test.YtmgphmjfgoljcaaJi2
import Derived.Test.YtmgphmjfgoljcaaNms
import Derived.Deep.RegionHeld
import Derived.Deep.RegionHeld3
namespace Go.Proofs.Ytmgphmjfgoljcaa.jitterAll
open Go.ChangeShapes Go.WideShapes Go.ChangeAt Go.RowKit
open Go.ChangeMaps (open_string shut_string)
set_option linter.unusedVariables false

theorem own : ownKnob Try.prog.godebug = none := by kernel_rfl
theorem laidOut : laidOutB Try.prog = true := by kernel_rfl

/-- WHAT THE WALK IS TOLD OF A SLICE OF INTEGERS THAT CAME IN: it is nil; or it leads to a row of 'cap' cells, the numbers 'zs' (the first 'len' are its elements, the rest its spare room), each fitting its kind. -/
def IsRow (k : IntKind) (w : World) (a : Option Addr) (len cap : Nat) (zs : List Int) : Prop :=
  (a = none ∧ len = 0 ∧ cap = 0 ∧ zs = []) ∨
  ∃ x, a = some x ∧ len ≤ cap ∧ cap ≤ maxLen ∧ zs.length = cap ∧ (∀ i, i < zs.length → w.cell? (x.add i) = some (.int k (zs.getD i 0))) ∧ ∀ n ∈ zs, (Lit.int k n).wf = true

open Go.Deep

set_option maxRecDepth 100000 in
set_option maxHeartbeats 400000 in
theorem long (a0 a1 : Option Addr) (n m ca cb : Nat) (w : World) (hn : 60 < n ∨ m < n) :
    Calls Try.prog 3 #[.slice a0 n ca, .slice a1 m cb] w fun e w' => e = .returned (.bool true) ∧ Below w.heap.size w w' := by
  by_cases h60 : 60 < n
  · have i60 : (60 : Int) < (n : Int) := by omega
    go_enter Try.func3, Try.ntmps3
    go_wp2_with fail
    refine (begun19 _).mono ?_
    rintro e w0 ⟨rfl, b0⟩
    go_wp2
    go_ret
    exact ⟨rfl, b0⟩
  · have i60 : decide ((60 : Int) < (n : Int)) = false := by simp; omega
    have imn : (m : Int) < (n : Int) := by omega
    go_enter Try.func3, Try.ntmps3
    go_wp2_with fail
    refine (begun19 _).mono ?_
    rintro e w0 ⟨rfl, b0⟩
    go_wp2
    go_ret
    exact ⟨rfl, b0⟩

set_option maxRecDepth 100000 in
set_option maxHeartbeats 1000000 in
theorem core (a0 a1 : Option Addr) (n m ca cb : Nat) (x : Nat → Nat) (y : Nat → Int) (w : World) (hx : NumsAt .u16 w a0 n (fun i => (x i : Int))) (hy : NumsAt .i64 w a1 m y) (hn : n ≤ 60) (hm : n ≤ m) (hrx : ∀ i, x i < 65536) :
    Calls Try.prog 3 #[.slice a0 n ca, .slice a1 m cb] w fun e w' => e = .returned (.bool true) ∧ Below w.heap.size w w' := by
  have HX : Hid (NumsAt .u16 w a0 n (fun i => (x i : Int))) := hx
  have HY : Hid (NumsAt .i64 w a1 m y) := hy
  have HRX : Hid (∀ i, x i < 65536) := hrx
  have i60 : decide ((60 : Int) < (n : Int)) = false := by simp; omega
  have imn : decide ((m : Int) < (n : Int)) = false := by simp; omega
  clear hx hy hrx
  go_enter Try.func3, Try.ntmps3
  go_wp2_with fail
  refine (begun19 _).mono ?_
  rintro e w0 ⟨rfl, b0⟩
  go_wp2_with fail
  refine (jitter_new _).mono ?_
  rintro e w1 ⟨rfl, M1, d1, z1⟩
  have b1 := b0.trans (d1.mono b0.size)
  have h0 := b0.size
  clear b0 d1
  have F2 := RJiAt.made w1 30
  have d2 : Below w1.heap.size w1 (w1.alloc (.cells #[.bool false, .int .u16 0, .int .i64 0] 30)) := (Below.refl _ w1).alloc (Nat.le_refl _) _
  have HM : Hid (JiAt (w1.alloc (.cells #[.bool false, .int .u16 0, .int .i64 0] 30)) w0.heap.size false 0 0) := M1.grew d2
  have HB : Hid (Below w.heap.size w (w1.alloc (.cells #[.bool false, .int .u16 0, .int .i64 0] 30))) := b1.trans (d2.mono b1.size)
  rw [z1] at F2
  have HF : Hid (RJiAt (w1.alloc (.cells #[.bool false, .int .u16 0, .int .i64 0] 30)) (w0.heap.size + 1) false 0 0) := F2
  clear M1 b1 d2 F2
  go_wp2_with fail
  clear z1
  generalize w1.alloc (.cells #[.bool false, .int .u16 0, .int .i64 0] 30) = w2 at *
  generalize w0.heap.size = G at *
  go_loopw [7] (fun i wr => ∃ (j v q : Nat) (t : Bool), j ≤ n ∧ i = .int .i64 j ∧ Hid (v ≤ 524295) ∧ Hid (q < 65536) ∧ Hid (JiAt wr G t q v) ∧ Hid (RJiAt wr (G + 1) t q v) ∧ Hid (Below w.heap.size w wr)) (fun i _ => n - (intOf i).toNat)
  case atStart =>
    have h1 : Hid (0 ≤ 524295) := by show 0 ≤ 524295; omega
    have h2 : Hid (0 < 65536) := by show 0 < 65536; omega
    exact ⟨0, 0, 0, false, Nat.zero_le _, rfl, h1, h2, HM, HF, HB⟩
  case round =>
    clear HM HB HF
    obtain ⟨j, v, q, t, hj, rfl, hv, hq, HM, HF, HB⟩ := hrel
    by_cases hjn : j < n
    · have i1 : (j : Int) < (n : Int) := by omega
      have i2 : (j : Int) < (m : Int) := by omega
      obtain ⟨ba, oa, rfl, hca⟩ := HX.out (by omega)
      obtain ⟨bb, ob, rfl, hcb⟩ := HY.out (by omega)
      have la := cell_lt (hca j hjn)
      have lb := cell_lt (hcb j (by omega))
      have c1 : wr.cell? ⟨ba, oa + j, none⟩ = some (.int .u16 (x j : Int)) := (HB.out.cell (p := ⟨ba, oa + j, none⟩) la).trans (hca j hjn)
      have c2 : wr.cell? ⟨bb, ob + j, none⟩ = some (.int .i64 (y j)) := (HB.out.cell (p := ⟨bb, ob + j, none⟩) lb).trans (hcb j (by omega))
      have HN : Hid (ba ≠ G ∧ ba ≠ G + 1 ∧ bb ≠ G ∧ bb ≠ G + 1) := ⟨by omega, by omega, by omega, by omega⟩
      have HP : Hid (x j < 65536) := HRX.out j
      clear hca hcb la lb
      generalize x j = p at *
      generalize y j = z at *
      go_wp2_with fail
      refine wp_region_held (S := fun W => W.cell? ⟨ba, oa + j, none⟩ = some (.int .u16 (p : Int)) ∧ W.cell? ⟨bb, ob + j, none⟩ = some (.int .i64 z)) (by kernel_rfl) ?_
      change wpAnyH _ _ _ _ _ _ _ _ wr.drew
      have hr : wr.drew.cell? ⟨ba, oa + j, none⟩ = some (.int .u16 (p : Int)) ∧ wr.drew.cell? ⟨bb, ob + j, none⟩ = some (.int .i64 z) := ⟨c1, c2⟩
      have HM : Hid (JiAt wr.drew G t q v) := HM.out.same ⟨1, rfl⟩
      have HF : Hid (RJiAt wr.drew (G + 1) t q v) := HF.out.same ⟨1, rfl⟩
      have HB : Hid (Below w.heap.size w wr.drew) := HB.out.drew
      clear c1 c2
      generalize wr.drew = w5 at *
      refine wpAnyH_take (i := 0) (v := .pointer (some ⟨G, 0, none⟩)) rfl (by kernel_rfl) (by kernel_rfl) (by kernel_rfl) (fun _ _ _ h => h) (Yields.yieldsIf (Or.inl ⟨by kernel_rfl, fun _ => by kernel_rfl⟩)) hr ?_
      refine wpAnyH_take (i := 1) (v := .slice (some ⟨ba, oa, none⟩) n ca) rfl (by kernel_rfl) (by kernel_rfl) (by kernel_rfl) (fun _ _ _ h => h) (Yields.yieldsIf (Or.inl ⟨by kernel_rfl, fun _ => by kernel_rfl⟩)) hr ?_
      refine wpAnyH_take (i := 2) (v := .int .i64 (j : Int)) rfl (by kernel_rfl) (by kernel_rfl) (by kernel_rfl) (fun _ _ _ h => h) (Yields.yieldsIf (Or.inl ⟨by kernel_rfl, fun _ => by kernel_rfl⟩)) hr ?_
      refine wpAnyH_take (i := 3) (v := .pointer (some ⟨ba, oa + j, none⟩)) rfl (by kernel_rfl) (by kernel_rfl) (by kernel_rfl) (fun _ _ _ h => h) (Yields.yieldsIf (Or.inl ⟨by kernel_rfl, fun _ => by go_simp⟩)) hr ?_
      refine wpAnyH_take (i := 4) (v := .int .u16 (p : Int)) rfl (by kernel_rfl) (by kernel_rfl) (by kernel_rfl) (fun _ _ _ h => h) (Or.inl ⟨by kernel_rfl, fun W hW => by have g := hW.1; go_simp⟩) hr ?_
      refine wpAnyH_take (i := 5) (v := .slice (some ⟨bb, ob, none⟩) m cb) rfl (by kernel_rfl) (by kernel_rfl) (by kernel_rfl) (fun _ _ _ h => h) (Yields.yieldsIf (Or.inl ⟨by kernel_rfl, fun _ => by kernel_rfl⟩)) hr ?_
      refine wpAnyH_take (i := 6) (v := .int .i64 (j : Int)) rfl (by kernel_rfl) (by kernel_rfl) (by kernel_rfl) (fun _ _ _ h => h) (Yields.yieldsIf (Or.inl ⟨by kernel_rfl, fun _ => by kernel_rfl⟩)) hr ?_
      refine wpAnyH_take (i := 7) (v := .pointer (some ⟨bb, ob + j, none⟩)) rfl (by kernel_rfl) (by kernel_rfl) (by kernel_rfl) (fun _ _ _ h => h) (Yields.yieldsIf (Or.inl ⟨by kernel_rfl, fun _ => by go_simp⟩)) hr ?_
      refine wpAnyH_take (i := 8) (v := .int .i64 z) rfl (by kernel_rfl) (by kernel_rfl) (by kernel_rfl) (fun _ _ _ h => h) (Or.inl ⟨by kernel_rfl, fun W hW => by have g := hW.2; go_simp⟩) hr ?_
      refine wpAnyH_ready (rs := [9]) (by kernel_rfl) (by simp) ?_
      refine AllReadyH.cons rfl (fun K2 hK2 => ?_) AllReadyH.nil
      go_simp
      refine (jadd_any G q v p z t w5 HM.out hv.out HP.out).mono ?_
      rintro e w6 ⟨rfl, M6, k6, -⟩
      refine hK2.out _ _ ⟨k6.cell hr.1 HN.out.1, k6.cell hr.2 HN.out.2.2.1⟩ (fun hr => ?_)
      clear hK2 K2
      refine wpAnyH_done (by kernel_rfl) ?_ _
      have HM6 : Hid (JiAt w6 G true (Ji.way z p) (Ji.sum t v (Ji.far q (Ji.way z p)))) := M6
      have HF6 : Hid (RJiAt w6 (G + 1) t q v) := HF.out.kept k6 (by omega)
      have HB6 : Hid (Below w.heap.size w w6) := HB.out.trans (k6.below h0 HB.out.size)
      obtain ⟨c1, c2⟩ := hr
      clear HM HF HB M6 k6
      go_wp2_with fail
      refine wp_region_held (S := fun W => W.cell? ⟨ba, oa + j, none⟩ = some (.int .u16 (p : Int)) ∧ W.cell? ⟨bb, ob + j, none⟩ = some (.int .i64 z)) (by kernel_rfl) ?_
      change wpAnyH _ _ _ _ _ _ _ _ w6.drew
      have hr : w6.drew.cell? ⟨ba, oa + j, none⟩ = some (.int .u16 (p : Int)) ∧ w6.drew.cell? ⟨bb, ob + j, none⟩ = some (.int .i64 z) := ⟨c1, c2⟩
      have HM6 : Hid (JiAt w6.drew G true (Ji.way z p) (Ji.sum t v (Ji.far q (Ji.way z p)))) := HM6.out.same ⟨1, rfl⟩
      have HF6 : Hid (RJiAt w6.drew (G + 1) t q v) := HF6.out.same ⟨1, rfl⟩
      have HB6 : Hid (Below w.heap.size w w6.drew) := HB6.out.drew
      clear c1 c2
      generalize w6.drew = w7 at *
      refine wpAnyH_take (i := 0) (v := .pointer (some ⟨G + 1, 0, none⟩)) rfl (by kernel_rfl) (by kernel_rfl) (by kernel_rfl) (fun _ _ _ h => h) (Yields.yieldsIf (Or.inl ⟨by kernel_rfl, fun _ => by kernel_rfl⟩)) hr ?_
      refine wpAnyH_take (i := 1) (v := .slice (some ⟨ba, oa, none⟩) n ca) rfl (by kernel_rfl) (by kernel_rfl) (by kernel_rfl) (fun _ _ _ h => h) (Yields.yieldsIf (Or.inl ⟨by kernel_rfl, fun _ => by kernel_rfl⟩)) hr ?_
      refine wpAnyH_take (i := 2) (v := .int .i64 (j : Int)) rfl (by kernel_rfl) (by kernel_rfl) (by kernel_rfl) (fun _ _ _ h => h) (Yields.yieldsIf (Or.inl ⟨by kernel_rfl, fun _ => by kernel_rfl⟩)) hr ?_
      refine wpAnyH_take (i := 3) (v := .pointer (some ⟨ba, oa + j, none⟩)) rfl (by kernel_rfl) (by kernel_rfl) (by kernel_rfl) (fun _ _ _ h => h) (Yields.yieldsIf (Or.inl ⟨by kernel_rfl, fun _ => by go_simp⟩)) hr ?_
      refine wpAnyH_take (i := 4) (v := .int .u16 (p : Int)) rfl (by kernel_rfl) (by kernel_rfl) (by kernel_rfl) (fun _ _ _ h => h) (Or.inl ⟨by kernel_rfl, fun W hW => by have g := hW.1; go_simp⟩) hr ?_
      refine wpAnyH_take (i := 5) (v := .slice (some ⟨bb, ob, none⟩) m cb) rfl (by kernel_rfl) (by kernel_rfl) (by kernel_rfl) (fun _ _ _ h => h) (Yields.yieldsIf (Or.inl ⟨by kernel_rfl, fun _ => by kernel_rfl⟩)) hr ?_
      refine wpAnyH_take (i := 6) (v := .int .i64 (j : Int)) rfl (by kernel_rfl) (by kernel_rfl) (by kernel_rfl) (fun _ _ _ h => h) (Yields.yieldsIf (Or.inl ⟨by kernel_rfl, fun _ => by kernel_rfl⟩)) hr ?_
      refine wpAnyH_take (i := 7) (v := .pointer (some ⟨bb, ob + j, none⟩)) rfl (by kernel_rfl) (by kernel_rfl) (by kernel_rfl) (fun _ _ _ h => h) (Yields.yieldsIf (Or.inl ⟨by kernel_rfl, fun _ => by go_simp⟩)) hr ?_
      refine wpAnyH_take (i := 8) (v := .int .i64 z) rfl (by kernel_rfl) (by kernel_rfl) (by kernel_rfl) (fun _ _ _ h => h) (Or.inl ⟨by kernel_rfl, fun W hW => by have g := hW.2; go_simp⟩) hr ?_
      refine wpAnyH_ready (rs := [9]) (by kernel_rfl) (by simp) ?_
      refine AllReadyH.cons rfl (fun K2 hK2 => ?_) AllReadyH.nil
      go_simp
      refine (rjadd_any (G + 1) q v p z t w7 HF6.out hv.out hq.out HP.out).mono ?_
      rintro e w8 ⟨rfl, F8, k8, -⟩
      refine hK2.out _ _ ⟨k8.cell hr.1 HN.out.2.1, k8.cell hr.2 HN.out.2.2.2⟩ (fun hr => ?_)
      clear hK2 K2
      refine wpAnyH_done (by kernel_rfl) ?_ _
      have HM8 : Hid (JiAt w8 G true (Ji.way z p) (Ji.sum t v (Ji.far q (Ji.way z p)))) := HM6.out.kept k8 (by omega)
      have HF8 : Hid (RJiAt w8 (G + 1) true (Ji.way z p) (Ji.sum t v (Ji.far q (Ji.way z p)))) := F8
      have HB8 : Hid (Below w.heap.size w w8) := HB6.out.trans (k8.below (by omega) HB6.out.size)
      have hu : Hid (Ji.sum t v (Ji.far q (Ji.way z p)) ≤ 524295) := Ji.sum_le (m := 32768) hv.out (Ji.far_le _ _) t
      have ho : Hid (Ji.way z p < 65536) := Ji.way_lt z p
      clear HM6 HF6 HB6 F8 k8 hr hv hq HP HN
      generalize Ji.sum t v (Ji.far q (Ji.way z p)) = u at *
      generalize Ji.way z p = o at *
      go_wp2_with fail
      refine (jval_any G o u true _ HM8.out hu.out).mono ?_
      rintro e w9 ⟨rfl, rfl⟩
      go_wp2_with fail
      refine (rjval_any (G + 1) o u true _ HF8.out hu.out).mono ?_
      rintro e w10 ⟨rfl, rfl⟩
      go_wp2
      go_roundw
      case rel => exact ⟨j + 1, u, o, true, by omega, by go_num, hu, ho, HM8, HF8, HB8⟩
      case measure => simp [intOf]; omega
    · obtain rfl : j = n := by omega
      clear HM HF hv hq hj hjn
      go_wp2_with fail
      refine (jadd_nil _ _ _).mono ?_
      rintro e w3 ⟨rfl, rfl⟩
      go_wp2_with fail
      refine (jval_nil _).mono ?_
      rintro e w4 ⟨rfl, rfl⟩
      go_wp2
      go_ret
      exact ⟨rfl, HB.out⟩
theorem walk (a0 : Option Addr) (len0 cap0 : Nat) (z0 : List Int) (a1 : Option Addr) (len1 cap1 : Nat) (z1 : List Int) (w : World) (w0 : IsRow .u16 w a0 len0 cap0 z0) (w1 : IsRow .i64 w a1 len1 cap1 z1) :
    Calls Try.prog 3 #[.slice a0 len0 cap0, .slice a1 len1 cap1] w fun e w' => e = .returned (.bool true) ∧ Below w.heap.size w w' := by
  have r0 : CameAs .u16 w a0 len0 cap0 z0 := w0
  have r1 : CameAs .i64 w a1 len1 cap1 z1 := w1
  obtain ⟨h0, k0⟩ := r0.nums
  obtain ⟨h1, -⟩ := r1.nums
  by_cases hn : len0 ≤ 60 ∧ len0 ≤ len1
  · have g0 : NumsAt .u16 w a0 len0 (fun i => ((z0[i]?.getD 0).toNat : Int)) := fun h => by
      obtain ⟨b', o', e, hc⟩ := h0 h
      exact ⟨b', o', e, fun i hi => by rw [hc i hi]; show _ = some (Value.int .u16 ((z0[i]?.getD 0).toNat : Int)); rw [Int.toNat_of_nonneg (range_u16 k0 i).1]⟩
    exact core a0 a1 len0 len1 cap0 cap1 _ _ w g0 h1 hn.1 hn.2 (fun i => by have := range_u16 k0 i; omega)
  · exact long a0 a1 len0 len1 cap0 cap1 w (by omega)

/-! ### THE ROW's STEP: WRITTEN OUT: LEAVE IT -/
set_option maxRecDepth 100000 in
theorem lifted (os : Os) (started : os.Started) (H : Type) (enc : TypeId × Value → H) :
    ReturnsInHanded {} Try.checked os 3 .any (Rows.jitterAllSpec.pre6 enc Try.prog Try.f3 Rows.jitterAllRow.domain false) (Rows.jitterAllSpec.post enc Try.prog Try.f3 false true false false) := by
  refine returnsInHanded_of_change (C := Try.checked) own started (by kernel_rfl) Try.func3
    (ChangeSpec.witness6 (enc := enc) (C := Try.checked) false ⟨#[], #[.slice none 0 0, .slice none 0 0], []⟩ 8 (by kernel_rfl) (by kernel_rfl) (by kernel_rfl) (by kernel_rfl)) ?_
  intro W base args ds gs before hval0 hW hcnd _
  have hval : ∀ (j : Nat) t v, Try.f3.params[j]? = some t → args[j]? = some v → Value.okWide Try.prog W .any base t v := hval0
  have hW' := hW
  obtain ⟨p, q, hA0, hV, rfl, hfz, hnd⟩ := hW
  have hA : DataW.TrodAll enc Try.prog W 0 (fun _ => true) true Try.f3.params.toList args.toList ds p := hA0
  rw [Try.params3] at hA hval
  obtain ⟨v0, vs0, d0, ds0, p0, q0, hargs, rfl, rfl, h0, r0⟩ := trodAll_cons hA
  obtain ⟨v1, vs1, d1, ds1, p1, q1, rfl, rfl, rfl, h1, r1⟩ := trodAll_cons r0
  obtain ⟨rfl, rfl, rfl⟩ := trodAll_nil r1
  obtain rfl : args = #[v0, v1] := by cases args; simp_all
  obtain ⟨rfl, rfl⟩ := trodVars_none hV
  obtain ⟨a0, len0, cap0, rfl⟩ := okWide_slice Try.underlying22 (hval 0 22 v0 rfl rfl)
  have k0 := h0
  have lt0 : ∀ x ∈ p0, x.block < W.heap.size := by obtain ⟨m, hm⟩ := k0; exact DataW.trod_lt m _ _ _ hm
  obtain ⟨z0, w0⟩ : ∃ zs, IsRow .u16 W a0 len0 cap0 zs := by
    obtain ⟨fuel, hf⟩ := h0
    rcases open_ints Try.underlying22 Try.underlying28 (by kernel_rfl) hf with ⟨hcs, _⟩ | ⟨x, l, c, zs, hcs, _, hl, hm, hz, _, hcell, hwz⟩
    · simp [Value.cells] at hcs
      obtain ⟨rfl, rfl, rfl⟩ := hcs
      exact ⟨[], .inl ⟨rfl, rfl, rfl, rfl⟩⟩
    · simp [Value.cells] at hcs
      obtain ⟨rfl, rfl, rfl⟩ := hcs
      exact ⟨zs, .inr ⟨_, rfl, hl, hm, by simpa using hz, hcell, hwz⟩⟩
  obtain ⟨a1, len1, cap1, rfl⟩ := okWide_slice Try.underlying23 (hval 1 23 v1 rfl rfl)
  have k1 := h1
  have lt1 : ∀ x ∈ p1, x.block < W.heap.size := by obtain ⟨m, hm⟩ := k1; exact DataW.trod_lt m _ _ _ hm
  obtain ⟨z1, w1⟩ : ∃ zs, IsRow .i64 W a1 len1 cap1 zs := by
    obtain ⟨fuel, hf⟩ := h1
    rcases open_ints Try.underlying23 Try.underlying2 (by kernel_rfl) hf with ⟨hcs, _⟩ | ⟨x, l, c, zs, hcs, _, hl, hm, hz, _, hcell, hwz⟩
    · simp [Value.cells] at hcs
      obtain ⟨rfl, rfl, rfl⟩ := hcs
      exact ⟨[], .inl ⟨rfl, rfl, rfl, rfl⟩⟩
    · simp [Value.cells] at hcs
      obtain ⟨rfl, rfl, rfl⟩ := hcs
      exact ⟨zs, .inr ⟨_, rfl, hl, hm, by simpa using hz, hcell, hwz⟩⟩
  clear hA0 hval0
  refine (walk a0 len0 cap0 z0 a1 len1 cap1 z1 W w0 w1).mono fun e W' ⟨he, bel⟩ => ?_
  subst he
  exact ⟨_, rfl, _, _, _, [], _, [], hW', trodAll_mk1 (shut_bool Try.underlying4 _), (trodAll_cons_mk (Below.trod laidOut (by kernel_rfl) (of_decide_eq_true (by kernel_rfl)) k0 bel lt0) (trodAll_cons_mk (Below.trod laidOut (by kernel_rfl) (of_decide_eq_true (by kernel_rfl)) k1 bel lt1) trodAll_mk0)), rfl, bel.frame _, fun h => by cases h⟩

theorem over : Rows.jitterAllRow.holds Try.pinned (OpenSpec.ofChange Rows.jitterAllSpec) :=
  OpenClaim.holds_of_wide 3 Try.f3 rfl rfl rfl rfl rfl rfl rfl ⟨rfl, rfl, rfl, rfl, rfl⟩ rfl rfl rfl rfl rfl (by kernel_rfl) Try.func3 (by kernel_rfl)
    (of_decide_eq_true (by kernel_rfl)) (by unfold Func.isWrapper; first | (rw [if_pos (by decide +kernel)]; kernel_rfl) | (rw [if_neg (by decide +kernel)]; exact ⟨rfl, rfl⟩))
    (fun os started H enc _ => lifted os started H enc)

theorem proved : Rows.JitterAllSaid := over
end Go.Proofs.Ytmgphmjfgoljcaa.jitterAll
namespace Go.Proofs.Ytmgphmjfgoljcaa
theorem jitterAll_holds : Rows.JitterAllSaid := jitterAll.proved
#print axioms jitterAll_holds
end Go.Proofs.Ytmgphmjfgoljcaa

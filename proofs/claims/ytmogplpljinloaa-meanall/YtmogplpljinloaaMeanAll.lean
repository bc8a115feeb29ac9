/-
  Which losses there are on the whole is as the document has it: the call returns true, whatever the looks are (at most 60 looks are looked at; no condition).
-/
import Derived.Test.YtmogplpljinloaaRows
import Derived.WalkKit
import Derived.ProofKit
import Derived.OpenShut
import Derived.ShutString
import Derived.ChangeOld
import Derived.Below
import Derived.Test.YtmogplpljinloaaMn1
import Derived.Test.YtmogplpljinloaaMn2
import Derived.Test.YtmogplpljinloaaNms
import Derived.Deep.RegionHeld
import Derived.Deep.RegionHeld3
namespace Go.Proofs.Ytmogplpljinloaa.meanAll
open Go.ChangeShapes Go.WideShapes Go.ChangeAt Go.RowKit
open Go.ChangeMaps (open_string shut_string)
set_option linter.unusedVariables false

theorem own : ownKnob Try.prog.godebug = none := by kernel_rfl
theorem laidOut : laidOutB Try.prog = true := by kernel_rfl

/-- WHAT THE WALK IS TOLD OF A SLICE OF INTEGERS THAT CAME IN: it is nil; or it leads to a row of 'cap' cells, the numbers 'zs' (the first 'len' are its elements, the rest its spare room), each fitting its kind. -/
def IsRow (k : IntKind) (w : World) (a : Option Addr) (len cap : Nat) (zs : List Int) : Prop :=
  (a = none ∧ len = 0 ∧ cap = 0 ∧ zs = []) ∨
  ∃ x, a = some x ∧ len ≤ cap ∧ cap ≤ maxLen ∧ zs.length = cap ∧ (∀ i, i < zs.length → w.cell? (x.add i) = some (.int k (zs.getD i 0))) ∧ ∀ n ∈ zs, (Lit.int k n).wf = true

open Go.Deep

theorem range_u32 {zs : List Int} (h : ∀ n ∈ zs, (Lit.int .u32 n).wf = true) (i : Nat) : 0 ≤ zs[i]?.getD 0 ∧ zs[i]?.getD 0 ≤ 4294967295 := by
  by_cases hi : i < zs.length
  · rw [List.getElem?_eq_getElem hi]
    exact bounds_u32 (h _ (List.getElem_mem hi))
  · rw [List.getElem?_eq_none (by omega)]
    simp

set_option maxRecDepth 100000 in
set_option maxHeartbeats 400000 in
theorem long (a0 a1 : Option Addr) (n m ca cb : Nat) (w : World) (hn : 60 < n ∨ m < n) :
    Calls Try.prog 3 #[.slice a0 n ca, .slice a1 m cb] w fun e w' => e = .returned (.bool true) ∧ Below w.heap.size w w' := by
  by_cases h60 : 60 < n
  · have i60 : (60 : Int) < (n : Int) := by omega
    go_enter Try.func3, Try.ntmps3
    go_wp2_with fail
    refine (begun17 _).mono ?_
    rintro e w0 ⟨rfl, b0⟩
    go_wp2
    go_ret
    exact ⟨rfl, b0⟩
  · have i60 : decide ((60 : Int) < (n : Int)) = false := by simp; omega
    have imn : (m : Int) < (n : Int) := by omega
    go_enter Try.func3, Try.ntmps3
    go_wp2_with fail
    refine (begun17 _).mono ?_
    rintro e w0 ⟨rfl, b0⟩
    go_wp2
    go_ret
    exact ⟨rfl, b0⟩

set_option maxRecDepth 100000 in
set_option maxHeartbeats 1000000 in
theorem core (a0 a1 : Option Addr) (n m ca cb : Nat) (x y : Nat → Nat) (w : World) (hx : NumsAt .u32 w a0 n (fun i => (x i : Int))) (hy : NumsAt .u32 w a1 m (fun i => (y i : Int))) (hn : n ≤ 60) (hm : n ≤ m) (hrx : ∀ i, x i < 4294967296) (hry : ∀ i, y i < 4294967296) :
    Calls Try.prog 3 #[.slice a0 n ca, .slice a1 m cb] w fun e w' => e = .returned (.bool true) ∧ Below w.heap.size w w' := by
  have HX : Hid (NumsAt .u32 w a0 n (fun i => (x i : Int))) := hx
  have HY : Hid (NumsAt .u32 w a1 m (fun i => (y i : Int))) := hy
  have HR : Hid ((∀ i, x i < 4294967296) ∧ ∀ i, y i < 4294967296) := ⟨hrx, hry⟩
  have i60 : decide ((60 : Int) < (n : Int)) = false := by simp; omega
  have imn : decide ((m : Int) < (n : Int)) = false := by simp; omega
  clear hx hy hrx hry
  go_enter Try.func3, Try.ntmps3
  go_wp2_with fail
  refine (begun17 _).mono ?_
  rintro e w0 ⟨rfl, b0⟩
  go_wp2_with fail
  refine (mean_new _).mono ?_
  rintro e w1 ⟨rfl, M1, d1, z1⟩
  have b1 := b0.trans (d1.mono b0.size)
  have h0 := b0.size
  clear b0 d1
  have F2 := RMnAt.made w1 28
  have d2 : Below w1.heap.size w1 (w1.alloc (.cells #[.bool false, .int .i64 0] 28)) := (Below.refl _ w1).alloc (Nat.le_refl _) _
  have HM : Hid (MnAt (w1.alloc (.cells #[.bool false, .int .i64 0] 28)) w0.heap.size false 0) := M1.grew d2
  have HB : Hid (Below w.heap.size w (w1.alloc (.cells #[.bool false, .int .i64 0] 28))) := b1.trans (d2.mono b1.size)
  rw [z1] at F2
  have HF : Hid (RMnAt (w1.alloc (.cells #[.bool false, .int .i64 0] 28)) (w0.heap.size + 1) false 0) := F2
  clear M1 b1 d2 F2
  go_wp2_with fail
  clear z1
  generalize w1.alloc (.cells #[.bool false, .int .i64 0] 28) = w2 at *
  generalize w0.heap.size = G at *
  go_loopw [7] (fun i wr => ∃ (j v : Nat) (t : Bool), j ≤ n ∧ i = .int .i64 j ∧ v ≤ 65536 ∧ Hid (MnAt wr G t v) ∧ Hid (RMnAt wr (G + 1) t v) ∧ Hid (Below w.heap.size w wr)) (fun i _ => n - (intOf i).toNat)
  case atStart => exact ⟨0, 0, false, Nat.zero_le _, rfl, by omega, HM, HF, HB⟩
  case round =>
    clear HM HB HF
    obtain ⟨j, v, t, hj, rfl, hv, HM, HF, HB⟩ := hrel
    by_cases hjn : j < n
    · have i1 : (j : Int) < (n : Int) := by omega
      have i2 : (j : Int) < (m : Int) := by omega
      obtain ⟨ba, oa, rfl, hca⟩ := HX.out (by omega)
      obtain ⟨bb, ob, rfl, hcb⟩ := HY.out (by omega)
      have la := cell_lt (hca j hjn)
      have lb := cell_lt (hcb j (by omega))
      have c1 : wr.cell? ⟨ba, oa + j, none⟩ = some (.int .u32 (x j : Int)) := (HB.out.cell (p := ⟨ba, oa + j, none⟩) la).trans (hca j hjn)
      have c2 : wr.cell? ⟨bb, ob + j, none⟩ = some (.int .u32 (y j : Int)) := (HB.out.cell (p := ⟨bb, ob + j, none⟩) lb).trans (hcb j (by omega))
      have HN : Hid (ba ≠ G ∧ ba ≠ G + 1 ∧ bb ≠ G ∧ bb ≠ G + 1) := ⟨by omega, by omega, by omega, by omega⟩
      have HXY : Hid (x j < 4294967296 ∧ y j < 4294967296) := ⟨HR.out.1 j, HR.out.2 j⟩
      clear hca hcb la lb
      generalize x j = p at *
      generalize y j = q at *
      go_wp2_with fail
      refine wp_region_held (S := fun W => W.cell? ⟨ba, oa + j, none⟩ = some (.int .u32 (p : Int)) ∧ W.cell? ⟨bb, ob + j, none⟩ = some (.int .u32 (q : Int))) (by kernel_rfl) ?_
      change wpAnyH _ _ _ _ _ _ _ _ wr.drew
      have hr : wr.drew.cell? ⟨ba, oa + j, none⟩ = some (.int .u32 (p : Int)) ∧ wr.drew.cell? ⟨bb, ob + j, none⟩ = some (.int .u32 (q : Int)) := ⟨c1, c2⟩
      have HM : Hid (MnAt wr.drew G t v) := HM.out.same ⟨1, rfl⟩
      have HF : Hid (RMnAt wr.drew (G + 1) t v) := HF.out.same ⟨1, rfl⟩
      have HB : Hid (Below w.heap.size w wr.drew) := HB.out.drew
      clear c1 c2
      generalize wr.drew = w5 at *
      refine wpAnyH_take (i := 0) (v := .pointer (some ⟨G, 0, none⟩)) rfl (by kernel_rfl) (by kernel_rfl) (by kernel_rfl) (fun _ _ _ h => h) (Yields.yieldsIf (Or.inl ⟨by kernel_rfl, fun _ => by kernel_rfl⟩)) hr ?_
      refine wpAnyH_take (i := 1) (v := .slice (some ⟨ba, oa, none⟩) n ca) rfl (by kernel_rfl) (by kernel_rfl) (by kernel_rfl) (fun _ _ _ h => h) (Yields.yieldsIf (Or.inl ⟨by kernel_rfl, fun _ => by kernel_rfl⟩)) hr ?_
      refine wpAnyH_take (i := 2) (v := .int .i64 (j : Int)) rfl (by kernel_rfl) (by kernel_rfl) (by kernel_rfl) (fun _ _ _ h => h) (Yields.yieldsIf (Or.inl ⟨by kernel_rfl, fun _ => by kernel_rfl⟩)) hr ?_
      refine wpAnyH_take (i := 3) (v := .pointer (some ⟨ba, oa + j, none⟩)) rfl (by kernel_rfl) (by kernel_rfl) (by kernel_rfl) (fun _ _ _ h => h) (Yields.yieldsIf (Or.inl ⟨by kernel_rfl, fun _ => by go_simp⟩)) hr ?_
      refine wpAnyH_take (i := 4) (v := .int .u32 (p : Int)) rfl (by kernel_rfl) (by kernel_rfl) (by kernel_rfl) (fun _ _ _ h => h) (Or.inl ⟨by kernel_rfl, fun W hW => by have g := hW.1; go_simp⟩) hr ?_
      refine wpAnyH_take (i := 5) (v := .slice (some ⟨bb, ob, none⟩) m cb) rfl (by kernel_rfl) (by kernel_rfl) (by kernel_rfl) (fun _ _ _ h => h) (Yields.yieldsIf (Or.inl ⟨by kernel_rfl, fun _ => by kernel_rfl⟩)) hr ?_
      refine wpAnyH_take (i := 6) (v := .int .i64 (j : Int)) rfl (by kernel_rfl) (by kernel_rfl) (by kernel_rfl) (fun _ _ _ h => h) (Yields.yieldsIf (Or.inl ⟨by kernel_rfl, fun _ => by kernel_rfl⟩)) hr ?_
      refine wpAnyH_take (i := 7) (v := .pointer (some ⟨bb, ob + j, none⟩)) rfl (by kernel_rfl) (by kernel_rfl) (by kernel_rfl) (fun _ _ _ h => h) (Yields.yieldsIf (Or.inl ⟨by kernel_rfl, fun _ => by go_simp⟩)) hr ?_
      refine wpAnyH_take (i := 8) (v := .int .u32 (q : Int)) rfl (by kernel_rfl) (by kernel_rfl) (by kernel_rfl) (fun _ _ _ h => h) (Or.inl ⟨by kernel_rfl, fun W hW => by have g := hW.2; go_simp⟩) hr ?_
      refine wpAnyH_ready (rs := [9]) (by kernel_rfl) (by simp) ?_
      refine AllReadyH.cons rfl (fun K2 hK2 => ?_) AllReadyH.nil
      go_simp
      refine (madd_any G v p q t w5 HM.out hv HXY.out.1 HXY.out.2).mono ?_
      rintro e w6 ⟨rfl, M6, k6, -⟩
      refine hK2.out _ _ ⟨k6.cell hr.1 HN.out.1, k6.cell hr.2 HN.out.2.2.1⟩ (fun hr => ?_)
      clear hK2 K2
      refine wpAnyH_done (by kernel_rfl) ?_ _
      have HM6 : Hid (MnAt w6 G (Mn.any t p q) (Mn.val t v p q)) := M6
      have HF6 : Hid (RMnAt w6 (G + 1) t v) := HF.out.kept k6 (by omega)
      have HB6 : Hid (Below w.heap.size w w6) := HB.out.trans (k6.below h0 HB.out.size)
      obtain ⟨c1, c2⟩ := hr
      clear HM HF HB M6 k6
      go_wp2_with fail
      refine wp_region_held (S := fun W => W.cell? ⟨ba, oa + j, none⟩ = some (.int .u32 (p : Int)) ∧ W.cell? ⟨bb, ob + j, none⟩ = some (.int .u32 (q : Int))) (by kernel_rfl) ?_
      change wpAnyH _ _ _ _ _ _ _ _ w6.drew
      have hr : w6.drew.cell? ⟨ba, oa + j, none⟩ = some (.int .u32 (p : Int)) ∧ w6.drew.cell? ⟨bb, ob + j, none⟩ = some (.int .u32 (q : Int)) := ⟨c1, c2⟩
      have HM6 : Hid (MnAt w6.drew G (Mn.any t p q) (Mn.val t v p q)) := HM6.out.same ⟨1, rfl⟩
      have HF6 : Hid (RMnAt w6.drew (G + 1) t v) := HF6.out.same ⟨1, rfl⟩
      have HB6 : Hid (Below w.heap.size w w6.drew) := HB6.out.drew
      clear c1 c2
      generalize w6.drew = w7 at *
      refine wpAnyH_take (i := 0) (v := .pointer (some ⟨G + 1, 0, none⟩)) rfl (by kernel_rfl) (by kernel_rfl) (by kernel_rfl) (fun _ _ _ h => h) (Yields.yieldsIf (Or.inl ⟨by kernel_rfl, fun _ => by kernel_rfl⟩)) hr ?_
      refine wpAnyH_take (i := 1) (v := .slice (some ⟨ba, oa, none⟩) n ca) rfl (by kernel_rfl) (by kernel_rfl) (by kernel_rfl) (fun _ _ _ h => h) (Yields.yieldsIf (Or.inl ⟨by kernel_rfl, fun _ => by kernel_rfl⟩)) hr ?_
      refine wpAnyH_take (i := 2) (v := .int .i64 (j : Int)) rfl (by kernel_rfl) (by kernel_rfl) (by kernel_rfl) (fun _ _ _ h => h) (Yields.yieldsIf (Or.inl ⟨by kernel_rfl, fun _ => by kernel_rfl⟩)) hr ?_
      refine wpAnyH_take (i := 3) (v := .pointer (some ⟨ba, oa + j, none⟩)) rfl (by kernel_rfl) (by kernel_rfl) (by kernel_rfl) (fun _ _ _ h => h) (Yields.yieldsIf (Or.inl ⟨by kernel_rfl, fun _ => by go_simp⟩)) hr ?_
      refine wpAnyH_take (i := 4) (v := .int .u32 (p : Int)) rfl (by kernel_rfl) (by kernel_rfl) (by kernel_rfl) (fun _ _ _ h => h) (Or.inl ⟨by kernel_rfl, fun W hW => by have g := hW.1; go_simp⟩) hr ?_
      refine wpAnyH_take (i := 5) (v := .slice (some ⟨bb, ob, none⟩) m cb) rfl (by kernel_rfl) (by kernel_rfl) (by kernel_rfl) (fun _ _ _ h => h) (Yields.yieldsIf (Or.inl ⟨by kernel_rfl, fun _ => by kernel_rfl⟩)) hr ?_
      refine wpAnyH_take (i := 6) (v := .int .i64 (j : Int)) rfl (by kernel_rfl) (by kernel_rfl) (by kernel_rfl) (fun _ _ _ h => h) (Yields.yieldsIf (Or.inl ⟨by kernel_rfl, fun _ => by kernel_rfl⟩)) hr ?_
      refine wpAnyH_take (i := 7) (v := .pointer (some ⟨bb, ob + j, none⟩)) rfl (by kernel_rfl) (by kernel_rfl) (by kernel_rfl) (fun _ _ _ h => h) (Yields.yieldsIf (Or.inl ⟨by kernel_rfl, fun _ => by go_simp⟩)) hr ?_
      refine wpAnyH_take (i := 8) (v := .int .u32 (q : Int)) rfl (by kernel_rfl) (by kernel_rfl) (by kernel_rfl) (fun _ _ _ h => h) (Or.inl ⟨by kernel_rfl, fun W hW => by have g := hW.2; go_simp⟩) hr ?_
      refine wpAnyH_ready (rs := [9]) (by kernel_rfl) (by simp) ?_
      refine AllReadyH.cons rfl (fun K2 hK2 => ?_) AllReadyH.nil
      go_simp
      refine (rmadd_any (G + 1) v p q t w7 HF6.out hv HXY.out.1 HXY.out.2).mono ?_
      rintro e w8 ⟨rfl, F8, k8, -⟩
      refine hK2.out _ _ ⟨k8.cell hr.1 HN.out.2.1, k8.cell hr.2 HN.out.2.2.2⟩ (fun hr => ?_)
      clear hK2 K2
      refine wpAnyH_done (by kernel_rfl) ?_ _
      have HM8 : Hid (MnAt w8 G (Mn.any t p q) (Mn.val t v p q)) := HM6.out.kept k8 (by omega)
      have HF8 : Hid (RMnAt w8 (G + 1) (Mn.any t p q) (Mn.val t v p q)) := F8
      have HB8 : Hid (Below w.heap.size w w8) := HB6.out.trans (k8.below (by omega) HB6.out.size)
      have hu := Mn.val_le hv t p q
      clear HM6 HF6 HB6 F8 k8 hr hv HXY HN
      generalize Mn.any t p q = t' at *
      generalize Mn.val t v p q = u at *
      have c3 := HF8.out.cell
      go_wp2_with fail
      go_quiet ((go_at_call 11; exact Calls.quiet_of_same (mval_any G u t' _ (HM8.out.same ⟨_, rfl⟩) hu)))
      go_wp2
      go_roundw
      case rel => exact ⟨j + 1, u, t', by omega, by go_num, hu, HM8.out.same ⟨_, rfl⟩, HF8.out.same ⟨_, rfl⟩, HB8.out.trans (below_drews _)⟩
      case measure => simp [intOf]; omega
    · obtain rfl : j = n := by omega
      clear HM HF hv hj hjn
      go_wp2_with fail
      refine (madd_nil _ _ _).mono ?_
      rintro e w3 ⟨rfl, rfl⟩
      go_wp2_with fail
      refine (mval_nil _).mono ?_
      rintro e w4 ⟨rfl, rfl⟩
      go_wp2
      go_ret
      exact ⟨rfl, HB.out⟩
theorem walk (a0 : Option Addr) (len0 cap0 : Nat) (z0 : List Int) (a1 : Option Addr) (len1 cap1 : Nat) (z1 : List Int) (w : World) (w0 : IsRow .u32 w a0 len0 cap0 z0) (w1 : IsRow .u32 w a1 len1 cap1 z1) :
    Calls Try.prog 3 #[.slice a0 len0 cap0, .slice a1 len1 cap1] w fun e w' => e = .returned (.bool true) ∧ Below w.heap.size w w' := by
  have r0 : CameAs .u32 w a0 len0 cap0 z0 := w0
  have r1 : CameAs .u32 w a1 len1 cap1 z1 := w1
  obtain ⟨h0, k0⟩ := r0.nums
  obtain ⟨h1, k1⟩ := r1.nums
  by_cases hn : len0 ≤ 60 ∧ len0 ≤ len1
  · have g0 : NumsAt .u32 w a0 len0 (fun i => ((z0[i]?.getD 0).toNat : Int)) := fun h => by
      obtain ⟨b', o', e, hc⟩ := h0 h
      exact ⟨b', o', e, fun i hi => by rw [hc i hi]; show _ = some (Value.int .u32 ((z0[i]?.getD 0).toNat : Int)); rw [Int.toNat_of_nonneg (range_u32 k0 i).1]⟩
    have g1 : NumsAt .u32 w a1 len1 (fun i => ((z1[i]?.getD 0).toNat : Int)) := fun h => by
      obtain ⟨b', o', e, hc⟩ := h1 h
      exact ⟨b', o', e, fun i hi => by rw [hc i hi]; show _ = some (Value.int .u32 ((z1[i]?.getD 0).toNat : Int)); rw [Int.toNat_of_nonneg (range_u32 k1 i).1]⟩
    exact core a0 a1 len0 len1 cap0 cap1 _ _ w g0 g1 hn.1 hn.2 (fun i => by have := range_u32 k0 i; omega) (fun i => by have := range_u32 k1 i; omega)
  · exact long a0 a1 len0 len1 cap0 cap1 w (by omega)

/-! ### THE ROW's STEP: WRITTEN OUT: LEAVE IT -/
set_option maxRecDepth 100000 in
theorem lifted (os : Os) (started : os.Started) (H : Type) (enc : TypeId × Value → H) :
    ReturnsInHanded {} Try.checked os 3 .any (Rows.meanAllSpec.pre6 enc Try.prog Try.f3 Rows.meanAllRow.domain false) (Rows.meanAllSpec.post enc Try.prog Try.f3 false true false false) := by
  refine returnsInHanded_of_change (C := Try.checked) own started (by kernel_rfl) Try.func3
    (ChangeSpec.witness6 (enc := enc) (C := Try.checked) false ⟨#[], #[.slice none 0 0, .slice none 0 0], []⟩ 8 (by kernel_rfl) (by kernel_rfl) (by kernel_rfl) (by kernel_rfl)) ?_
  intro W base args ds gs before hval0 hW hcnd _
  have hval : ∀ (j : Nat) t v, Try.f3.params[j]? = some t → args[j]? = some v → Value.okWide Try.prog W .any base t v := hval0
  have hW' := hW
  obtain ⟨p, q, hA0, hV, rfl, hfz, hnd⟩ := hW
  have hA : DataW.TrodAll enc Try.prog W 0 (fun _ => true) true Try.f3.params.toList args.toList ds p := hA0
  rw [Try.params3] at hA hval
  obtain ⟨v0, vs0, d0, ds0, p0, q0, hargs, rfl, rfl, h0, r0⟩ := trodAll_cons hA
  obtain ⟨v1, vs1, d1, ds1, p1, q1, rfl, rfl, rfl, h1, r1⟩ := trodAll_cons r0
  obtain ⟨rfl, rfl, rfl⟩ := trodAll_nil r1
  obtain rfl : args = #[v0, v1] := by cases args; simp_all
  obtain ⟨rfl, rfl⟩ := trodVars_none hV
  obtain ⟨a0, len0, cap0, rfl⟩ := okWide_slice Try.underlying22 (hval 0 22 v0 rfl rfl)
  have k0 := h0
  have lt0 : ∀ x ∈ p0, x.block < W.heap.size := by obtain ⟨m, hm⟩ := k0; exact DataW.trod_lt m _ _ _ hm
  obtain ⟨z0, w0⟩ : ∃ zs, IsRow .u32 W a0 len0 cap0 zs := by
    obtain ⟨fuel, hf⟩ := h0
    rcases open_ints Try.underlying22 Try.underlying30 (by kernel_rfl) hf with ⟨hcs, _⟩ | ⟨x, l, c, zs, hcs, _, hl, hm, hz, _, hcell, hwz⟩
    · simp [Value.cells] at hcs
      obtain ⟨rfl, rfl, rfl⟩ := hcs
      exact ⟨[], .inl ⟨rfl, rfl, rfl, rfl⟩⟩
    · simp [Value.cells] at hcs
      obtain ⟨rfl, rfl, rfl⟩ := hcs
      exact ⟨zs, .inr ⟨_, rfl, hl, hm, by simpa using hz, hcell, hwz⟩⟩
  obtain ⟨a1, len1, cap1, rfl⟩ := okWide_slice Try.underlying22 (hval 1 22 v1 rfl rfl)
  have k1 := h1
  have lt1 : ∀ x ∈ p1, x.block < W.heap.size := by obtain ⟨m, hm⟩ := k1; exact DataW.trod_lt m _ _ _ hm
  obtain ⟨z1, w1⟩ : ∃ zs, IsRow .u32 W a1 len1 cap1 zs := by
    obtain ⟨fuel, hf⟩ := h1
    rcases open_ints Try.underlying22 Try.underlying30 (by kernel_rfl) hf with ⟨hcs, _⟩ | ⟨x, l, c, zs, hcs, _, hl, hm, hz, _, hcell, hwz⟩
    · simp [Value.cells] at hcs
      obtain ⟨rfl, rfl, rfl⟩ := hcs
      exact ⟨[], .inl ⟨rfl, rfl, rfl, rfl⟩⟩
    · simp [Value.cells] at hcs
      obtain ⟨rfl, rfl, rfl⟩ := hcs
      exact ⟨zs, .inr ⟨_, rfl, hl, hm, by simpa using hz, hcell, hwz⟩⟩
  clear hA0 hval0
  refine (walk a0 len0 cap0 z0 a1 len1 cap1 z1 W w0 w1).mono fun e W' ⟨he, bel⟩ => ?_
  subst he
  exact ⟨_, rfl, _, _, _, [], _, [], hW', trodAll_mk1 (shut_bool Try.underlying4 _), (trodAll_cons_mk (Below.trod laidOut (by kernel_rfl) (of_decide_eq_true (by kernel_rfl)) k0 bel lt0) (trodAll_cons_mk (Below.trod laidOut (by kernel_rfl) (of_decide_eq_true (by kernel_rfl)) k1 bel lt1) trodAll_mk0)), rfl, bel.frame _, fun h => by cases h⟩

theorem over : Rows.meanAllRow.holds Try.pinned (OpenSpec.ofChange Rows.meanAllSpec) :=
  OpenClaim.holds_of_wide 3 Try.f3 rfl rfl rfl rfl rfl rfl rfl ⟨rfl, rfl, rfl, rfl, rfl⟩ rfl rfl rfl rfl rfl (by kernel_rfl) Try.func3 (by kernel_rfl)
    (of_decide_eq_true (by kernel_rfl)) (by unfold Func.isWrapper; first | (rw [if_pos (by decide +kernel)]; kernel_rfl) | (rw [if_neg (by decide +kernel)]; exact ⟨rfl, rfl⟩))
    (fun os started H enc _ => lifted os started H enc)

theorem proved : Rows.MeanAllSaid := over
end Go.Proofs.Ytmogplpljinloaa.meanAll
namespace Go.Proofs.Ytmogplpljinloaa
theorem meanAll_holds : Rows.MeanAllSaid := meanAll.proved
#print axioms meanAll_holds
end Go.Proofs.Ytmogplpljinloaa

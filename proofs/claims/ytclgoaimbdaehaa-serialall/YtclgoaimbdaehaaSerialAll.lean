/-
  Which numbers are behind which, and which number each one is, is as the document has it, in any run: the call returns true, whatever the numbers are (at most 60 numbers of a run are looked at; no condition).
-/
import Derived.Test.YtclgoaimbdaehaaRows
import Derived.WalkKit
import Derived.ProofKit
import Derived.OpenShut
import Derived.ShutString
import Derived.ChangeOld
import Derived.Below
import Derived.Test.YtclgoaimbdaehaaSeb
import Derived.Test.YtclgoaimbdaehaaSed
import Derived.Test.YtclgoaimbdaehaaNms
import Derived.Deep.RegionHeld
import Derived.Deep.RegionHeld3
namespace Go.Proofs.Ytclgoaimbdaehaa.serialAll
open Go.ChangeShapes Go.WideShapes Go.ChangeAt Go.RowKit
open Go.ChangeMaps (open_string shut_string)
set_option linter.unusedVariables false

theorem own : ownKnob Try.prog.godebug = none := by kernel_rfl
theorem laidOut : laidOutB Try.prog = true := by kernel_rfl

/-- WHAT THE WALK IS TOLD OF A SLICE OF INTEGERS THAT CAME IN: it is nil; or it leads to a row of 'cap' cells, the numbers 'zs' (the first 'len' are its elements, the rest its spare room), each fitting its kind. -/
def IsRow (k : IntKind) (w : World) (a : Option Addr) (len cap : Nat) (zs : List Int) : Prop :=
  (a = none ∧ len = 0 ∧ cap = 0 ∧ zs = []) ∨
  ∃ x, a = some x ∧ len ≤ cap ∧ cap ≤ maxLen ∧ zs.length = cap ∧ (∀ i, i < zs.length → w.cell? (x.add i) = some (.int k (zs.getD i 0))) ∧ ∀ n ∈ zs, (Lit.int k n).wf = true

open Go.Deep

theorem rext_fresh (w : World) : RExtAt (w.alloc (.cells #[.bool false, .int .u64 0] 30)) w.heap.size 0 :=
  ⟨by rw [World.cell?_alloc_at _ _ _ _ rfl]; rfl, by rw [World.cell?_alloc_at _ _ _ _ rfl]; rfl, frozen_of_row _ w.heap.size 0 _ 30 (heap_alloc_new w _), frozen_of_row _ w.heap.size 1 _ 30 (heap_alloc_new w _)⟩
theorem top_near {T n : Nat} (h : T = 0 ∨ 65536 ≤ T) (hn : n < 65536) : 65536 ≤ Ser.top T n ∧ Ser.top T n ≤ max T 65536 + 65535 := by
  unfold Ser.top
  rcases h with rfl | h
  · rw [Ser.far_zero]; omega
  · have := Ser.far_pos n h
    have := Ser.dif_range (T % 65536) n
    omega

theorem bound {T U j c d : Nat} (h : U ≤ max T c + d) (k : T ≤ c + d * j) : U ≤ c + d * (j + 1) := by
  rw [Nat.mul_succ, ← Nat.add_assoc]
  exact Nat.le_trans h (Nat.add_le_add_right (Nat.max_le.2 ⟨k, Nat.le_add_right _ _⟩) _)

set_option maxRecDepth 100000 in
set_option maxHeartbeats 1000000 in
theorem core (a b : Nat) (a2 : Option Addr) (n cap2 : Nat) (x : Nat → Nat) (w : World) (ha : a < 65536) (hb : b < 65536) (hx : NumsAt .u16 w a2 n (fun i => (x i : Int))) (hn : n ≤ 60) (hr : ∀ i, x i < 65536) :
    Calls Try.prog 3 #[.int .u16 (a : Int), .int .u16 (b : Int), .slice a2 n cap2] w fun e w' => e = .returned (.bool true) ∧ Below w.heap.size w w' := by
  have HX : Hid (NumsAt .u16 w a2 n (fun i => (x i : Int))) := hx
  have i60 : decide ((60 : Int) < (n : Int)) = false := by simp; omega
  clear hx
  go_enter Try.func3, Try.ntmps3
  go_wp2_with fail
  refine (begun8 _).mono ?_
  rintro e w0 ⟨rfl, b0⟩
  go_wp2_with fail
  refine (ext_new _).mono ?_
  rintro e w1 ⟨rfl, E1, d1, z1⟩
  have b1 := b0.trans (d1.mono b0.size)
  have h0 := b0.size
  clear b0 d1
  have F2 := rext_fresh w1
  have d2 : Below w1.heap.size w1 (w1.alloc (.cells #[.bool false, .int .u64 0] 30)) := (Below.refl _ w1).alloc (Nat.le_refl _) _
  have HE : Hid (ExtAt (w1.alloc (.cells #[.bool false, .int .u64 0] 30)) w0.heap.size 0) := E1.grew d2
  have HB : Hid (Below w.heap.size w (w1.alloc (.cells #[.bool false, .int .u64 0] 30))) := b1.trans (d2.mono b1.size)
  rw [z1] at F2
  have HF : Hid (RExtAt (w1.alloc (.cells #[.bool false, .int .u64 0] 30)) (w0.heap.size + 1) 0) := F2
  clear E1 b1 d2 F2
  go_wp2_with fail
  clear z1
  generalize w1.alloc (.cells #[.bool false, .int .u64 0] 30) = w2 at *
  generalize w0.heap.size = G at *
  go_loopw [9] (fun i wr => ∃ j T : Nat, j ≤ n ∧ i = .int .i64 j ∧ (T = 0 ∨ 65536 ≤ T) ∧ T ≤ 65536 + 65535 * j ∧ ExtAt wr G T ∧ RExtAt wr (G + 1) T ∧ Below w.heap.size w wr) (fun i _ => n - (intOf i).toNat)
  case atStart => exact ⟨0, 0, Nat.zero_le _, rfl, .inl rfl, by omega, HE.out, HF.out, HB.out⟩
  case round =>
    clear HE HB HF
    obtain ⟨j, T, hj, rfl, t1, t2, E, F, b2⟩ := hrel
    have HB : Hid (Below w.heap.size w wr) := b2
    have HE : Hid (ExtAt wr G T) := E
    have HF : Hid (RExtAt wr (G + 1) T) := F
    have HT : Hid (T = 0 ∨ 65536 ≤ T) := t1
    clear b2 E F t1
    by_cases hjn : j < n
    · have i1 : (j : Int) < (n : Int) := by omega
      obtain ⟨b', o', rfl, hc⟩ := HX.out (by omega)
      have lb := cell_lt (hc j hjn)
      have c1 : wr.cell? ⟨b', o' + j, none⟩ = some (.int .u16 (x j : Int)) := (HB.out.cell (p := ⟨b', o' + j, none⟩) lb).trans (hc j hjn)
      have hne : b' ≠ G := by omega
      have hne' : b' ≠ G + 1 := by omega
      have r1 := hr j
      clear hc lb
      generalize x j = v at *
      go_wp2_with fail
      refine wp_region_held (S := fun W => W.cell? ⟨b', o' + j, none⟩ = some (.int .u16 (v : Int))) (by kernel_rfl) ?_
      change wpAnyH _ _ _ _ _ _ _ _ wr.drew
      have hr : wr.drew.cell? ⟨b', o' + j, none⟩ = some (.int .u16 (v : Int)) := c1
      have HB : Hid (Below w.heap.size w wr.drew) := HB.out.drew
      have HE : Hid (ExtAt wr.drew G T) := HE.out.same ⟨1, rfl⟩
      have HF : Hid (RExtAt wr.drew (G + 1) T) := HF.out.same ⟨1, rfl⟩
      generalize wr.drew = w5 at *
      refine wpAnyH_take (i := 0) (v := .pointer (some ⟨G, 0, none⟩)) rfl (by kernel_rfl) (by kernel_rfl) (by kernel_rfl) (fun _ _ _ h => h) (Yields.yieldsIf (Or.inl ⟨by kernel_rfl, fun _ => by kernel_rfl⟩)) hr ?_
      refine wpAnyH_take (i := 1) (v := .slice (some ⟨b', o', none⟩) n cap2) rfl (by kernel_rfl) (by kernel_rfl) (by kernel_rfl) (fun _ _ _ h => h) (Yields.yieldsIf (Or.inl ⟨by kernel_rfl, fun _ => by kernel_rfl⟩)) hr ?_
      refine wpAnyH_take (i := 2) (v := .int .i64 (j : Int)) rfl (by kernel_rfl) (by kernel_rfl) (by kernel_rfl) (fun _ _ _ h => h) (Yields.yieldsIf (Or.inl ⟨by kernel_rfl, fun _ => by kernel_rfl⟩)) hr ?_
      refine wpAnyH_take (i := 3) (v := .pointer (some ⟨b', o' + j, none⟩)) rfl (by kernel_rfl) (by kernel_rfl) (by kernel_rfl) (fun _ _ _ h => h) (Yields.yieldsIf (Or.inl ⟨by kernel_rfl, fun _ => by go_simp⟩)) hr ?_
      refine wpAnyH_take (i := 4) (v := .int .u16 (v : Int)) rfl (by kernel_rfl) (by kernel_rfl) (by kernel_rfl) (fun _ _ _ h => h) (Or.inl ⟨by kernel_rfl, fun W hW => by have g := hW; go_simp⟩) hr ?_
      refine wpAnyH_take (i := 6) (v := .pointer (some ⟨G + 1, 0, none⟩)) rfl (by kernel_rfl) (by kernel_rfl) (by kernel_rfl) (fun _ _ _ h => h) (Yields.yieldsIf (Or.inl ⟨by kernel_rfl, fun _ => by kernel_rfl⟩)) hr ?_
      refine wpAnyH_take (i := 7) (v := .slice (some ⟨b', o', none⟩) n cap2) rfl (by kernel_rfl) (by kernel_rfl) (by kernel_rfl) (fun _ _ _ h => h) (Yields.yieldsIf (Or.inl ⟨by kernel_rfl, fun _ => by kernel_rfl⟩)) hr ?_
      refine wpAnyH_take (i := 8) (v := .int .i64 (j : Int)) rfl (by kernel_rfl) (by kernel_rfl) (by kernel_rfl) (fun _ _ _ h => h) (Yields.yieldsIf (Or.inl ⟨by kernel_rfl, fun _ => by kernel_rfl⟩)) hr ?_
      refine wpAnyH_take (i := 9) (v := .pointer (some ⟨b', o' + j, none⟩)) rfl (by kernel_rfl) (by kernel_rfl) (by kernel_rfl) (fun _ _ _ h => h) (Yields.yieldsIf (Or.inl ⟨by kernel_rfl, fun _ => by go_simp⟩)) hr ?_
      refine wpAnyH_take (i := 10) (v := .int .u16 (v : Int)) rfl (by kernel_rfl) (by kernel_rfl) (by kernel_rfl) (fun _ _ _ h => h) (Or.inl ⟨by kernel_rfl, fun W hW => by have g := hW; go_simp⟩) hr ?_
      refine wpAnyH_ready (rs := [5]) (by kernel_rfl) (by simp) ?_
      refine AllReadyH.cons rfl (fun K2 hK2 => ?_) AllReadyH.nil
      go_simp
      refine Calls.mono (extend_any G T v w5 HE.out r1 HT.out (by omega)) ?_
      rintro e w6 ⟨rfl, E6, k6, z6⟩
      refine hK2.out _ _ (k6.cell hr hne) (fun hr => ?_)
      clear hK2 K2
      have F6 := HF.out.kept k6 (by omega)
      have B6 := HB.out.trans (k6.below h0 HB.out.size)
      refine wpAnyH_ready (rs := [11]) (by kernel_rfl) (by simp) ?_
      refine AllReadyH.cons rfl (fun K2 hK2 => ?_) AllReadyH.nil
      go_simp
      refine Calls.mono (rextend_any (G + 1) T v w6 F6 r1 HT.out (by omega)) ?_
      rintro e w7 ⟨rfl, F7, k7, z7⟩
      refine hK2.out _ _ (k7.cell hr hne') (fun hr => ?_)
      clear hK2 K2
      refine wpAnyH_take (i := 12) (v := .bool false) rfl (by kernel_rfl) (by kernel_rfl) (by kernel_rfl) (fun _ _ _ h => h) (Yields.yieldsIf (Or.inl ⟨by kernel_rfl, fun _ => by go_simp⟩)) hr ?_
      refine wpAnyH_done (by kernel_rfl) ?_ _
      have E7 := E6.kept k7 (by omega)
      have HU : Hid (65536 ≤ Ser.top T v ∧ Ser.top T v ≤ max T 65536 + 65535) := top_near HT.out r1
      generalize Ser.top T v = U at *
      obtain ⟨u1, u2⟩ := HU.out
      have HB : Hid (Below w.heap.size w w7) := B6.trans (k7.below (Nat.le_succ_of_le h0) B6.size)
      have HE : Hid (ExtAt w7 G U) := E7
      have HF : Hid (RExtAt w7 (G + 1) U) := F7
      have f0 : w7.cell? ⟨G + 1, 0, none⟩ = some (.bool true) := by rw [F7.any, decide_eq_true (show U ≠ 0 by omega)]
      have f1 := F7.cell
      have l3 := bound u2 t2
      clear E6 k6 z6 k7 z7 F6 B6 F7 E7 hr t2
      go_wp2_with fail
      refine (top_any G U _ HE.out).mono ?_
      rw [decide_eq_true (show U ≠ 0 by omega)]
      rintro e w8 ⟨rfl, rfl⟩
      go_wp2
      go_roundw
      case rel => exact ⟨j + 1, U, by omega, by go_num, .inr u1, l3, HE.out, HF.out, HB.out⟩
      case measure => simp [intOf]; omega
    · obtain rfl : j = n := by omega
      go_wp2_with fail
      refine (top_nil _).mono ?_
      rintro e w3 ⟨rfl, rfl⟩
      go_wp2_with fail
      refine (less_any a b _).mono ?_
      rintro e w4 ⟨rfl, rfl⟩
      go_wp2_with fail
      refine (rless_any a b _ ha hb).mono ?_
      rintro e w5 ⟨rfl, rfl⟩
      go_wp2_with fail
      refine (diff_any a b _).mono ?_
      rintro e w6 ⟨rfl, rfl⟩
      go_wp2_with fail
      refine (rdiff_any a b _ ha hb).mono ?_
      rintro e w7 ⟨rfl, rfl⟩
      go_wp2_with fail
      refine (extend_nil _ _).mono ?_
      rintro e w8 ⟨rfl, rfl⟩
      go_wp2
      go_ret
      exact ⟨rfl, HB.out⟩

set_option maxRecDepth 100000 in
set_option maxHeartbeats 400000 in
theorem long (a0 a1 : Int) (a2 : Option Addr) (n cap2 : Nat) (w : World) (hn : 60 < n) :
    Calls Try.prog 3 #[.int .u16 a0, .int .u16 a1, .slice a2 n cap2] w fun e w' => e = .returned (.bool true) ∧ Below w.heap.size w w' := by
  have i60 : (60 : Int) < (n : Int) := by omega
  go_enter Try.func3, Try.ntmps3
  go_wp2_with fail
  refine (begun8 _).mono ?_
  rintro e w0 ⟨rfl, b0⟩
  go_wp2
  go_ret
  exact ⟨rfl, b0⟩
theorem walk (a0 : Int) (a1 : Int) (a2 : Option Addr) (len2 cap2 : Nat) (z2 : List Int) (w : World) (w0 : (Lit.int .u16 a0).wf = true) (w1 : (Lit.int .u16 a1).wf = true) (w2 : IsRow .u16 w a2 len2 cap2 z2) :
    Calls Try.prog 3 #[.int .u16 a0, .int .u16 a1, .slice a2 len2 cap2] w fun e w' => e = .returned (.bool true) ∧ Below w.heap.size w w' := by
  have r2 : CameAs .u16 w a2 len2 cap2 z2 := w2
  obtain ⟨h2, k2⟩ := r2.nums
  by_cases hn : len2 ≤ 60
  · have b0 := bounds_u16 w0
    have b1 := bounds_u16 w1
    obtain ⟨a, rfl⟩ : ∃ n : Nat, a0 = n := ⟨a0.toNat, by omega⟩
    obtain ⟨b, rfl⟩ : ∃ n : Nat, a1 = n := ⟨a1.toNat, by omega⟩
    have g : NumsAt .u16 w a2 len2 (fun i => ((z2[i]?.getD 0).toNat : Int)) := fun h => by
      obtain ⟨b', o', e, hc⟩ := h2 h
      exact ⟨b', o', e, fun i hi => by rw [hc i hi]; show _ = some (Value.int .u16 ((z2[i]?.getD 0).toNat : Int)); rw [Int.toNat_of_nonneg (range_u16 k2 i).1]⟩
    exact core a b a2 len2 cap2 _ w (by omega) (by omega) g hn (fun i => by have := range_u16 k2 i; omega)
  · exact long a0 a1 a2 len2 cap2 w (by omega)

/-! ### THE ROW's STEP: WRITTEN OUT: LEAVE IT -/
set_option maxRecDepth 100000 in
theorem lifted (os : Os) (started : os.Started) (H : Type) (enc : TypeId × Value → H) :
    ReturnsInHanded {} Try.checked os 3 .any (Rows.serialAllSpec.pre6 enc Try.prog Try.f3 Rows.serialAllRow.domain false) (Rows.serialAllSpec.post enc Try.prog Try.f3 false true false false) := by
  refine returnsInHanded_of_change (C := Try.checked) own started (by kernel_rfl) Try.func3
    (ChangeSpec.witness6 (enc := enc) (C := Try.checked) false ⟨#[], #[.int .u16 0, .int .u16 0, .slice none 0 0], []⟩ 8 (by kernel_rfl) (by kernel_rfl) (by kernel_rfl) (by kernel_rfl)) ?_
  intro W base args ds gs before hval0 hW hcnd _
  have hval : ∀ (j : Nat) t v, Try.f3.params[j]? = some t → args[j]? = some v → Value.okWide Try.prog W .any base t v := hval0
  have hW' := hW
  obtain ⟨p, q, hA0, hV, rfl, hfz, hnd⟩ := hW
  have hA : DataW.TrodAll enc Try.prog W 0 (fun _ => true) true Try.f3.params.toList args.toList ds p := hA0
  rw [Try.params3] at hA hval
  obtain ⟨v0, vs0, d0, ds0, p0, q0, hargs, rfl, rfl, h0, r0⟩ := trodAll_cons hA
  obtain ⟨v1, vs1, d1, ds1, p1, q1, rfl, rfl, rfl, h1, r1⟩ := trodAll_cons r0
  obtain ⟨v2, vs2, d2, ds2, p2, q2, rfl, rfl, rfl, h2, r2⟩ := trodAll_cons r1
  obtain ⟨rfl, rfl, rfl⟩ := trodAll_nil r2
  obtain rfl : args = #[v0, v1, v2] := by cases args; simp_all
  obtain ⟨rfl, rfl⟩ := trodVars_none hV
  obtain ⟨a0, rfl, rfl, rfl, w0⟩ := open_int Try.underlying22 (hval 0 22 v0 rfl rfl) h0
  obtain ⟨a1, rfl, rfl, rfl, w1⟩ := open_int Try.underlying22 (hval 1 22 v1 rfl rfl) h1
  obtain ⟨a2, len2, cap2, rfl⟩ := okWide_slice Try.underlying23 (hval 2 23 v2 rfl rfl)
  have k2 := h2
  have lt2 : ∀ x ∈ p2, x.block < W.heap.size := by obtain ⟨m, hm⟩ := k2; exact DataW.trod_lt m _ _ _ hm
  obtain ⟨z2, w2⟩ : ∃ zs, IsRow .u16 W a2 len2 cap2 zs := by
    obtain ⟨fuel, hf⟩ := h2
    rcases open_ints Try.underlying23 Try.underlying22 (by kernel_rfl) hf with ⟨hcs, _⟩ | ⟨x, l, c, zs, hcs, _, hl, hm, hz, _, hcell, hwz⟩
    · simp [Value.cells] at hcs
      obtain ⟨rfl, rfl, rfl⟩ := hcs
      exact ⟨[], .inl ⟨rfl, rfl, rfl, rfl⟩⟩
    · simp [Value.cells] at hcs
      obtain ⟨rfl, rfl, rfl⟩ := hcs
      exact ⟨zs, .inr ⟨_, rfl, hl, hm, by simpa using hz, hcell, hwz⟩⟩
  clear hA0 hval0
  refine (walk a0 a1 a2 len2 cap2 z2 W w0 w1 w2).mono fun e W' ⟨he, bel⟩ => ?_
  subst he
  exact ⟨_, rfl, _, _, _, [], _, [], hW', trodAll_mk1 (shut_bool Try.underlying4 _), (trodAll_cons_mk (shut_int Try.underlying22 w0) (trodAll_cons_mk (shut_int Try.underlying22 w1) (trodAll_cons_mk (Below.trod laidOut (by kernel_rfl) (of_decide_eq_true (by kernel_rfl)) k2 bel lt2) trodAll_mk0))), rfl, bel.frame _, fun h => by cases h⟩

theorem over : Rows.serialAllRow.holds Try.pinned (OpenSpec.ofChange Rows.serialAllSpec) :=
  OpenClaim.holds_of_wide 3 Try.f3 rfl rfl rfl rfl rfl rfl rfl ⟨rfl, rfl, rfl, rfl, rfl⟩ rfl rfl rfl rfl rfl (by kernel_rfl) Try.func3 (by kernel_rfl)
    (of_decide_eq_true (by kernel_rfl)) (by unfold Func.isWrapper; first | (rw [if_pos (by decide +kernel)]; kernel_rfl) | (rw [if_neg (by decide +kernel)]; exact ⟨rfl, rfl⟩))
    (fun os started H enc _ => lifted os started H enc)

theorem proved : Rows.SerialAllSaid := over
end Go.Proofs.Ytclgoaimbdaehaa.serialAll
namespace Go.Proofs.Ytclgoaimbdaehaa
theorem serialAll_holds : Rows.SerialAllSaid := serialAll.proved
#print axioms serialAll_holds
end Go.Proofs.Ytclgoaimbdaehaa

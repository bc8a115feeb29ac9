/-
  Numbers that come at most 32,767 from the greatest one so far are told as they are: the call returns true, wherever it begins and whatever the ways are (at most 60 ways are looked at; no condition).
-/
import Derived.Test.YtclgoaimbdaehaaRows
import Derived.WalkKit
import Derived.ProofKit
import Derived.OpenShut
import Derived.ShutString
import Derived.ChangeOld
import Derived.Below
import Derived.Test.YtclgoaimbdaehaaSeb
import Derived.Test.YtclgoaimbdaehaaNms
namespace Go.Proofs.Ytclgoaimbdaehaa.serialWindow
open Go.ChangeShapes Go.WideShapes Go.ChangeAt Go.RowKit
open Go.ChangeMaps (open_string shut_string)
set_option linter.unusedVariables false

theorem own : ownKnob Try.prog.godebug = none := by kernel_rfl
theorem laidOut : laidOutB Try.prog = true := by kernel_rfl

/-- WHAT THE WALK IS TOLD OF A SLICE OF INTEGERS THAT CAME IN: it is nil; or it leads to a row of 'cap' cells, the numbers 'zs' (the first 'len' are its elements, the rest its spare room), each fitting its kind. -/
def IsRow (k : IntKind) (w : World) (a : Option Addr) (len cap : Nat) (zs : List Int) : Prop :=
  (a = none ∧ len = 0 ∧ cap = 0 ∧ zs = []) ∨
  ∃ x, a = some x ∧ len ≤ cap ∧ cap ≤ maxLen ∧ zs.length = cap ∧ (∀ i, i < zs.length → w.cell? (x.add i) = some (.int k (zs.getD i 0))) ∧ ∀ n ∈ zs, (Lit.int k n).wf = true

open Go.Deep

theorem far_near {T X : Nat} (v : Int) (h : 65536 ≤ T) (hv : -32767 ≤ v) (hv' : v ≤ 32767) (e : (T : Int) + v = X) : Ser.far T (X % 65536) = X := by
  have hf := Ser.far_pos (X % 65536) h
  have hd : Ser.dif (T % 65536) (X % 65536) = v := by
    unfold Ser.dif
    split <;> omega
  rw [hd] at hf
  omega

set_option maxRecDepth 100000 in
set_option maxHeartbeats 1000000 in
theorem core (f : Nat) (a1 : Option Addr) (n cap1 : Nat) (x : Nat → Int) (w : World) (hf : f < 65536) (hx : NumsAt .i16 w a1 n x) (hn : n ≤ 60) (hr : ∀ i, -32768 ≤ x i ∧ x i ≤ 32767) :
    Calls Try.prog 5 #[.int .u16 (f : Int), .slice a1 n cap1] w fun e w' => e = .returned (.bool true) ∧ Below w.heap.size w w' := by
  have HX : Hid (NumsAt .i16 w a1 n x) := hx
  have i60 : decide ((60 : Int) < (n : Int)) = false := by simp; omega
  clear hx
  go_enter Try.func5, Try.ntmps5
  go_wp2_with fail
  refine (begun8 _).mono ?_
  rintro e w0 ⟨rfl, b0⟩
  go_wp2_with fail
  refine (ext_new _).mono ?_
  rintro e w1 ⟨rfl, E1, d1, z1⟩
  have b1 := b0.trans (d1.mono b0.size)
  have h0 := b0.size
  clear b0 d1 z1
  generalize w0.heap.size = G at *
  go_wp2_with fail
  refine (extend_any G 0 f _ E1 hf (.inl rfl) (by decide)).mono ?_
  rw [show Ser.far 0 f = 65536 + f from rfl, show Ser.top 0 f = 65536 + f by unfold Ser.top; rw [Ser.far_zero]; omega]
  rintro e w2 ⟨rfl, E2, k2, z2⟩
  have b2 := b1.trans (k2.below h0 b1.size)
  have HB : Hid (Below w.heap.size w w2) := b2
  have HE : Hid (ExtAt w2 G (65536 + f)) := E2
  clear b1 k2 z2 E1 b2 E2
  go_wp2_with fail
  go_loopw [6, 7] (fun t i wr => ∃ j T : Nat, j ≤ n ∧ t = .int .u64 T ∧ i = .int .i64 j ∧ 65536 ≤ T ∧ T ≤ 131071 + 32767 * j ∧ ExtAt wr G T ∧ Below w.heap.size w wr) (fun _ i _ => n - (intOf i).toNat)
  case atStart => exact ⟨0, 65536 + f, Nat.zero_le _, by rw [Int.natCast_add]; rfl, rfl, by omega, by omega, HE.out, HB.out⟩
  case round =>
    clear HE HB
    obtain ⟨j, T, hj, rfl, rfl, t1, t2, E, b⟩ := hrel
    have HB : Hid (Below w.heap.size w wr) := b
    have HE : Hid (ExtAt wr G T) := E
    clear b E
    by_cases hjn : j < n
    · have i1 : (j : Int) < (n : Int) := by omega
      have X3 := HX.out.below HB.out (Nat.le_refl _)
      obtain ⟨b', o', rfl, hc⟩ := X3 (by omega)
      have c1 := hc j hjn
      have r1 := hr j
      clear X3 hc
      generalize x j = v at *
      by_cases hv : v = -32768
      · subst hv
        go_wp2
        go_roundw
        case rel => exact ⟨j + 1, T, by omega, rfl, by go_num, t1, by omega, HE.out, HB.out⟩
        case measure => simp [intOf]; omega
      · have hv' : (v == -32768) = false := by simp [hv]
        obtain ⟨X, eX⟩ : ∃ X : Nat, (T : Int) + v = X := ⟨((T : Int) + v).toNat, by omega⟩
        have hF := far_near v t1 (by omega) (by omega) eX
        have HF : Hid (Ser.far T (X % 65536) = X) := hF
        clear hF
        have l1 : 0 ≤ (T : Int) + v := by omega
        have l2 : (T : Int) + v < 10000000 := by omega
        have HE1 : Hid ((T : Int) + v = X) := eX
        clear eX
        go_wp2_with fail
        rw [HE1.out]
        rw [HE1.out] at l2
        have l3 : T ≤ 1000000000000 := by omega
        have l4 : X ≤ 131071 + 32767 * (j + 1) := by have := HE1.out; omega
        clear l1 l2 hv' c1
        refine (extend_any G T (X % 65536) _ HE.out (Nat.mod_lt _ (by decide)) (.inr t1) l3).mono ?_
        rw [Ser.top, HF.out]
        rintro e w3 ⟨rfl, E3, k3, z3⟩
        have HB3 : Hid (Below w.heap.size w w3) := HB.out.trans (k3.below h0 HB.out.size)
        have HE3 : Hid (ExtAt w3 G (max T X)) := E3
        clear HE HB E3 k3 z3 HE1 HF
        go_wp2_with fail
        · have E3 := HE3.out
          rw [Nat.max_eq_right (by omega)] at E3
          have HE4 : Hid (ExtAt w3 G X) := E3
          refine (top_any G X _ E3).mono ?_
          rw [decide_eq_true (show X ≠ 0 by omega)]
          rintro e w4 ⟨rfl, rfl⟩
          clear E3 HE3
          go_wp2
          go_roundw
          case rel => exact ⟨j + 1, X, by omega, rfl, by go_num, by omega, by omega, HE4.out, HB3.out⟩
          case measure => simp [intOf]; omega
        · have E3 := HE3.out
          rw [Nat.max_eq_left (by omega)] at E3
          have HE4 : Hid (ExtAt w3 G T) := E3
          refine (top_any G T _ E3).mono ?_
          rw [decide_eq_true (show T ≠ 0 by omega)]
          rintro e w4 ⟨rfl, rfl⟩
          clear E3 HE3
          go_wp2
          go_roundw
          case rel => exact ⟨j + 1, T, by omega, rfl, by go_num, by omega, by omega, HE4.out, HB3.out⟩
          case measure => simp [intOf]; omega
    · obtain rfl : j = n := by omega
      go_wp2
      go_ret
      exact ⟨rfl, HB.out⟩

set_option maxRecDepth 100000 in
set_option maxHeartbeats 400000 in
theorem long (a0 : Int) (a1 : Option Addr) (n cap1 : Nat) (w : World) (hn : 60 < n) :
    Calls Try.prog 5 #[.int .u16 a0, .slice a1 n cap1] w fun e w' => e = .returned (.bool true) ∧ Below w.heap.size w w' := by
  have i60 : (60 : Int) < (n : Int) := by omega
  go_enter Try.func5, Try.ntmps5
  go_wp2_with fail
  refine (begun8 _).mono ?_
  rintro e w0 ⟨rfl, b0⟩
  go_wp2
  go_ret
  exact ⟨rfl, b0⟩
theorem walk (a0 : Int) (a1 : Option Addr) (len1 cap1 : Nat) (z1 : List Int) (w : World) (w0 : (Lit.int .u16 a0).wf = true) (w1 : IsRow .i16 w a1 len1 cap1 z1) :
    Calls Try.prog 5 #[.int .u16 a0, .slice a1 len1 cap1] w fun e w' => e = .returned (.bool true) ∧ Below w.heap.size w w' := by
  have r1 : CameAs .i16 w a1 len1 cap1 z1 := w1
  obtain ⟨h1, k1⟩ := r1.nums
  by_cases hn : len1 ≤ 60
  · have b0 := bounds_u16 w0
    obtain ⟨f, rfl⟩ : ∃ n : Nat, a0 = n := ⟨a0.toNat, by omega⟩
    exact core f a1 len1 cap1 _ w (by omega) h1 hn (fun i => range_i16 k1 i)
  · exact long a0 a1 len1 cap1 w (by omega)

/-! ### THE ROW's STEP: WRITTEN OUT: LEAVE IT -/
set_option maxRecDepth 100000 in
theorem lifted (os : Os) (started : os.Started) (H : Type) (enc : TypeId × Value → H) :
    ReturnsInHanded {} Try.checked os 5 .any (Rows.serialWindowSpec.pre6 enc Try.prog Try.f5 Rows.serialWindowRow.domain false) (Rows.serialWindowSpec.post enc Try.prog Try.f5 false true false false) := by
  refine returnsInHanded_of_change (C := Try.checked) own started (by kernel_rfl) Try.func5
    (ChangeSpec.witness6 (enc := enc) (C := Try.checked) false ⟨#[], #[.int .u16 0, .slice none 0 0], []⟩ 8 (by kernel_rfl) (by kernel_rfl) (by kernel_rfl) (by kernel_rfl)) ?_
  intro W base args ds gs before hval0 hW hcnd _
  have hval : ∀ (j : Nat) t v, Try.f5.params[j]? = some t → args[j]? = some v → Value.okWide Try.prog W .any base t v := hval0
  have hW' := hW
  obtain ⟨p, q, hA0, hV, rfl, hfz, hnd⟩ := hW
  have hA : DataW.TrodAll enc Try.prog W 0 (fun _ => true) true Try.f5.params.toList args.toList ds p := hA0
  rw [Try.params5] at hA hval
  obtain ⟨v0, vs0, d0, ds0, p0, q0, hargs, rfl, rfl, h0, r0⟩ := trodAll_cons hA
  obtain ⟨v1, vs1, d1, ds1, p1, q1, rfl, rfl, rfl, h1, r1⟩ := trodAll_cons r0
  obtain ⟨rfl, rfl, rfl⟩ := trodAll_nil r1
  obtain rfl : args = #[v0, v1] := by cases args; simp_all
  obtain ⟨rfl, rfl⟩ := trodVars_none hV
  obtain ⟨a0, rfl, rfl, rfl, w0⟩ := open_int Try.underlying22 (hval 0 22 v0 rfl rfl) h0
  obtain ⟨a1, len1, cap1, rfl⟩ := okWide_slice Try.underlying38 (hval 1 38 v1 rfl rfl)
  have k1 := h1
  have lt1 : ∀ x ∈ p1, x.block < W.heap.size := by obtain ⟨m, hm⟩ := k1; exact DataW.trod_lt m _ _ _ hm
  obtain ⟨z1, w1⟩ : ∃ zs, IsRow .i16 W a1 len1 cap1 zs := by
    obtain ⟨fuel, hf⟩ := h1
    rcases open_ints Try.underlying38 Try.underlying39 (by kernel_rfl) hf with ⟨hcs, _⟩ | ⟨x, l, c, zs, hcs, _, hl, hm, hz, _, hcell, hwz⟩
    · simp [Value.cells] at hcs
      obtain ⟨rfl, rfl, rfl⟩ := hcs
      exact ⟨[], .inl ⟨rfl, rfl, rfl, rfl⟩⟩
    · simp [Value.cells] at hcs
      obtain ⟨rfl, rfl, rfl⟩ := hcs
      exact ⟨zs, .inr ⟨_, rfl, hl, hm, by simpa using hz, hcell, hwz⟩⟩
  clear hA0 hval0
  refine (walk a0 a1 len1 cap1 z1 W w0 w1).mono fun e W' ⟨he, bel⟩ => ?_
  subst he
  exact ⟨_, rfl, _, _, _, [], _, [], hW', trodAll_mk1 (shut_bool Try.underlying4 _), (trodAll_cons_mk (shut_int Try.underlying22 w0) (trodAll_cons_mk (Below.trod laidOut (by kernel_rfl) (of_decide_eq_true (by kernel_rfl)) k1 bel lt1) trodAll_mk0)), rfl, bel.frame _, fun h => by cases h⟩

theorem over : Rows.serialWindowRow.holds Try.pinned (OpenSpec.ofChange Rows.serialWindowSpec) :=
  OpenClaim.holds_of_wide 5 Try.f5 rfl rfl rfl rfl rfl rfl rfl ⟨rfl, rfl, rfl, rfl, rfl⟩ rfl rfl rfl rfl rfl (by kernel_rfl) Try.func5 (by kernel_rfl)
    (of_decide_eq_true (by kernel_rfl)) (by unfold Func.isWrapper; first | (rw [if_pos (by decide +kernel)]; kernel_rfl) | (rw [if_neg (by decide +kernel)]; exact ⟨rfl, rfl⟩))
    (fun os started H enc _ => lifted os started H enc)

theorem proved : Rows.SerialWindowSaid := over
end Go.Proofs.Ytclgoaimbdaehaa.serialWindow
namespace Go.Proofs.Ytclgoaimbdaehaa
theorem serialWindow_holds : Rows.SerialWindowSaid := serialWindow.proved
#print axioms serialWindow_holds
end Go.Proofs.Ytclgoaimbdaehaa

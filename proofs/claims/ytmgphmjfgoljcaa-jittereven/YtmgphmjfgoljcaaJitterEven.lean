/-
  What comes evenly has none: the call returns true, whatever the way and the times are (at most 60 times are looked at; no condition).
-/
import Derived.Test.YtmgphmjfgoljcaaRows
import Derived.WalkKit
import Derived.ProofKit
import Derived.OpenShut
import Derived.ShutString
import Derived.ChangeOld
import Derived.Below
import Derived.Test.YtmgphmjfgoljcaaJi2
import Derived.Test.YtmgphmjfgoljcaaNms
namespace Go.Proofs.Ytmgphmjfgoljcaa.jitterEven
open Go.ChangeShapes Go.WideShapes Go.ChangeAt Go.RowKit
open Go.ChangeMaps (open_string shut_string)
set_option linter.unusedVariables false

theorem own : ownKnob Try.prog.godebug = none := by kernel_rfl
theorem laidOut : laidOutB Try.prog = true := by kernel_rfl

/-- WHAT THE WALK IS TOLD OF A SLICE OF INTEGERS THAT CAME IN: it is nil; or it leads to a row of 'cap' cells, the numbers 'zs' (the first 'len' are its elements, the rest its spare room), each fitting its kind. -/
def IsRow (k : IntKind) (w : World) (a : Option Addr) (len cap : Nat) (zs : List Int) : Prop :=
  (a = none ∧ len = 0 ∧ cap = 0 ∧ zs = []) ∨
  ∃ x, a = some x ∧ len ≤ cap ∧ cap ≤ maxLen ∧ zs.length = cap ∧ (∀ i, i < zs.length → w.cell? (x.add i) = some (.int k (zs.getD i 0))) ∧ ∀ n ∈ zs, (Lit.int k n).wf = true

open Go.Deep

theorem range_u32 {zs : List Int} (h : ∀ n ∈ zs, (Lit.int .u32 n).wf = true) (i : Nat) : 0 ≤ zs[i]?.getD 0 ∧ zs[i]?.getD 0 ≤ 4294967295 := by
  by_cases hi : i < zs.length
  · rw [List.getElem?_eq_getElem hi]
    exact bounds_u32 (h _ (List.getElem_mem hi))
  · rw [List.getElem?_eq_none (by omega)]
    simp
/-- If a packet came at all, its way was k. -/
def Stands (t : Bool) (q k : Nat) : Prop := t = true → q = k
theorem far_self (k : Nat) : Ji.far k k = 0 := by
  unfold Ji.far Ser.dif
  rw [Int.sub_self]
  rfl
theorem sum_none {t : Bool} {q k : Nat} (h : Stands t q k) : Ji.sum t 0 (Ji.far q k) = 0 := by
  cases t
  · exact Ji.sum_first _ _
  · rw [h rfl, far_self]
    rfl
theorem way_even {T k : Nat} (hk : k < 65536) : Ji.way ((T : Int) + (k : Int)) (T % 65536) = k := by
  unfold Ji.way
  omega

set_option maxRecDepth 100000 in
set_option maxHeartbeats 400000 in
theorem long (k : Int) (a0 : Option Addr) (n ca : Nat) (w : World) (hn : 60 < n) :
    Calls Try.prog 4 #[.int .u16 k, .slice a0 n ca] w fun e w' => e = .returned (.bool true) ∧ Below w.heap.size w w' := by
  have i60 : (60 : Int) < (n : Int) := by omega
  go_enter Try.func4, Try.ntmps4
  go_wp2_with fail
  refine (begun19 _).mono ?_
  rintro e w0 ⟨rfl, b0⟩
  go_wp2
  go_ret
  exact ⟨rfl, b0⟩

set_option maxRecDepth 100000 in
set_option maxHeartbeats 1000000 in
theorem core (k : Nat) (a0 : Option Addr) (n ca : Nat) (x : Nat → Nat) (w : World) (hx : NumsAt .u32 w a0 n (fun i => (x i : Int))) (hn : n ≤ 60) (hrx : ∀ i, x i < 4294967296) (hk : k < 65536) :
    Calls Try.prog 4 #[.int .u16 (k : Int), .slice a0 n ca] w fun e w' => e = .returned (.bool true) ∧ Below w.heap.size w w' := by
  have w64 : ∀ x : Int, -9223372036854775808 ≤ x → x < 9223372036854775808 → IntKind.i64.wrap x = x := fun x h1 h2 => by
    simp only [IntKind.wrap, IntKind.bits, IntKind.signed]; simp; omega
  have HW : Hid (∀ x : Int, -9223372036854775808 ≤ x → x < 9223372036854775808 → IntKind.i64.wrap x = x) := w64
  have HX : Hid (NumsAt .u32 w a0 n (fun i => (x i : Int))) := hx
  have HRX : Hid (∀ i, x i < 4294967296) := hrx
  have HK : Hid (k < 65536) := hk
  have i60 : decide ((60 : Int) < (n : Int)) = false := by simp; omega
  have ek : IntKind.i64.wrap (k : Int) = k := w64 _ (by omega) (by omega)
  clear hx hrx hk w64
  go_enter Try.func4, Try.ntmps4
  go_wp2_with fail
  refine (begun19 _).mono ?_
  rintro e w0 ⟨rfl, b0⟩
  go_wp2_with fail
  refine (jitter_new _).mono ?_
  rintro e w1 ⟨rfl, M1, d1, -⟩
  have b1 := b0.trans (d1.mono b0.size)
  have h0 := b0.size
  have HM : Hid (JiAt w1 w0.heap.size false 0 0) := M1
  have HB : Hid (Below w.heap.size w w1) := b1
  clear b0 d1 b1 M1
  generalize w0.heap.size = G at *
  go_wp2_with fail
  go_loopw [6] (fun i wr => ∃ (j q : Nat) (t : Bool), j ≤ n ∧ i = .int .i64 j ∧ Hid (Stands t q k) ∧ Hid (JiAt wr G t q 0) ∧ Hid (Below w.heap.size w wr)) (fun i _ => n - (intOf i).toNat)
  case atStart =>
    have h1 : Hid (Stands false 0 k) := fun h => absurd h (by decide)
    exact ⟨0, 0, false, Nat.zero_le _, rfl, h1, HM, HB⟩
  case round =>
    clear HM HB
    obtain ⟨j, q, t, hj, rfl, HS, HM, HB⟩ := hrel
    by_cases hjn : j < n
    · have i1 : (j : Int) < (n : Int) := by omega
      obtain ⟨ba, oa, rfl, hca⟩ := HX.out (by omega)
      have la := cell_lt (hca j hjn)
      have c1 : wr.cell? ⟨ba, oa + j, none⟩ = some (.int .u32 (x j : Int)) := (HB.out.cell (p := ⟨ba, oa + j, none⟩) la).trans (hca j hjn)
      have hP := HRX.out j
      have hk := HK.out
      clear hca la
      generalize x j = T at *
      obtain ⟨N, hN⟩ : ∃ N : Nat, (T : Int) + (k : Int) = (N : Int) := ⟨T + k, by omega⟩
      obtain ⟨R, hR⟩ : ∃ R, T % 65536 = R := ⟨_, rfl⟩
      have e1 : IntKind.i64.wrap (T : Int) = T := HW.out _ (by omega) (by omega)
      have e2 : IntKind.i64.wrap (N : Int) = N := HW.out _ (by omega) (by omega)
      have e3 : (T : Int).tmod 65536 = (R : Int) := by rw [Int.tmod_eq_emod_of_nonneg (by omega)]; omega
      have e4 : (T : Int) % 65536 = (R : Int) := by omega
      have e5 : IntKind.u32.wrap (R : Int) = R := by simp only [IntKind.wrap, IntKind.bits, IntKind.signed]; simp; omega
      have e6 : IntKind.u16.wrap (R : Int) = R := by rw [IntKind.wrap_u16]; omega
      have HA : Hid (Ji.way (N : Int) R = k) := by rw [← hN, ← hR]; exact way_even hk
      have HR : Hid (R < 65536) := by show R < 65536; omega
      have hA : ∀ W, Hid (JiAt W G t q 0 → Calls Try.prog 9 #[.pointer (some ⟨G, 0, none⟩), .int .u16 (R : Int), .int .i64 (N : Int)] W fun e w' => e = .returned (.tuple #[]) ∧ JiAt w' G true k 0 ∧ Kept G W w') := fun W hm =>
        (jadd_any G q 0 R N t W hm (by decide) HR.out).mono fun e w' h => by
          rw [HA.out, sum_none HS.out] at h
          exact ⟨h.1, h.2.1, h.2.2.1⟩
      clear hR hP hk HA HR HS
      go_wp2_with fail
      refine ((hA _).out HM.out).mono ?_
      rintro e w3 ⟨rfl, M3, k3⟩
      have HM3 : Hid (JiAt w3 G true k 0) := M3
      have HB3 : Hid (Below w.heap.size w w3) := HB.out.trans (k3.below h0 HB.out.size)
      clear HM HB M3 k3 hA c1
      go_wp2_with fail
      refine (jval_any G k 0 true _ HM3.out (by decide)).mono ?_
      rintro e w4 ⟨rfl, rfl⟩
      have HS3 : Hid (Stands true k k) := fun _ => rfl
      go_wp2
      go_roundw
      case rel => exact ⟨j + 1, k, true, by omega, by go_num, HS3, HM3, HB3⟩
      case measure => simp [intOf]; omega
    · obtain rfl : j = n := by omega
      clear HM HS
      go_wp2
      go_ret
      exact ⟨rfl, HB.out⟩
theorem walk (a0 : Int) (a1 : Option Addr) (len1 cap1 : Nat) (z1 : List Int) (w : World) (w0 : (Lit.int .u16 a0).wf = true) (w1 : IsRow .u32 w a1 len1 cap1 z1) :
    Calls Try.prog 4 #[.int .u16 a0, .slice a1 len1 cap1] w fun e w' => e = .returned (.bool true) ∧ Below w.heap.size w w' := by
  have r1 : CameAs .u32 w a1 len1 cap1 z1 := w1
  obtain ⟨h1, k1⟩ := r1.nums
  have b0 := bounds_u16 w0
  by_cases hn : len1 ≤ 60
  · obtain ⟨k, rfl⟩ : ∃ n : Nat, a0 = n := ⟨a0.toNat, by omega⟩
    have g1 : NumsAt .u32 w a1 len1 (fun i => ((z1[i]?.getD 0).toNat : Int)) := fun h => by
      obtain ⟨b', o', e, hc⟩ := h1 h
      exact ⟨b', o', e, fun i hi => by rw [hc i hi]; show _ = some (Value.int .u32 ((z1[i]?.getD 0).toNat : Int)); rw [Int.toNat_of_nonneg (range_u32 k1 i).1]⟩
    exact core k a1 len1 cap1 _ w g1 hn (fun i => by have := range_u32 k1 i; omega) (by omega)
  · exact long a0 a1 len1 cap1 w (by omega)

/-! ### THE ROW's STEP: WRITTEN OUT: LEAVE IT -/
set_option maxRecDepth 100000 in
theorem lifted (os : Os) (started : os.Started) (H : Type) (enc : TypeId × Value → H) :
    ReturnsInHanded {} Try.checked os 4 .any (Rows.jitterEvenSpec.pre6 enc Try.prog Try.f4 Rows.jitterEvenRow.domain false) (Rows.jitterEvenSpec.post enc Try.prog Try.f4 false true false false) := by
  refine returnsInHanded_of_change (C := Try.checked) own started (by kernel_rfl) Try.func4
    (ChangeSpec.witness6 (enc := enc) (C := Try.checked) false ⟨#[], #[.int .u16 0, .slice none 0 0], []⟩ 8 (by kernel_rfl) (by kernel_rfl) (by kernel_rfl) (by kernel_rfl)) ?_
  intro W base args ds gs before hval0 hW hcnd _
  have hval : ∀ (j : Nat) t v, Try.f4.params[j]? = some t → args[j]? = some v → Value.okWide Try.prog W .any base t v := hval0
  have hW' := hW
  obtain ⟨p, q, hA0, hV, rfl, hfz, hnd⟩ := hW
  have hA : DataW.TrodAll enc Try.prog W 0 (fun _ => true) true Try.f4.params.toList args.toList ds p := hA0
  rw [Try.params4] at hA hval
  obtain ⟨v0, vs0, d0, ds0, p0, q0, hargs, rfl, rfl, h0, r0⟩ := trodAll_cons hA
  obtain ⟨v1, vs1, d1, ds1, p1, q1, rfl, rfl, rfl, h1, r1⟩ := trodAll_cons r0
  obtain ⟨rfl, rfl, rfl⟩ := trodAll_nil r1
  obtain rfl : args = #[v0, v1] := by cases args; simp_all
  obtain ⟨rfl, rfl⟩ := trodVars_none hV
  obtain ⟨a0, rfl, rfl, rfl, w0⟩ := open_int Try.underlying28 (hval 0 28 v0 rfl rfl) h0
  obtain ⟨a1, len1, cap1, rfl⟩ := okWide_slice Try.underlying34 (hval 1 34 v1 rfl rfl)
  have k1 := h1
  have lt1 : ∀ x ∈ p1, x.block < W.heap.size := by obtain ⟨m, hm⟩ := k1; exact DataW.trod_lt m _ _ _ hm
  obtain ⟨z1, w1⟩ : ∃ zs, IsRow .u32 W a1 len1 cap1 zs := by
    obtain ⟨fuel, hf⟩ := h1
    rcases open_ints Try.underlying34 Try.underlying35 (by kernel_rfl) hf with ⟨hcs, _⟩ | ⟨x, l, c, zs, hcs, _, hl, hm, hz, _, hcell, hwz⟩
    · simp [Value.cells] at hcs
      obtain ⟨rfl, rfl, rfl⟩ := hcs
      exact ⟨[], .inl ⟨rfl, rfl, rfl, rfl⟩⟩
    · simp [Value.cells] at hcs
      obtain ⟨rfl, rfl, rfl⟩ := hcs
      exact ⟨zs, .inr ⟨_, rfl, hl, hm, by simpa using hz, hcell, hwz⟩⟩
  clear hA0 hval0
  refine (walk a0 a1 len1 cap1 z1 W w0 w1).mono fun e W' ⟨he, bel⟩ => ?_
  subst he
  exact ⟨_, rfl, _, _, _, [], _, [], hW', trodAll_mk1 (shut_bool Try.underlying4 _), (trodAll_cons_mk (shut_int Try.underlying28 w0) (trodAll_cons_mk (Below.trod laidOut (by kernel_rfl) (of_decide_eq_true (by kernel_rfl)) k1 bel lt1) trodAll_mk0)), rfl, bel.frame _, fun h => by cases h⟩

theorem over : Rows.jitterEvenRow.holds Try.pinned (OpenSpec.ofChange Rows.jitterEvenSpec) :=
  OpenClaim.holds_of_wide 4 Try.f4 rfl rfl rfl rfl rfl rfl rfl ⟨rfl, rfl, rfl, rfl, rfl⟩ rfl rfl rfl rfl rfl (by kernel_rfl) Try.func4 (by kernel_rfl)
    (of_decide_eq_true (by kernel_rfl)) (by unfold Func.isWrapper; first | (rw [if_pos (by decide +kernel)]; kernel_rfl) | (rw [if_neg (by decide +kernel)]; exact ⟨rfl, rfl⟩))
    (fun os started H enc _ => lifted os started H enc)

theorem proved : Rows.JitterEvenSaid := over
end Go.Proofs.Ytmgphmjfgoljcaa.jitterEven
namespace Go.Proofs.Ytmgphmjfgoljcaa
theorem jitterEven_holds : Rows.JitterEvenSaid := jitterEven.proved
#print axioms jitterEven_holds
end Go.Proofs.Ytmgphmjfgoljcaa

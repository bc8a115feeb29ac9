/-
  The first symbols of a text are the text itself, and there are as many more as may be: the call returns true for every frame, all bytes and every byte (no condition).
-/
import Derived.Test.YtihkenmefecnmaaRows
import Derived.WalkKit
import Derived.ProofKit
import Derived.OpenShut
import Derived.ShutString
import Derived.ChangeOld
import Derived.Below
import Derived.Test.YtihkenmefecnmaaFbg
import Derived.Test.YtihkenmefecnmaaFma
import Derived.Test.YtihkenmefecnmaaSto
namespace Go.Proofs.Ytihkenmefecnmaa.fountFirst
open Go.ChangeShapes Go.WideShapes Go.ChangeAt Go.RowKit
open Go.ChangeMaps (open_string shut_string)
set_option linter.unusedVariables false

theorem own : ownKnob Try.prog.godebug = none := by kernel_rfl
theorem laidOut : laidOutB Try.prog = true := by kernel_rfl

/-- WHAT THE WALK IS TOLD OF A SLICE OF INTEGERS THAT CAME IN: it is nil; or it leads to a row of 'cap' cells, the numbers 'zs' (the first 'len' are its elements, the rest its spare room), each fitting its kind. -/
def IsRow (k : IntKind) (w : World) (a : Option Addr) (len cap : Nat) (zs : List Int) : Prop :=
  (a = none ∧ len = 0 ∧ cap = 0 ∧ zs = []) ∨
  ∃ x, a = some x ∧ len ≤ cap ∧ cap ≤ maxLen ∧ zs.length = cap ∧ (∀ i, i < zs.length → w.cell? (x.add i) = some (.int k (zs.getD i 0))) ∧ ∀ n ∈ zs, (Lit.int k n).wf = true

open Go.Deep

/-- The n bytes x, and noughts. -/
def pad (x : Nat → Nat) (n i : Nat) : Nat := if i < n then x i else 0

set_option maxRecDepth 100000 in
set_option maxHeartbeats 400000 in
theorem none' (f : Int) (a : Option Addr) (n c z : Nat) (w : World) (h : n < 1 ∨ 100 < n) (hz : z < 256) :
    Calls Try.prog 4 #[.int .u32 f, .slice a n c, .int .u8 (z : Int)] w fun e w' => e = .returned (.bool true) ∧ Below w.heap.size w w' := by
  go_enter Try.func4, Try.ntmps4
  go_wp2_with fail
  refine (begun5 _).mono ?_
  rintro e w0 ⟨rfl, b0⟩
  have HB : Hid (Below w.heap.size w w0) := b0
  clear b0
  rcases h with h | h
  · have h1 : (n : Int) < 1 := by omega
    clear h
    go_wp2
    go_ret
    exact ⟨rfl, HB.out⟩
  · have h1 : 100 < (n : Int) := by omega
    have h2 : ¬ (n : Int) < 1 := by omega
    clear h
    go_wp2
    go_ret
    exact ⟨rfl, HB.out⟩

set_option maxRecDepth 100000 in
set_option maxHeartbeats 1000000 in
theorem core (f : Nat) (a : Option Addr) (n c z s k K : Nat) (x : Nat → Nat) (w : World) (hx : BytesAt w a n x) (hc : n ≤ c) (hf : f < 4294967296) (hz : z < 256) (hs : s = 4 + z % 20) (n1 : 1 ≤ n) (n2 : n ≤ 100) (hk : k = cntOf n s) (hK : K = k * s) :
    Calls Try.prog 4 #[.int .u32 (f : Int), .slice a n c, .int .u8 (z : Int)] w fun e w' => e = .returned (.bool true) ∧ Below w.heap.size w w' := by
  have s1 : 1 ≤ s := by omega
  have s2 : s ≤ 64 := by omega
  have n3 : n ≤ 32 * s := by omega
  have k1 : 1 ≤ k := hk ▸ cnt_pos s1 n1
  have k2 : k ≤ 32 := hk ▸ cnt_le n s s1 n3
  have m1 : n ≤ K := by rw [hK, hk]; exact cnt_ge' n s s1
  have m4 : K ≤ 2048 := by
    rw [hK]
    exact Nat.le_trans (Nat.mul_le_mul k2 s2) (by decide)
  have E0 : Hid (4 + (z : Int) % 20 = (s : Int)) := by show 4 + (z : Int) % 20 = (s : Int); omega
  have E1 : Hid (((n : Int) + (s : Int) - 1) / (s : Int) = (k : Int)) := by show _ = _; rw [hk]; exact cntOf_cast n s s1
  have HX : Hid (BytesAt w a n x) := hx
  have HK : Hid (k = cntOf n s) := hk
  have HKE : Hid (K = k * s) := hK
  have HP : Hid (∀ j, j < k → strOf s (symOf f x n s j) = strOf s (piece x n s j)) := fun j hj => strOf_congr fun i _ => symOf_first f x n s j i hx.lt (hk ▸ hj)
  have i1 : ¬ (n : Int) < 1 := by omega
  have i2 : ¬ 100 < (n : Int) := by omega
  clear hx hk hs hK
  go_enter Try.func4, Try.ntmps4
  go_wp2_with fail
  refine (begun5 _).mono ?_
  rintro e w0 ⟨rfl, b0⟩
  go_wp2_with fail
  rw [E0.out]
  refine (new_any _).mono ?_
  rintro e w1 ⟨rfl, b1, F1, -⟩
  have HF : Hid (FieldAt w1 w0.heap.size) := F1
  have HB : Hid (Below w.heap.size w w1) := b0.trans (b1.mono b0.size)
  have HX1 : Hid (BytesAt w1 a n x) := HX.out.below HB.out (Nat.le_refl _)
  clear b0 b1 F1 E0 HX
  generalize w0.heap.size = p at *
  go_wp2_with fail
  rw [E1.out]
  clear E1
  go_loopw [10, 11] (fun all i wr => ∃ j : Nat, j ≤ k ∧ i = .int .i64 j ∧ all = .string (strOf (j * s) (pad x n)) ∧ Below w1.heap.size w1 wr) (fun _ i _ => k - (intOf i).toNat)
  case atStart => exact ⟨0, Nat.zero_le _, rfl, by rw [Nat.zero_mul]; rfl, Below.refl _ _⟩
  case round =>
    obtain ⟨j, hj, rfl, rfl, hb⟩ := hrel
    have HR : Hid (Below w1.heap.size w1 wr) := hb
    clear hb
    by_cases hjk : j < k
    · have j1 : (j : Int) < (k : Int) := by omega
      go_wp2_with fail
      refine (symbol_yes p f j a n c s k x _ (HF.out.below HR.out HF.out.lt) (HX1.out.below HR.out (Nat.le_refl _)) hc hf s1 s2 n1 n3 HK.out (by omega)).mono ?_
      rintro e w2 ⟨b, rfl, -, B2, b2⟩
      have HR2 : Hid (Below w1.heap.size w1 w2) := HR.out.trans (b2.mono HR.out.size)
      have e1 := conv_bytes _ s s _ _ B2
      rw [HP.out j hjk] at e1
      have HA : Hid (strOf (j * s) (pad x n) ++ strOf s (piece x n s j) = strOf ((j + 1) * s) (pad x n)) := by
        show _ = _
        rw [Nat.add_mul, Nat.one_mul]
        exact strOf_add _ _ _ _ _ (fun _ _ => rfl) (fun _ _ => rfl)
      have z1 : ¬ 9223372036854775807 < (strOf (j * s) (pad x n)).size + (strOf s (piece x n s j)).size := by
        rw [strOf_size, strOf_size]
        have h1 : j * s ≤ k * s := Nat.mul_le_mul_right _ hj
        rw [← HKE.out] at h1
        omega
      clear B2 b2
      go_wp2
      go_roundw
      case rel => exact ⟨j + 1, by omega, by go_num, by rw [HA.out], HR2.out⟩
      case measure => simp [intOf]; omega
    · obtain rfl : j = k := by omega
      clear hjk hj
      go_wp2_with fail
      refine (symbol_is p f (j + 63) _ a n c s j x _ (by omega) (HF.out.below HR.out HF.out.lt) (HX1.out.below HR.out (Nat.le_refl _)) hc hf s1 s2 n1 n3 HK.out (by omega)).mono ?_
      rintro e w2 ⟨b, rfl, -, -, b2⟩
      have HR2 : Hid (Below w1.heap.size w1 w2) := HR.out.trans (b2.mono HR.out.size)
      clear b2
      go_wp2_with fail
      refine (symbol_dice p f _ a n c s j x _ (HF.out.below HR2.out HF.out.lt) (HX1.out.below HR2.out (Nat.le_refl _)) hc s1 s2 n1 n3 HK.out (by omega)).mono ?_
      rintro e w3 ⟨rfl, b3⟩
      have HR3 : Hid (Below w1.heap.size w1 w3) := HR2.out.trans (b3.mono HR2.out.size)
      clear b3
      have HB4 : Hid (Below w.heap.size w w3.drew) := (HB.out.trans (HR3.out.mono HB.out.size)).trans (below_drews 1)
      have e2 : (convert 23 9 (.slice a n c)).run Try.prog w3.drew = .ok (.string (strOf n x)) w3.drew := conv_bytes a n c x _ ((HX1.out.below HR3.out (Nat.le_refl _)).grew (below_drews 1))
      have e3 := strOf_extract (j * s) n (pad x n) (by rw [← HKE.out]; exact m1)
      rw [strOf_congr (x := pad x n) (y := x) (fun i hi => if_pos hi)] at e3
      have e4 := strOf_size (j * s) (pad x n)
      rw [← HKE.out] at e3 e4 ⊢
      generalize strOf K (pad x n) = all at *
      go_wp2_with fail
      go_region
      generalize w3.drew = w4 at *
      go_wp2
      go_ret
      exact ⟨rfl, HB4.out⟩

theorem walk (a0 : Int) (a1 : Option Addr) (len1 cap1 : Nat) (z1 : List Int) (a2 : Int) (w : World) (w0 : (Lit.int .u32 a0).wf = true) (w1 : IsRow .u8 w a1 len1 cap1 z1) (w2 : (Lit.int .u8 a2).wf = true) :
    Calls Try.prog 4 #[.int .u32 a0, .slice a1 len1 cap1, .int .u8 a2] w fun e w' => e = .returned (.bool true) ∧ Below w.heap.size w w' := by
  have b0 := bounds_u32 w0
  obtain ⟨f, rfl⟩ : ∃ n : Nat, a0 = n := ⟨a0.toNat, by omega⟩
  obtain ⟨z, rfl, hz⟩ := int_nat a2 (by have := bounds_u8 w2; omega)
  have r1 : Came w a1 len1 cap1 z1 := w1
  obtain ⟨h1, k1, m1⟩ := r1.bytes
  by_cases hl : 1 ≤ len1 ∧ len1 ≤ 100
  · exact core f a1 len1 cap1 z _ _ _ _ w h1 k1 (by omega) hz rfl hl.1 hl.2 rfl rfl
  · exact none' f a1 len1 cap1 z w (by omega) hz

/-! ### THE ROW's STEP: WRITTEN OUT: LEAVE IT -/
set_option maxRecDepth 100000 in
theorem lifted (os : Os) (started : os.Started) (H : Type) (enc : TypeId × Value → H) :
    ReturnsInHanded {} Try.checked os 4 .any (Rows.fountFirstSpec.pre6 enc Try.prog Try.f4 Rows.fountFirstRow.domain false) (Rows.fountFirstSpec.post enc Try.prog Try.f4 false true false false) := by
  refine returnsInHanded_of_change (C := Try.checked) own started (by kernel_rfl) Try.func4
    (ChangeSpec.witness6 (enc := enc) (C := Try.checked) false ⟨#[], #[.int .u32 0, .slice none 0 0, .int .u8 0], []⟩ 8 (by kernel_rfl) (by kernel_rfl) (by kernel_rfl) (by kernel_rfl)) ?_
  intro W base args ds gs before hval0 hW hcnd _
  have hval : ∀ (j : Nat) t v, Try.f4.params[j]? = some t → args[j]? = some v → Value.okWide Try.prog W .any base t v := hval0
  have hW' := hW
  obtain ⟨p, q, hA0, hV, rfl, hfz, hnd⟩ := hW
  have hA : DataW.TrodAll enc Try.prog W 0 (fun _ => true) true Try.f4.params.toList args.toList ds p := hA0
  rw [Try.params4] at hA hval
  obtain ⟨v0, vs0, d0, ds0, p0, q0, hargs, rfl, rfl, h0, r0⟩ := trodAll_cons hA
  obtain ⟨v1, vs1, d1, ds1, p1, q1, rfl, rfl, rfl, h1, r1⟩ := trodAll_cons r0
  obtain ⟨v2, vs2, d2, ds2, p2, q2, rfl, rfl, rfl, h2, r2⟩ := trodAll_cons r1
  obtain ⟨rfl, rfl, rfl⟩ := trodAll_nil r2
  obtain rfl : args = #[v0, v1, v2] := by cases args; simp_all
  obtain ⟨rfl, rfl⟩ := trodVars_none hV
  obtain ⟨a0, rfl, rfl, rfl, w0⟩ := open_int Try.underlying22 (hval 0 22 v0 rfl rfl) h0
  obtain ⟨a1, len1, cap1, rfl⟩ := okWide_slice Try.underlying23 (hval 1 23 v1 rfl rfl)
  have k1 := h1
  have lt1 : ∀ x ∈ p1, x.block < W.heap.size := by obtain ⟨m, hm⟩ := k1; exact DataW.trod_lt m _ _ _ hm
  obtain ⟨z1, w1⟩ : ∃ zs, IsRow .u8 W a1 len1 cap1 zs := by
    obtain ⟨fuel, hf⟩ := h1
    rcases open_ints Try.underlying23 Try.underlying5 (by kernel_rfl) hf with ⟨hcs, _⟩ | ⟨x, l, c, zs, hcs, _, hl, hm, hz, _, hcell, hwz⟩
    · simp [Value.cells] at hcs
      obtain ⟨rfl, rfl, rfl⟩ := hcs
      exact ⟨[], .inl ⟨rfl, rfl, rfl, rfl⟩⟩
    · simp [Value.cells] at hcs
      obtain ⟨rfl, rfl, rfl⟩ := hcs
      exact ⟨zs, .inr ⟨_, rfl, hl, hm, by simpa using hz, hcell, hwz⟩⟩
  obtain ⟨a2, rfl, rfl, rfl, w2⟩ := open_int Try.underlying5 (hval 2 5 v2 rfl rfl) h2
  clear hA0 hval0
  refine (walk a0 a1 len1 cap1 z1 a2 W w0 w1 w2).mono fun e W' ⟨he, bel⟩ => ?_
  subst he
  exact ⟨_, rfl, _, _, _, [], _, [], hW', trodAll_mk1 (shut_bool Try.underlying4 _), (trodAll_cons_mk (shut_int Try.underlying22 w0) (trodAll_cons_mk (Below.trod laidOut (by kernel_rfl) (of_decide_eq_true (by kernel_rfl)) k1 bel lt1) (trodAll_cons_mk (shut_int Try.underlying5 w2) trodAll_mk0))), rfl, bel.frame _, fun h => by cases h⟩

theorem over : Rows.fountFirstRow.holds Try.pinned (OpenSpec.ofChange Rows.fountFirstSpec) :=
  OpenClaim.holds_of_wide 4 Try.f4 rfl rfl rfl rfl rfl rfl rfl ⟨rfl, rfl, rfl, rfl, rfl⟩ rfl rfl rfl rfl rfl (by kernel_rfl) Try.func4 (by kernel_rfl)
    (of_decide_eq_true (by kernel_rfl)) (by unfold Func.isWrapper; first | (rw [if_pos (by decide +kernel)]; kernel_rfl) | (rw [if_neg (by decide +kernel)]; exact ⟨rfl, rfl⟩))
    (fun os started H enc _ => lifted os started H enc)

theorem proved : Rows.FountFirstSaid := over
end Go.Proofs.Ytihkenmefecnmaa.fountFirst
namespace Go.Proofs.Ytihkenmefecnmaa
theorem fountFirst_holds : Rows.FountFirstSaid := fountFirst.proved
#print axioms fountFirst_holds
end Go.Proofs.Ytihkenmefecnmaa

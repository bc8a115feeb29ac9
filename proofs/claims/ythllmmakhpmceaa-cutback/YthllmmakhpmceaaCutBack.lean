/-
  What package cut splits it joins as it was, in symbols of one length, filled up with noughts: the call returns true for all bytes and every byte (no condition).
-/
import Derived.Test.YthllmmakhpmceaaRows
import Derived.WalkKit
import Derived.ProofKit
import Derived.OpenShut
import Derived.ShutString
import Derived.ChangeOld
import Derived.Below
import Derived.Test.YthllmmakhpmceaaCbg
import Derived.Test.YthllmmakhpmceaaSto
namespace Go.Proofs.Ythllmmakhpmceaa.cutBack
open Go.ChangeShapes Go.WideShapes Go.ChangeAt Go.RowKit
open Go.ChangeMaps (open_string shut_string)
set_option linter.unusedVariables false

theorem own : ownKnob Try.prog.godebug = none := by kernel_rfl
theorem laidOut : laidOutB Try.prog = true := by kernel_rfl

/-- WHAT THE WALK IS TOLD OF A SLICE OF INTEGERS THAT CAME IN: it is nil; or it leads to a row of 'cap' cells, the numbers 'zs' (the first 'len' are its elements, the rest its spare room), each fitting its kind. -/
def IsRow (k : IntKind) (w : World) (a : Option Addr) (len cap : Nat) (zs : List Int) : Prop :=
  (a = none ∧ len = 0 ∧ cap = 0 ∧ zs = []) ∨
  ∃ x, a = some x ∧ len ≤ cap ∧ cap ≤ maxLen ∧ zs.length = cap ∧ (∀ i, i < zs.length → w.cell? (x.add i) = some (.int k (zs.getD i 0))) ∧ ∀ n ∈ zs, (Lit.int k n).wf = true

open Go.Deep

/-- The n bytes x, and noughts. -/
def pad (x : Nat → Nat) (n i : Nat) : Nat := if i < n then x i else 0
theorem pad_lt {x : Nat → Nat} {n : Nat} (h : ∀ i, i < n → x i < 256) (i : Nat) : pad x n i < 256 := by
  unfold pad
  split
  · exact h _ (by assumption)
  · decide

set_option maxRecDepth 100000 in
set_option maxHeartbeats 400000 in
theorem long (a : Option Addr) (n c z : Nat) (w : World) (h : 400 < n) (hz : z < 256) :
    Calls Try.prog 4 #[.slice a n c, .int .u8 (z : Int)] w fun e w' => e = .returned (.bool true) ∧ Below w.heap.size w w' := by
  go_enter Try.func4, Try.ntmps4
  go_wp2_with fail
  refine (begun4 _).mono ?_
  rintro e w0 ⟨rfl, b0⟩
  have HB : Hid (Below w.heap.size w w0) := b0
  have h1 : 400 < (n : Int) := by omega
  clear b0 h
  go_wp2
  go_ret
  exact ⟨rfl, HB.out⟩

set_option maxRecDepth 100000 in
set_option maxHeartbeats 2000000 in
theorem none' (a : Option Addr) (n c z s : Nat) (w : World) (h : n ≤ 400) (hz : z < 256) (hs : s = 1 + z % 64) (hn : ¬ (1 ≤ n ∧ n ≤ 32 * s)) :
    Calls Try.prog 4 #[.slice a n c, .int .u8 (z : Int)] w fun e w' => e = .returned (.bool true) ∧ Below w.heap.size w w' := by
  have s1 : 1 ≤ s := by omega
  have s2 : s ≤ 64 := by omega
  have E0 : Hid (1 + (z : Int) % 64 = (s : Int)) := by show 1 + (z : Int) % 64 = (s : Int); omega
  clear hs
  go_enter Try.func4, Try.ntmps4
  go_wp2_with fail
  refine (begun4 _).mono ?_
  rintro e w0 ⟨rfl, b0⟩
  go_wp2_with fail
  rw [E0.out]
  refine (face_split_no a n c s _ (by omega)).mono ?_
  rintro e w1 ⟨rfl, b1⟩
  have b2 := b0.trans (b1.mono b0.size)
  go_wp2_with fail
  refine (face_count_no n s _ (by omega)).mono ?_
  rintro e w2 ⟨rfl, b3⟩
  have HB : Hid (Below w.heap.size w w2) := b2.trans (b3.mono b2.size)
  clear b0 b1 b2 b3 E0
  by_cases hn1 : 1 ≤ n
  · have hn2 : decide ((n : Int) ≤ 32 * (s : Int)) = false := by simp; omega
    have hn3 : 1 ≤ (n : Int) := by omega
    clear hn
    go_wp2
    go_ret
    exact ⟨rfl, HB.out⟩
  · obtain rfl : n = 0 := by omega
    clear hn hn1
    go_wp2
    go_ret
    exact ⟨rfl, HB.out⟩

theorem cnt_more {k s K : Nat} (h : K = k * s) (s1 : 1 ≤ s) : cntOf (K + 1) s ≠ k := by
  have := (Nat.le_div_iff_mul_le (k := s) (x := k + 1) (y := K + 1 + s - 1) (by omega)).2 (by rw [Nat.add_mul, Nat.one_mul]; omega)
  unfold cntOf
  omega
theorem cnt_less {k s K1 : Nat} (h : K1 = (k - 1) * s) (s1 : 1 ≤ s) (k1 : 1 ≤ k) : cntOf K1 s ≠ k := by
  obtain ⟨t, rfl⟩ : ∃ t, k = t + 1 := ⟨k - 1, by omega⟩
  rw [Nat.add_sub_cancel] at h
  have := (Nat.div_lt_iff_lt_mul (k := s) (x := K1 + s - 1) (y := t + 1) (by omega)).2 (by rw [Nat.add_mul, Nat.one_mul]; omega)
  unfold cntOf
  omega
/-- A size that does not fit the symbols. -/
theorem bad (k s size L : Nat) (A : Nat → Option Addr) (Z : Nat → Nat → Nat) (w : World) (h : ListsAt w (some ⟨L, 0, none⟩) k A (fun _ => s) (fun _ => s) Z) (k1 : 1 ≤ k) (k2 : k ≤ 32) (s1 : 1 ≤ s) (s2 : s ≤ 64) (hn : 1 ≤ size → size ≤ 32 * s → cntOf size s ≠ k) :
    Calls Try.prog 21 #[.slice (some ⟨L, 0, none⟩) k k, .int .i64 (size : Int)] w fun e w' => Refused w e w' := by
  by_cases g : 1 ≤ size ∧ size ≤ 32 * s
  · exact join_wrong _ k k s size A _ _ Z w h k1 (by omega) (fun _ _ => rfl) s1 s2 g.1 g.2 (hn g.1 g.2)
  · exact join_far _ k k s A _ _ Z size w h k1 (by omega) (fun _ _ => rfl) (by omega)

set_option maxRecDepth 100000 in
set_option maxHeartbeats 1000000 in
theorem core (a : Option Addr) (n c z s k K K1 : Nat) (x : Nat → Nat) (w : World) (hx : BytesAt w a n x) (hc : n ≤ c) (h : n ≤ 400) (hz : z < 256) (hs : s = 1 + z % 64) (n1 : 1 ≤ n) (n2 : n ≤ 32 * s) (hk : k = cntOf n s) (hK : K = k * s) (hK1 : K1 = (k - 1) * s) :
    Calls Try.prog 4 #[.slice a n c, .int .u8 (z : Int)] w fun e w' => e = .returned (.bool true) ∧ Below w.heap.size w w' := by
  have s1 : 1 ≤ s := by omega
  have s2 : s ≤ 64 := by omega
  have k2 : k ≤ 32 := by rw [hk]; exact cnt_le n s s1 n2
  have k1 : 1 ≤ k := by rw [hk]; unfold cntOf; exact (Nat.le_div_iff_mul_le (by omega)).2 (by omega)
  have m1 : n ≤ K := by rw [hK, hk]; exact cnt_ge n s s1
  have m2 : K1 < n := by rw [hK1]; exact cnt_mul n s (k - 1) s1 n1 (by omega)
  have m3 : K = K1 + s := by
    rw [hK, hK1]
    obtain ⟨t, rfl⟩ : ∃ t, k = t + 1 := ⟨k - 1, by omega⟩
    rw [Nat.add_sub_cancel, Nat.add_mul, Nat.one_mul]
  have hw1 := mul_fits k s K hK (by omega)
  have hw2 : IntKind.i64.wrap (((k : Int) - 1) * (s : Int)) = (K1 : Int) := by
    have := mul_fits (k - 1) s K1 hK1 (by omega)
    rwa [show ((k - 1 : Nat) : Int) = (k : Int) - 1 by omega] at this
  have E0 : Hid (1 + (z : Int) % 64 = (s : Int)) := by show 1 + (z : Int) % 64 = (s : Int); omega
  have HX : Hid (BytesAt w a n x) := hx
  have HK : Hid (k = cntOf n s) := hk
  have HKE : Hid (K = k * s) := hK
  have HK1 : Hid (K1 = (k - 1) * s) := hK1
  have m4 : K ≤ 2048 := by omega
  clear hx hk hs hK hK1 m3
  go_enter Try.func4, Try.ntmps4
  go_wp2_with fail
  refine (begun4 _).mono ?_
  rintro e w0 ⟨rfl, b0⟩
  go_wp2_with fail
  rw [E0.out]
  clear E0
  refine (face_split_yes a n c s k x _ (HX.out.grew b0) hc s1 s2 n1 n2 HK.out).mono ?_
  rintro e w1 ⟨L, A, rfl, hL, hR, hP, b1⟩
  obtain ⟨B, hA, hl⟩ := pcs_lists hR hP s2
  have b2 := b0.trans (b1.mono b0.size)
  clear hR hP hA
  go_wp2_with fail
  refine (face_count_yes n s _ s1 s2 n1 n2).mono ?_
  rintro e w2 ⟨rfl, b3⟩
  have HL : Hid (ListsAt w2 (some ⟨L, 0, none⟩) k (fun i => some ⟨B i, 0, none⟩) (fun _ => s) (fun _ => s) (piece x n s)) := hl.grew b3
  have HB : Hid (Below w.heap.size w w2) := b2.trans (b3.mono b2.size)
  clear b0 b1 b2 b3 hl
  rw [← HK.out]
  have i1 : (n : Int) ≤ 32 * (s : Int) := by omega
  have i2 : 1 ≤ (n : Int) := by omega
  go_wp2_with fail
  go_loopw [11, 12] (fun all i wr => ∃ j : Nat, j ≤ k ∧ i = .int .i64 j ∧ all = .string (strOf (j * s) (pad x n)) ∧ wr = w2) (fun _ i _ => k - (intOf i).toNat)
  case atStart => exact ⟨0, Nat.zero_le _, rfl, by rw [Nat.zero_mul]; rfl, rfl⟩
  case round =>
    obtain ⟨j, hj, rfl, rfl, hw⟩ := hrel
    subst wr
    by_cases hjk : j < k
    · have j1 : (j : Int) < (k : Int) := by omega
      obtain ⟨b', o', e', hc'⟩ := HL.out (by omega)
      cases e'
      obtain ⟨c0, -, -, B1⟩ := hc' j hjk
      have c1 : w2.cell? ⟨L, j, none⟩ = some (.slice (some ⟨B j, 0, none⟩) s s) := by rw [Nat.zero_add] at c0; exact c0
      clear c0
      have e1 := conv_bytes _ s s _ _ B1
      have HA : Hid (strOf (j * s) (pad x n) ++ strOf s (piece x n s j) = strOf ((j + 1) * s) (pad x n)) := by
        show _ = _
        rw [Nat.add_mul, Nat.one_mul]
        exact strOf_add _ _ _ _ _ (fun _ _ => rfl) (fun _ _ => rfl)
      have z1 : ¬ 9223372036854775807 < (strOf (j * s) (pad x n)).size + (strOf s (piece x n s j)).size := by
        rw [strOf_size, strOf_size]
        have h1 : j * s ≤ k * s := Nat.mul_le_mul_right _ hj
        rw [← HKE.out] at h1
        omega
      clear hc' B1
      go_wp2
      go_roundw
      case rel => exact ⟨j + 1, by omega, by go_num, by rw [HA.out], trivial⟩
      case measure => simp [intOf]; omega
    · obtain rfl : j = k := by omega
      clear hjk hj
      go_wp2_with fail
      refine (face_join_yes _ j j s n _ _ _ _ _ HL.out (by omega) (by omega) (fun _ _ => rfl) s1 s2 n1 n2 HK.out.symm).mono ?_
      rintro e w3 ⟨r, cr, rfl, -, -, -, B3, b3⟩
      have HL3 : Hid (ListsAt w3 (some ⟨L, 0, none⟩) j (fun i => some ⟨B i, 0, none⟩) (fun _ => s) (fun _ => s) (piece x n s)) := HL.out.grew b3
      have HB3 : Hid (Below w.heap.size w w3) := HB.out.trans (b3.mono HB.out.size)
      have e1 := conv_bytes _ n cr _ _ (B3.grew (below_drews 1))
      rw [strOf_congr (joined_piece x n s)] at e1
      have e2 := conv_bytes a n c x _ ((HX.out.below HB3.out (Nat.le_refl _)).grew (below_drews 1))
      have e3 := strOf_extract (j * s) n (pad x n) (by rw [← HKE.out]; exact m1)
      rw [strOf_congr (x := pad x n) (y := x) (fun i hi => if_pos hi)] at e3
      have e4 := strOf_size (j * s) (pad x n)
      have e5 : Hid (∀ i, i < j * s → ∀ w, (Instr.index 9 (.string (strOf (j * s) (pad x n))) (.int .i64 (i : Int))).run Try.prog w = .ok (.int .u8 (pad x n i : Int)) w) := fun i hi w => str_at _ _ _ _ hi (pad_lt HX.out.lt i)
      rw [← HKE.out] at e3 e4 ⊢
      have e6 : Hid (∀ i, i < K → ∀ w, (Instr.index 9 (.string (strOf K (pad x n))) (.int .i64 (i : Int))).run Try.prog w = .ok (.int .u8 (pad x n i : Int)) w) := by have := e5.out; rw [← HKE.out] at this; exact this
      clear e5
      clear B3 b3 HB HL
      generalize strOf K (pad x n) = all at *
      have HP : Hid (∀ i, n ≤ i → pad x n i = 0) := fun i hi => if_neg (by omega)
      go_wp2_with fail
      have e1 : (convert 22 9 (.slice (some ⟨r, 0, none⟩) n cr)).run Try.prog w3.drew = .ok (.string (strOf n x)) w3.drew := e1
      have e2 : (convert 22 9 (.slice a n c)).run Try.prog w3.drew = .ok (.string (strOf n x)) w3.drew := e2
      have HL4 : Hid (ListsAt w3.drew (some ⟨L, 0, none⟩) j (fun i => some ⟨B i, 0, none⟩) (fun _ => s) (fun _ => s) (piece x n s)) := HL3.out.grew (below_drews 1)
      have HB4 : Hid (Below w.heap.size w w3.drew) := HB3.out.trans (below_drews 1)
      clear HL3 HB3
      go_region
      generalize w3.drew = w4 at *
      clear e1 e2
      go_wp2_with fail
      go_loopw [15] (fun i wr => ∃ t : Nat, n ≤ t ∧ t ≤ K ∧ i = .int .i64 t ∧ wr = w4) (fun i _ => K - (intOf i).toNat)
      case atStart => exact ⟨n, Nat.le_refl _, m1, rfl, rfl⟩
      case round =>
        obtain ⟨t, t1, t2, rfl, hw⟩ := hrel
        subst wr
        by_cases htK : t < K
        · have j1 : (t : Int) < (K : Int) := by omega
          have e7 := e6.out t htK
          rw [HP.out t t1] at e7
          go_wp2
          go_roundw
          case rel => exact ⟨t + 1, by omega, by omega, by go_num, trivial⟩
          case measure => simp [intOf]; omega
        · obtain rfl : t = K := by omega
          clear htK t2
          have hw3 : IntKind.i64.wrap ((t : Int) + 1) = ((t + 1 : Nat) : Int) := by rw [IntKind.wrap_i64]; omega
          go_wp2_with fail
          refine (face_join_no _ j j _ _ fun w5 b5 => ?_).mono ?_
          · exact bad j s (t + 1) L _ _ w5 (HL4.out.grew b5) k1 k2 s1 s2 (fun _ _ => cnt_more HKE.out s1)
          rintro e w5 ⟨rfl, b5⟩
          have HL5 : Hid (ListsAt w5 (some ⟨L, 0, none⟩) j (fun i => some ⟨B i, 0, none⟩) (fun _ => s) (fun _ => s) (piece x n s)) := HL4.out.grew b5
          have HB5 : Hid (Below w.heap.size w w5) := HB4.out.trans (b5.mono HB4.out.size)
          clear HL4 HB4 b5
          go_wp2_with fail
          refine (face_join_no _ j j _ _ fun w6 b6 => ?_).mono ?_
          · exact bad j s K1 L _ _ w6 (HL5.out.grew b6) k1 k2 s1 s2 (fun _ _ => cnt_less HK1.out s1 k1)
          rintro e w6 ⟨rfl, b6⟩
          have HB6 : Hid (Below w.heap.size w w6) := HB5.out.trans (b6.mono HB5.out.size)
          clear HL5 HB5 b6
          go_wp2
          go_ret
          exact ⟨rfl, HB6.out⟩

theorem walk (a0 : Option Addr) (len0 cap0 : Nat) (z0 : List Int) (a1 : Int) (w : World) (w0 : IsRow .u8 w a0 len0 cap0 z0) (w1 : (Lit.int .u8 a1).wf = true) :
    Calls Try.prog 4 #[.slice a0 len0 cap0, .int .u8 a1] w fun e w' => e = .returned (.bool true) ∧ Below w.heap.size w w' := by
  obtain ⟨z, rfl, hz⟩ := int_nat a1 (by have := bounds_u8 w1; omega)
  have r0 : Came w a0 len0 cap0 z0 := w0
  obtain ⟨h0, k0, m0⟩ := r0.bytes
  by_cases hl : 400 < len0
  · exact long a0 len0 cap0 z w hl hz
  · by_cases hn : 1 ≤ len0 ∧ len0 ≤ 32 * (1 + z % 64)
    · exact core a0 len0 cap0 z _ _ _ _ _ w h0 k0 (by omega) hz rfl hn.1 hn.2 rfl rfl rfl
    · exact none' a0 len0 cap0 z _ w (by omega) hz rfl hn

/-! ### THE ROW's STEP: WRITTEN OUT: LEAVE IT -/
set_option maxRecDepth 100000 in
theorem lifted (os : Os) (started : os.Started) (H : Type) (enc : TypeId × Value → H) :
    ReturnsInHanded {} Try.checked os 4 .any (Rows.cutBackSpec.pre6 enc Try.prog Try.f4 Rows.cutBackRow.domain false) (Rows.cutBackSpec.post enc Try.prog Try.f4 false true false false) := by
  refine returnsInHanded_of_change (C := Try.checked) own started (by kernel_rfl) Try.func4
    (ChangeSpec.witness6 (enc := enc) (C := Try.checked) false ⟨#[], #[.slice none 0 0, .int .u8 0], []⟩ 8 (by kernel_rfl) (by kernel_rfl) (by kernel_rfl) (by kernel_rfl)) ?_
  intro W base args ds gs before hval0 hW hcnd _
  have hval : ∀ (j : Nat) t v, Try.f4.params[j]? = some t → args[j]? = some v → Value.okWide Try.prog W .any base t v := hval0
  have hW' := hW
  obtain ⟨p, q, hA0, hV, rfl, hfz, hnd⟩ := hW
  have hA : DataW.TrodAll enc Try.prog W 0 (fun _ => true) true Try.f4.params.toList args.toList ds p := hA0
  rw [Try.params4] at hA hval
  obtain ⟨v0, vs0, d0, ds0, p0, q0, hargs, rfl, rfl, h0, r0⟩ := trodAll_cons hA
  obtain ⟨v1, vs1, d1, ds1, p1, q1, rfl, rfl, rfl, h1, r1⟩ := trodAll_cons r0
  obtain ⟨rfl, rfl, rfl⟩ := trodAll_nil r1
  obtain rfl : args = #[v0, v1] := by cases args; simp_all
  obtain ⟨rfl, rfl⟩ := trodVars_none hV
  obtain ⟨a0, len0, cap0, rfl⟩ := okWide_slice Try.underlying22 (hval 0 22 v0 rfl rfl)
  have k0 := h0
  have lt0 : ∀ x ∈ p0, x.block < W.heap.size := by obtain ⟨m, hm⟩ := k0; exact DataW.trod_lt m _ _ _ hm
  obtain ⟨z0, w0⟩ : ∃ zs, IsRow .u8 W a0 len0 cap0 zs := by
    obtain ⟨fuel, hf⟩ := h0
    rcases open_ints Try.underlying22 Try.underlying5 (by kernel_rfl) hf with ⟨hcs, _⟩ | ⟨x, l, c, zs, hcs, _, hl, hm, hz, _, hcell, hwz⟩
    · simp [Value.cells] at hcs
      obtain ⟨rfl, rfl, rfl⟩ := hcs
      exact ⟨[], .inl ⟨rfl, rfl, rfl, rfl⟩⟩
    · simp [Value.cells] at hcs
      obtain ⟨rfl, rfl, rfl⟩ := hcs
      exact ⟨zs, .inr ⟨_, rfl, hl, hm, by simpa using hz, hcell, hwz⟩⟩
  obtain ⟨a1, rfl, rfl, rfl, w1⟩ := open_int Try.underlying5 (hval 1 5 v1 rfl rfl) h1
  clear hA0 hval0
  refine (walk a0 len0 cap0 z0 a1 W w0 w1).mono fun e W' ⟨he, bel⟩ => ?_
  subst he
  exact ⟨_, rfl, _, _, _, [], _, [], hW', trodAll_mk1 (shut_bool Try.underlying4 _), (trodAll_cons_mk (Below.trod laidOut (by kernel_rfl) (of_decide_eq_true (by kernel_rfl)) k0 bel lt0) (trodAll_cons_mk (shut_int Try.underlying5 w1) trodAll_mk0)), rfl, bel.frame _, fun h => by cases h⟩

theorem over : Rows.cutBackRow.holds Try.pinned (OpenSpec.ofChange Rows.cutBackSpec) :=
  OpenClaim.holds_of_wide 4 Try.f4 rfl rfl rfl rfl rfl rfl rfl ⟨rfl, rfl, rfl, rfl, rfl⟩ rfl rfl rfl rfl rfl (by kernel_rfl) Try.func4 (by kernel_rfl)
    (of_decide_eq_true (by kernel_rfl)) (by unfold Func.isWrapper; first | (rw [if_pos (by decide +kernel)]; kernel_rfl) | (rw [if_neg (by decide +kernel)]; exact ⟨rfl, rfl⟩))
    (fun os started H enc _ => lifted os started H enc)

theorem proved : Rows.CutBackSaid := over
end Go.Proofs.Ythllmmakhpmceaa.cutBack
namespace Go.Proofs.Ythllmmakhpmceaa
theorem cutBack_holds : Rows.CutBackSaid := cutBack.proved
#print axioms cutBack_holds
end Go.Proofs.Ythllmmakhpmceaa

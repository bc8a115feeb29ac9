/-
  As many symbols as a text has, of rows of full rank, are sums that only it has: the call returns true for every frame and all bytes (no condition).
-/
import Derived.Test.YtihkenmefecnmaaRows
import Derived.WalkKit
import Derived.ProofKit
import Derived.OpenShut
import Derived.ShutString
import Derived.ChangeOld
import Derived.Below
import Derived.Test.YtihkenmefecnmaaRbn
import Derived.Test.YtihkenmefecnmaaFbg
namespace Go.Proofs.Ytihkenmefecnmaa.fountGives
open Go.ChangeShapes Go.WideShapes Go.ChangeAt Go.RowKit
open Go.ChangeMaps (open_string shut_string)
set_option linter.unusedVariables false

theorem own : ownKnob Try.prog.godebug = none := by kernel_rfl
theorem laidOut : laidOutB Try.prog = true := by kernel_rfl

/-- WHAT THE WALK IS TOLD OF A SLICE OF INTEGERS THAT CAME IN: it is nil; or it leads to a row of 'cap' cells, the numbers 'zs' (the first 'len' are its elements, the rest its spare room), each fitting its kind. -/
def IsRow (k : IntKind) (w : World) (a : Option Addr) (len cap : Nat) (zs : List Int) : Prop :=
  (a = none ∧ len = 0 ∧ cap = 0 ∧ zs = []) ∨
  ∃ x, a = some x ∧ len ≤ cap ∧ cap ≤ maxLen ∧ zs.length = cap ∧ (∀ i, i < zs.length → w.cell? (x.add i) = some (.int k (zs.getD i 0))) ∧ ∀ n ∈ zs, (Lit.int k n).wf = true

open Go.Deep

set_option maxRecDepth 100000 in
set_option maxHeartbeats 400000 in
theorem none' (f : Int) (a : Option Addr) (n c : Nat) (a' : Option Addr) (m c' : Nat) (w : World) (h : ¬ (1 ≤ n ∧ n ≤ 40 ∧ m ≤ 25)) :
    Calls Try.prog 6 #[.int .u32 f, .slice a n c, .slice a' m c'] w fun e w' => e = .returned (.bool true) ∧ Below w.heap.size w w' := by
  go_enter Try.func6, Try.ntmps6
  go_wp2_with fail
  refine (begun5 _).mono ?_
  rintro e w0 ⟨rfl, b0⟩
  have HB : Hid (Below w.heap.size w w0) := b0
  clear b0
  by_cases h1 : n < 1
  · have h2 : decide ((n : Int) < 1) = true := by simp; omega
    clear h
    go_wp2
    go_ret
    exact ⟨rfl, HB.out⟩
  · have h2 : decide ((n : Int) < 1) = false := by simp; omega
    by_cases h3 : 40 < n
    · have h4 : decide (40 < (n : Int)) = true := by simp; omega
      clear h
      go_wp2
      go_ret
      exact ⟨rfl, HB.out⟩
    · have h4 : decide (40 < (n : Int)) = false := by simp; omega
      have h5 : decide (25 < (m : Int)) = true := by simp; omega
      clear h
      go_wp2
      go_ret
      exact ⟨rfl, HB.out⟩

set_option maxRecDepth 100000 in
set_option maxHeartbeats 1000000 in
theorem core (f : Nat) (a : Option Addr) (n c : Nat) (a' : Option Addr) (m c' k : Nat) (x y : Nat → Nat) (w : World) (hx : BytesAt w a n x) (hc : n ≤ c) (hy : BytesAt w a' m y) (hf : f < 4294967296) (n1 : 1 ≤ n) (n2 : n ≤ 40) (m2 : m ≤ 25) (hk : k = cntOf n 5) :
    Calls Try.prog 6 #[.int .u32 (f : Int), .slice a n c, .slice a' m c'] w fun e w' => e = .returned (.bool true) ∧ Below w.heap.size w w' := by
  have h2 : decide ((n : Int) < 1) = false := by simp; omega
  have h4 : decide (40 < (n : Int)) = false := by simp; omega
  have h5 : decide (25 < (m : Int)) = false := by simp; omega
  have k1 : 1 ≤ k := hk ▸ cnt_pos (by decide) n1
  have k2 : k ≤ 32 := hk ▸ cnt_le n 5 (by decide) (by omega)
  have E1 : Hid (((n : Int) + 4) / 5 = (k : Int)) := by show ((n : Int) + 4) / 5 = (k : Int); rw [hk]; unfold cntOf; omega
  have HX : Hid (BytesAt w a n x) := hx
  have HY : Hid (BytesAt w a' m y) := hy
  have HK : Hid (k = cntOf n 5) := hk
  have HZ : Hid (∀ i j, piece x n 5 i j < 256) := fun i j => piece_lt hx.lt j
  have HS : Hid (∀ id, Sp (Rw (truS (piece x n 5) k) k) (cat (Dice.rowOf f id k) (symOf f x n 5 id) k)) := fun id => by
    show Sp _ _
    unfold symOf
    rw [← hk]
    exact row_sp _ _ _ (fun i => Dice.rowOf_lt _ _ _ _)
  have HJ : Hid (strOf n (joined (piece x n 5) 5) = strOf n x) := strOf_congr (joined_piece x n 5)
  clear hx hy hk
  go_enter Try.func6, Try.ntmps6
  go_wp2_with fail
  refine (begun5 _).mono ?_
  rintro e w0 ⟨rfl, b0⟩
  go_wp2_with fail
  refine (new_any _).mono ?_
  rintro e w1 ⟨rfl, b1, F1, -⟩
  have B1 := b0.trans (b1.mono b0.size)
  have HX1 : Hid (BytesAt w1 a n x) := HX.out.below B1 (Nat.le_refl _)
  have HY1 : Hid (BytesAt w1 a' m y) := HY.out.below B1 (Nat.le_refl _)
  have HF1 : Hid (FieldAt w1 w0.heap.size) := F1
  have HB1 : Hid (Below w.heap.size w w1) := B1
  clear b0 b1 B1 F1 HX HY
  generalize w0.heap.size = p at *
  go_wp2_with fail
  rw [E1.out]
  clear E1
  refine (rbasin_new 0 f n 5 k _ (by decide) (by decide) n1 (by omega) HK.out k1 k2).mono ?_
  rintro e w2 ⟨N, D, rfl, -, hD, hND, N2, R2, b2⟩
  go_wp2_with fail
  go_loopw [11] (fun i wr => ∃ (j d : Nat) (V : Nat → Nat → Nat), j ≤ m ∧ i = .int .i64 j ∧ BsnAt wr N D f n 5 ∧ RefAt wr D 0 k 5 d V ∧ Took k d (piece x n 5) V ∧ Below w1.heap.size w1 wr) (fun i _ => m - (intOf i).toNat)
  case atStart => exact ⟨0, 0, _, Nat.zero_le _, rfl, N2, R2, Took.none _ _ _, b2⟩
  case round =>
    obtain ⟨j, d, V, hj, rfl, N3, R3, T3, b3⟩ := hrel
    have HN3 : Hid (BsnAt wr N D f n 5) := N3
    have HR3 : Hid (RefAt wr D 0 k 5 d V) := R3
    have HT3 : Hid (Took k d (piece x n 5) V) := T3
    have HB3 : Hid (Below w1.heap.size w1 wr) := b3
    have dk := T3.le
    clear N3 R3 T3 b3 N2 R2 b2
    by_cases hjm : j < m
    · have j1 : (j : Int) < (m : Int) := by omega
      have Y3 := HY1.out.below HB3.out (Nat.le_refl _)
      obtain ⟨b', o', rfl⟩ := bytes_some Y3 (by omega)
      have c1 := bytes_cell Y3 j hjm
      obtain ⟨id, hid⟩ : ∃ id, id = y j % (k + 64) := ⟨_, rfl⟩
      have hi : id < k + 64 := by rw [hid]; exact Nat.mod_lt _ (by omega)
      have E2 : Hid ((y j : Int) % ((k : Int) + 64) = (id : Int)) := by show (y j : Int) % ((k : Int) + 64) = (id : Int); rw [hid, Int.natCast_emod]; rfl
      have z1 : ((k : Int) + 64 == 0) = false := by simp; omega
      have yl := Y3.lt j hjm
      clear Y3 hid
      generalize y j = yj at *
      go_wp2_with fail
      rw [E2.out]
      refine (symbol_yes p f id a n c 5 k x _ (HF1.out.below HB3.out HF1.out.lt) (HX1.out.below HB3.out (Nat.le_refl _)) hc hf (by decide) (by decide) n1 (by omega) HK.out hi).mono ?_
      rintro e w4 ⟨g, rfl, -, S4, b4⟩
      have HB4 : Hid (Below w1.heap.size w1 w4) := HB3.out.trans (b4.mono HB3.out.size)
      have HN4 : Hid (BsnAt w4 N D f n 5) := HN3.out.grew b4
      have HR4 : Hid (RefAt w4 D 0 k 5 d V) := HR3.out.grew b4
      have z4 : 0 < w4.heap.size := Nat.lt_of_le_of_lt (Nat.zero_le _) HN4.out.lt
      have HS4 : Hid (BytesAt w4 (some ⟨g, 0, none⟩) 5 (symOf f x n 5 id)) := S4
      clear S4 b4 HB3 HN3 HR3 c1 E2
      go_wp2_with fail
      refine (rbadd_yes N D 0 f n k 5 d id 5 V _ _ _ HN4.out HR4.out HS4.out (fun j => symOf_lt _ _ _ _ _ _) HT3.out.byt hf k1 k2 (by decide) (by decide) (by omega) z4 hi).mono ?_
      rintro e w5 ⟨nn, Vr, T, st, hh, hk5⟩
      obtain ⟨bb, d', V', rfl, R5, T5⟩ : ∃ bb d' V', e = .returned (.bool bb) ∧ RefAt w5 D 0 k 5 d' V' ∧ Took k d' (piece x n 5) V' := by
        rcases hh with ⟨m1, e1, r2⟩ | ⟨m1, e1, r2⟩
        · exact ⟨_, _, _, e1, r2, HT3.out⟩
        · exact ⟨_, _, _, e1, r2, HT3.out.more (HS.out id) st m1⟩
      have HR5 : Hid (RefAt w5 D 0 k 5 d' V') := R5
      have HT5 : Hid (Took k d' (piece x n 5) V') := T5
      have HN5 : Hid (BsnAt w5 N D f n 5) := HN4.out.kept hk5 hND
      have HB5 : Hid (Below w1.heap.size w1 w5) := HB4.out.trans (hk5.below hD HB4.out.size)
      clear hh st hk5 R5 T5 HN4 HR4 HB4 HS4 HT3
      go_wp2
      go_roundw
      case rel => exact ⟨j + 1, d', V', by omega, by go_num, HN5.out, HR5.out, HT5.out, HB5.out⟩
      case measure => simp [intOf]; omega
    · obtain rfl : j = m := by omega
      clear hjm hj
      by_cases hdk : d < k
      · go_wp2_with fail
        refine (rpay_no N D 0 f n k 5 d V _ HN3.out HR3.out hdk).mono ?_
        rintro e w4 ⟨rfl, q4⟩
        have HB5 : Hid (Below w.heap.size w w4) := HB1.out.trans ((HB3.out.trans (q4.below _)).mono HB1.out.size)
        clear q4
        go_wp2
        go_ret
        exact ⟨rfl, HB5.out⟩
      · obtain rfl : d = k := by omega
        go_wp2_with fail
        refine (rpay_yes N D 0 f n d 5 _ V _ HN3.out HR3.out HT3.out HZ.out k1 k2 (by decide) (by decide) n1 (by omega) HK.out.symm).mono ?_
        rintro e w4 ⟨a4, c4, rfl, B4, b4⟩
        have HB4 : Hid (Below w1.heap.size w1 w4) := HB3.out.trans (b4.mono HB3.out.size)
        have HB5 : Hid (Below w.heap.size w w4) := HB1.out.trans (HB4.out.mono HB1.out.size)
        have e1 := conv_bytes _ _ c4 _ _ B4
        rw [HJ.out] at e1
        have e2 := conv_bytes a n c x _ (HX1.out.below HB4.out (Nat.le_refl _))
        clear B4 b4
        go_wp2
        go_ret
        exact ⟨rfl, HB5.out⟩

theorem walk (a0 : Int) (a1 : Option Addr) (len1 cap1 : Nat) (z1 : List Int) (a2 : Option Addr) (len2 cap2 : Nat) (z2 : List Int) (w : World) (w0 : (Lit.int .u32 a0).wf = true) (w1 : IsRow .u8 w a1 len1 cap1 z1) (w2 : IsRow .u8 w a2 len2 cap2 z2) :
    Calls Try.prog 6 #[.int .u32 a0, .slice a1 len1 cap1, .slice a2 len2 cap2] w fun e w' => e = .returned (.bool true) ∧ Below w.heap.size w w' := by
  have b0 := bounds_u32 w0
  obtain ⟨f, rfl⟩ : ∃ n : Nat, a0 = n := ⟨a0.toNat, by omega⟩
  have r1 : Came w a1 len1 cap1 z1 := w1
  have r2 : Came w a2 len2 cap2 z2 := w2
  obtain ⟨h1, k1, m1⟩ := r1.bytes
  obtain ⟨h2, k2, m2⟩ := r2.bytes
  by_cases hl : 1 ≤ len1 ∧ len1 ≤ 40 ∧ len2 ≤ 25
  · exact core f a1 len1 cap1 a2 len2 cap2 _ _ _ w h1 k1 h2 (by omega) hl.1 hl.2.1 hl.2.2 rfl
  · exact none' f a1 len1 cap1 a2 len2 cap2 w hl

/-! ### THE ROW's STEP: WRITTEN OUT: LEAVE IT -/
set_option maxRecDepth 100000 in
theorem lifted (os : Os) (started : os.Started) (H : Type) (enc : TypeId × Value → H) :
    ReturnsInHanded {} Try.checked os 6 .any (Rows.fountGivesSpec.pre6 enc Try.prog Try.f6 Rows.fountGivesRow.domain false) (Rows.fountGivesSpec.post enc Try.prog Try.f6 false true false false) := by
  refine returnsInHanded_of_change (C := Try.checked) own started (by kernel_rfl) Try.func6
    (ChangeSpec.witness6 (enc := enc) (C := Try.checked) false ⟨#[], #[.int .u32 0, .slice none 0 0, .slice none 0 0], []⟩ 8 (by kernel_rfl) (by kernel_rfl) (by kernel_rfl) (by kernel_rfl)) ?_
  intro W base args ds gs before hval0 hW hcnd _
  have hval : ∀ (j : Nat) t v, Try.f6.params[j]? = some t → args[j]? = some v → Value.okWide Try.prog W .any base t v := hval0
  have hW' := hW
  obtain ⟨p, q, hA0, hV, rfl, hfz, hnd⟩ := hW
  have hA : DataW.TrodAll enc Try.prog W 0 (fun _ => true) true Try.f6.params.toList args.toList ds p := hA0
  rw [Try.params6] at hA hval
  obtain ⟨v0, vs0, d0, ds0, p0, q0, hargs, rfl, rfl, h0, r0⟩ := trodAll_cons hA
  obtain ⟨v1, vs1, d1, ds1, p1, q1, rfl, rfl, rfl, h1, r1⟩ := trodAll_cons r0
  obtain ⟨v2, vs2, d2, ds2, p2, q2, rfl, rfl, rfl, h2, r2⟩ := trodAll_cons r1
  obtain ⟨rfl, rfl, rfl⟩ := trodAll_nil r2
  obtain rfl : args = #[v0, v1, v2] := by cases args; simp_all
  obtain ⟨rfl, rfl⟩ := trodVars_none hV
  obtain ⟨a0, rfl, rfl, rfl, w0⟩ := open_int Try.underlying22 (hval 0 22 v0 rfl rfl) h0
  obtain ⟨a1, len1, cap1, rfl⟩ := okWide_slice Try.underlying23 (hval 1 23 v1 rfl rfl)
  have k1 := h1
  have lt1 : ∀ x ∈ p1, x.block < W.heap.size := by obtain ⟨m, hm⟩ := k1; exact DataW.trod_lt m _ _ _ hm
  obtain ⟨z1, w1⟩ : ∃ zs, IsRow .u8 W a1 len1 cap1 zs := by
    obtain ⟨fuel, hf⟩ := h1
    rcases open_ints Try.underlying23 Try.underlying5 (by kernel_rfl) hf with ⟨hcs, _⟩ | ⟨x, l, c, zs, hcs, _, hl, hm, hz, _, hcell, hwz⟩
    · simp [Value.cells] at hcs
      obtain ⟨rfl, rfl, rfl⟩ := hcs
      exact ⟨[], .inl ⟨rfl, rfl, rfl, rfl⟩⟩
    · simp [Value.cells] at hcs
      obtain ⟨rfl, rfl, rfl⟩ := hcs
      exact ⟨zs, .inr ⟨_, rfl, hl, hm, by simpa using hz, hcell, hwz⟩⟩
  obtain ⟨a2, len2, cap2, rfl⟩ := okWide_slice Try.underlying23 (hval 2 23 v2 rfl rfl)
  have k2 := h2
  have lt2 : ∀ x ∈ p2, x.block < W.heap.size := by obtain ⟨m, hm⟩ := k2; exact DataW.trod_lt m _ _ _ hm
  obtain ⟨z2, w2⟩ : ∃ zs, IsRow .u8 W a2 len2 cap2 zs := by
    obtain ⟨fuel, hf⟩ := h2
    rcases open_ints Try.underlying23 Try.underlying5 (by kernel_rfl) hf with ⟨hcs, _⟩ | ⟨x, l, c, zs, hcs, _, hl, hm, hz, _, hcell, hwz⟩
    · simp [Value.cells] at hcs
      obtain ⟨rfl, rfl, rfl⟩ := hcs
      exact ⟨[], .inl ⟨rfl, rfl, rfl, rfl⟩⟩
    · simp [Value.cells] at hcs
      obtain ⟨rfl, rfl, rfl⟩ := hcs
      exact ⟨zs, .inr ⟨_, rfl, hl, hm, by simpa using hz, hcell, hwz⟩⟩
  clear hA0 hval0
  refine (walk a0 a1 len1 cap1 z1 a2 len2 cap2 z2 W w0 w1 w2).mono fun e W' ⟨he, bel⟩ => ?_
  subst he
  exact ⟨_, rfl, _, _, _, [], _, [], hW', trodAll_mk1 (shut_bool Try.underlying4 _), (trodAll_cons_mk (shut_int Try.underlying22 w0) (trodAll_cons_mk (Below.trod laidOut (by kernel_rfl) (of_decide_eq_true (by kernel_rfl)) k1 bel lt1) (trodAll_cons_mk (Below.trod laidOut (by kernel_rfl) (of_decide_eq_true (by kernel_rfl)) k2 bel lt2) trodAll_mk0))), rfl, bel.frame _, fun h => by cases h⟩

theorem over : Rows.fountGivesRow.holds Try.pinned (OpenSpec.ofChange Rows.fountGivesSpec) :=
  OpenClaim.holds_of_wide 6 Try.f6 rfl rfl rfl rfl rfl rfl rfl ⟨rfl, rfl, rfl, rfl, rfl⟩ rfl rfl rfl rfl rfl (by kernel_rfl) Try.func6 (by kernel_rfl)
    (of_decide_eq_true (by kernel_rfl)) (by unfold Func.isWrapper; first | (rw [if_pos (by decide +kernel)]; kernel_rfl) | (rw [if_neg (by decide +kernel)]; exact ⟨rfl, rfl⟩))
    (fun os started H enc _ => lifted os started H enc)

theorem proved : Rows.FountGivesSaid := over
end Go.Proofs.Ytihkenmefecnmaa.fountGives
namespace Go.Proofs.Ytihkenmefecnmaa
theorem fountGives_holds : Rows.FountGivesSaid := fountGives.proved
#print axioms fountGives_holds
end Go.Proofs.Ytihkenmefecnmaa

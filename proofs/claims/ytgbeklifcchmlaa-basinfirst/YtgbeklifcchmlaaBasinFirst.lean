/-
  The first symbols alone but one, and one more whose row names the one that lacks, give the text; one whose row does not, does not: the call returns true for every frame, all bytes and every choice (no condition).
-/
import Derived.Test.YtgbeklifcchmlaaRows
import Derived.WalkKit
import Derived.ProofKit
import Derived.OpenShut
import Derived.ShutString
import Derived.ChangeOld
import Derived.Below
import Derived.Test.YtgbeklifcchmlaaBbg
import Derived.Test.YtgbeklifcchmlaaBfi
import Derived.Test.YtgbeklifcchmlaaFre
namespace Go.Proofs.Ytgbeklifcchmlaa.basinFirst
open Go.ChangeShapes Go.WideShapes Go.ChangeAt Go.RowKit
open Go.ChangeMaps (open_string shut_string)
set_option linter.unusedVariables false

theorem own : ownKnob Try.prog.godebug = none := by kernel_rfl
theorem laidOut : laidOutB Try.prog = true := by kernel_rfl

/-- WHAT THE WALK IS TOLD OF A SLICE OF INTEGERS THAT CAME IN: it is nil; or it leads to a row of 'cap' cells, the numbers 'zs' (the first 'len' are its elements, the rest its spare room), each fitting its kind. -/
def IsRow (k : IntKind) (w : World) (a : Option Addr) (len cap : Nat) (zs : List Int) : Prop :=
  (a = none ∧ len = 0 ∧ cap = 0 ∧ zs = []) ∨
  ∃ x, a = some x ∧ len ≤ cap ∧ cap ≤ maxLen ∧ zs.length = cap ∧ (∀ i, i < zs.length → w.cell? (x.add i) = some (.int k (zs.getD i 0))) ∧ ∀ n ∈ zs, (Lit.int k n).wf = true

open Go.Deep

set_option maxRecDepth 100000 in
set_option maxHeartbeats 400000 in
theorem none' (f : Int) (a : Option Addr) (n c : Nat) (l m : Int) (w : World) (h : ¬ (1 ≤ n ∧ n ≤ 60)) :
    Calls Try.prog 5 #[.int .u32 f, .slice a n c, .int .u8 l, .int .u8 m] w fun e w' => e = .returned (.bool true) ∧ Below w.heap.size w w' := by
  go_enter Try.func5, Try.ntmps5
  go_wp2_with fail
  refine (begun6 _).mono ?_
  rintro e w0 ⟨rfl, b0⟩
  have HB : Hid (Below w.heap.size w w0) := b0
  clear b0
  by_cases h1 : n < 1
  · have h2 : decide ((n : Int) < 1) = true := by simp; omega
    clear h
    go_wp2
    go_ret
    exact ⟨rfl, HB.out⟩
  · have h2 : decide ((n : Int) < 1) = false := by simp; omega
    have h4 : decide (60 < (n : Int)) = true := by simp; omega
    clear h
    go_wp2
    go_ret
    exact ⟨rfl, HB.out⟩

/-- What is there behind the first symbols from j on. -/
structure Got1 (wr : World) (N B R f n k gone j : Nat) (x : Nat → Nat) (S : Nat → Option (Nat → Nat)) : Prop where
  bas : BasinAt wr N B R f n 4 k S
  gath : Gath k (piece x n 4) S (Unis (piece x n 4) k (fun t => j ≤ t ∧ t ≠ gone))
  rank : rankTo S k + j + (if gone < j then 0 else 1) = k
theorem Got1.skip {wr : World} {N B R f n k gone : Nat} {x : Nat → Nat} {S : Nat → Option (Nat → Nat)} (h : Got1 wr N B R f n k gone (gone + 1) x S) : Got1 wr N B R f n k gone gone x S := by
  refine ⟨h.bas, h.gath.congr fun g => ⟨fun ⟨i, h1, h2, h3⟩ => ⟨i, h1, ⟨by omega, h2.2⟩, h3⟩, fun ⟨i, h1, h2, h3⟩ => ⟨i, h1, ⟨by have := h2.1; have := h2.2; omega, h2.2⟩, h3⟩⟩, ?_⟩
  have := h.rank
  rw [if_pos (by omega)] at this
  rw [if_neg (by omega)]
  omega
theorem Got1.add {wr w' : World} {N B R f n k gone j : Nat} {x : Nat → Nat} {S : Nat → Option (Nat → Nat)} (h : Got1 wr N B R f n k gone (j + 1) x S) (hx : ∀ i, i < n → x i < 256) (hk : k = cntOf n 4) (hj : j < k) (hne : j ≠ gone) (hb : BasinAt w' N B R f n 4 k (addOf S k (symRow f x n 4 k j)).2) :
    (addOf S k (symRow f x n 4 k j)).1 = true ∧ Got1 w' N B R f n k gone j x (addOf S k (symRow f x n 4 k j)).2 := by
  have hz : ∀ i j, piece x n 4 i j < 256 := fun i j => piece_lt hx j
  obtain ⟨h1, h2, h3⟩ := h.gath.unit hz (symRow_sp f x n 4 k j hk) hj (fun g => by have := g.1; omega) (by rw [symRow_first f x n 4 k j hx hk hj, tru_low _ hj, if_pos rfl]; decide)
  refine ⟨h1, hb, ?_, ?_⟩
  · rw [symRow_first f x n 4 k j hx hk hj] at h3 ⊢
    exact h3.congr (unis_next hj fun t _ => ⟨fun g => by have := g.1; have := g.2; omega, fun g => by rcases g with g | g <;> (first | exact ⟨by have := g.1; omega, g.2⟩ | exact ⟨by omega, by omega⟩)⟩)
  · have := h.rank
    rw [h2]
    by_cases e : gone < j
    · rw [if_pos (by omega)] at this
      rw [if_pos e]
      omega
    · rw [if_neg (by omega)] at this
      rw [if_neg e]
      omega
/-- One more symbol. -/
theorem Got1.more {wr : World} {N B R f n k gone id : Nat} {x : Nat → Nat} {S : Nat → Option (Nat → Nat)} (h : Got1 wr N B R f n k gone 0 x S) (hx : ∀ i, i < n → x i < 256) (hk : k = cntOf n 4) (hg : gone < k) :
    (Dice.rowOf f id k gone = 0 → addOf S k (symRow f x n 4 k id) = (false, S) ∧ rankTo S k < k) ∧
    (Dice.rowOf f id k gone ≠ 0 → (addOf S k (symRow f x n 4 k id)).1 = true ∧ rankTo (addOf S k (symRow f x n 4 k id)).2 k = k ∧ strOf n (joined (solOf (addOf S k (symRow f x n 4 k id)).2 k) 4) = strOf n x) := by
  have hz : ∀ i j, piece x n 4 i j < 256 := fun i j => piece_lt hx j
  have hr := h.rank
  rw [if_neg (by omega)] at hr
  refine ⟨fun h0 => ⟨add_again h.gath.red ?_, by omega⟩, fun h0 => ?_⟩
  · rw [symRow_mix f x n 4 k id hk]
    refine (unis_sp (M := fun t => 0 ≤ t ∧ t ≠ gone) _ (fun i => Dice.rowOf_lt _ _ _ _) (fun i _ hM => ?_) k (Nat.le_refl _)).mono h.gath.back
    have e : i = gone := Decidable.byContradiction fun e => hM ⟨Nat.zero_le _, e⟩
    rw [e]
    exact h0
  · obtain ⟨h1, h2, h3⟩ := h.gath.unit hz (symRow_sp f x n 4 k id hk) hg (fun g => g.2 rfl) (by rw [symRow_low f x n 4 k id gone hg]; exact h0)
    exact ⟨h1, by omega, sol_text hx h3.red h3.fit (by omega) hk (by decide)⟩

set_option maxRecDepth 100000 in
set_option maxHeartbeats 1000000 in
theorem core (f : Nat) (a : Option Addr) (n c l m k : Nat) (x : Nat → Nat) (w : World) (hx : BytesAt w a n x) (hf : f < 4294967296) (n1 : 1 ≤ n) (n2 : n ≤ 60) (l2 : l < 256) (m2 : m < 256) (hk : k = cntOf n 4) :
    Calls Try.prog 5 #[.int .u32 (f : Int), .slice a n c, .int .u8 (l : Int), .int .u8 (m : Int)] w fun e w' => e = .returned (.bool true) ∧ Below w.heap.size w w' := by
  have h2 : decide ((n : Int) < 1) = false := by simp; omega
  have h4 : decide (60 < (n : Int)) = false := by simp; omega
  have k1 : 1 ≤ k := hk ▸ cnt_pos (by decide) n1
  have k2 : k ≤ 32 := hk ▸ cnt_le n 4 (by decide) (by omega)
  have E1 : Hid (((n : Int) + 3) / 4 = (k : Int)) := by show ((n : Int) + 3) / 4 = (k : Int); rw [hk]; unfold cntOf; omega
  have HX : Hid (BytesAt w a n x) := hx
  have HXL : Hid (∀ i, i < n → x i < 256) := hx.lt
  have HK : Hid (k = cntOf n 4) := hk
  obtain ⟨gone, hgone⟩ : ∃ g, g = l % k := ⟨_, rfl⟩
  have g1 : gone < k := by rw [hgone]; exact Nat.mod_lt _ (by omega)
  have E2 : Hid ((l : Int) % (k : Int) = (gone : Int)) := by show (l : Int) % (k : Int) = (gone : Int); rw [hgone, Int.natCast_emod]
  have z1 : ((k : Int) == 0) = false := by simp; omega
  clear hx hk hgone
  go_enter Try.func5, Try.ntmps5
  go_wp2_with fail
  refine (begun6 _).mono ?_
  rintro e w0 ⟨rfl, b0⟩
  go_wp2_with fail
  refine (new_any _).mono ?_
  rintro e w1 ⟨rfl, b1, F1, -⟩
  have B1 := b0.trans (b1.mono b0.size)
  go_wp2_with fail
  rw [E1.out]
  clear E1
  refine (basin_yes w0.heap.size f n 4 k _ F1 (by decide) (by decide) n1 (by omega) HK.out k1 k2).mono ?_
  rintro e w2 ⟨N, B, R, rfl, hR, N2, b2⟩
  have GR : Hid (w.heap.size ≤ R) := Nat.le_trans B1.size hR
  have K2 : Hid (Below w.heap.size w w2) := B1.trans (b2.mono B1.size)
  have T2 : Hid (Got1 w2 N B R f n k gone k x (fun _ => none)) := ⟨N2, Gath.empty k _ (fun g ⟨i, h1, h2, _⟩ => by have := h2.1; omega), by
    have e : rankTo (fun _ => none) k = 0 := (PInv.empty k (fun _ _ => 0)).rk
    rw [e, if_pos g1]
    omega⟩
  clear b0 b1 B1 F1 b2 hR N2
  go_wp2_with fail
  rw [E2.out]
  clear E2
  go_loopw [13] (fun i wr => ∃ (j : Nat) (z : Int) (S : Nat → Option (Nat → Nat)), j ≤ k ∧ z = (j : Int) - 1 ∧ i = .int .i64 z ∧ Got1 wr N B R f n k gone j x S ∧ Below w.heap.size w wr) (fun i _ => (intOf i + 1).toNat)
  case atStart => exact ⟨k, _, _, Nat.le_refl _, rfl, rfl, T2.out, K2.out⟩
  case round =>
    clear T2 K2
    obtain ⟨j, z, S, hj, hz, rfl, hT, hB⟩ := hrel
    have HT : Hid (Got1 wr N B R f n k gone j x S) := hT
    have HB : Hid (Below w.heap.size w wr) := hB
    clear hT hB
    by_cases hj0 : 0 < j
    · obtain ⟨j, rfl⟩ : ∃ t, j = t + 1 := ⟨j - 1, by omega⟩
      obtain rfl : z = (j : Int) := by omega
      clear hz hj0
      have hjk : j < k := by omega
      go_wp2_with fail
      refine (rsymbol_yes f j a n c 4 k x _ (HX.out.below HB.out (Nat.le_refl _)) hf (by decide) (by decide) n1 (by omega) HK.out k1 k2 (by omega)).mono ?_
      rintro e w3 ⟨b3, c3, rfl, -, S3, b3'⟩
      have HB3 : Hid (Below w.heap.size w w3) := HB.out.trans (b3'.mono HB.out.size)
      have HT3 : Hid (Got1 w3 N B R f n k gone (j + 1) x S) := ⟨HT.out.bas.grew b3', HT.out.gath, HT.out.rank⟩
      have HS3 : Hid (BytesAt w3 (some ⟨b3, 0, none⟩) 4 (symOf f x n 4 j)) := S3
      clear S3 b3' HB HT
      by_cases hg : j = gone
      · subst hg
        have HT4 : Hid (Got1 w3 N B R f n k j j x S) := HT3.out.skip
        clear HT3
        go_wp2
        go_roundw
        case rel => exact ⟨j, _, S, by omega, by go_num, rfl, HT4.out, HB3.out⟩
        case measure => simp [intOf]
      · have hg1 : ((j : Int) == (gone : Int)) = false := by simp; omega
        go_wp2_with fail
        refine (badd_yes N B R f n 4 k j c3 S _ _ w3 HT3.out.bas HS3.out hf (by omega)).mono ?_
        rintro e w4 ⟨rfl, N4, k4⟩
        have HB4 : Hid (Below w.heap.size w w4) := HB3.out.trans (k4.below GR.out HB3.out.size)
        obtain ⟨t1, t2⟩ := HT3.out.add HXL.out HK.out hjk hg N4
        change (addOf S k (cat (Dice.rowOf f j k) (symOf f x n 4 j) k)).1 = true at t1
        rw [t1]
        have HT4 : Hid (Got1 w4 N B R f n k gone j x (addOf S k (symRow f x n 4 k j)).2) := t2
        clear t1 t2 N4 k4 HB3 HT3 HS3
        go_wp2
        go_roundw
        case rel => exact ⟨j, _, _, by omega, by go_num, rfl, HT4.out, HB4.out⟩
        case measure => simp [intOf]
    · obtain rfl : j = 0 := by omega
      obtain rfl : z = -1 := by omega
      clear hz hj0 hj
      obtain ⟨id, hid⟩ : ∃ id, id = k + m % 64 := ⟨_, rfl⟩
      have hi : id < k + 64 := by omega
      have E3 : Hid ((k : Int) + (m : Int) % 64 = (id : Int)) := by show (k : Int) + (m : Int) % 64 = (id : Int); omega
      clear hid
      have hr : k - rankTo S k = 1 := by
        have := HT.out.rank
        rw [if_neg (by omega)] at this
        omega
      go_wp2_with fail
      refine (bmiss_yes N B R f n 4 k S wr HT.out.bas).mono ?_
      rintro e w3 ⟨rfl, q3⟩
      rw [hr]
      have HB3 : Hid (Below w.heap.size w w3) := HB.out.trans (q3.below _)
      have HT3 : Hid (Got1 w3 N B R f n k gone 0 x S) := ⟨HT.out.bas.same q3, HT.out.gath, HT.out.rank⟩
      clear q3 HB HT hr
      go_wp2_with fail
      rw [E3.out]
      clear E3
      refine (rrow_yes f id k _ hf k1 k2 hi).mono ?_
      rintro e w4 ⟨r, rfl, -, R4, b4⟩
      have HB4 : Hid (Below w.heap.size w w4) := HB3.out.trans (b4.mono HB3.out.size)
      have HT4 : Hid (Got1 w4 N B R f n k gone 0 x S) := ⟨HT3.out.bas.grew b4, HT3.out.gath, HT3.out.rank⟩
      have HR4 : Hid (BytesAt w4 (some ⟨r, 0, none⟩) k (Dice.rowOf f id k)) := R4
      clear R4 b4 HB3 HT3
      go_wp2_with fail
      refine (rsymbol_yes f id a n c 4 k x _ (HX.out.below HB4.out (Nat.le_refl _)) hf (by decide) (by decide) n1 (by omega) HK.out k1 k2 hi).mono ?_
      rintro e w5 ⟨b5, c5, rfl, -, S5, b5'⟩
      have HB5 : Hid (Below w.heap.size w w5) := HB4.out.trans (b5'.mono HB4.out.size)
      have HT5 : Hid (Got1 w5 N B R f n k gone 0 x S) := ⟨HT4.out.bas.grew b5', HT4.out.gath, HT4.out.rank⟩
      have r5 := bytes_cell (HR4.out.grew b5') gone g1
      rw [Nat.zero_add] at r5
      have HS5 : Hid (BytesAt w5 (some ⟨b5, 0, none⟩) 4 (symOf f x n 4 id)) := S5
      clear S5 b5' HB4 HT4 HR4
      obtain ⟨t0, t1⟩ := HT5.out.more (id := id) HXL.out HK.out g1
      have T0 : Hid _ := t0
      have T1 : Hid _ := t1
      clear t0 t1
      have rl := Dice.rowOf_lt f id k gone
      have i5 : (gone : Int) < (k : Int) := by omega
      by_cases h0 : Dice.rowOf f id k gone = 0
      · rw [h0] at r5
        obtain ⟨t2, t3⟩ := T0.out h0
        clear T0 T1 h0 rl
        go_wp2_with fail
        refine (badd_yes N B R f n 4 k id c5 S _ _ w5 HT5.out.bas HS5.out hf hi).mono ?_
        rintro e w6 ⟨rfl, N6, k6⟩
        change addOf S k (cat (Dice.rowOf f id k) (symOf f x n 4 id) k) = (false, S) at t2
        rw [t2] at N6 ⊢
        have HB6 : Hid (Below w.heap.size w w6) := HB5.out.trans (k6.below GR.out HB5.out.size)
        have N6 : Hid (BasinAt w6 N B R f n 4 k S) := N6
        have HR : Hid (rankTo S k < k) := t3
        clear t2 t3 k6 HB5 HT5 HS5 r5
        go_wp2_with fail
        refine (bpay_no N B R f n 4 k S w6 N6.out HR.out).mono ?_
        rintro e w7 ⟨rfl, q7⟩
        have HB7 : Hid (Below w.heap.size w w7) := HB6.out.trans (q7.below _)
        clear q7 HB6 N6
        go_wp2
        go_ret
        exact ⟨rfl, HB7.out⟩
      · obtain ⟨t2, t3, t4⟩ := T1.out h0
        have h6 : ((Dice.rowOf f id k gone : Int) != 0) = true := by simp; omega
        have H0 : Hid (¬ Dice.rowOf f id k gone = 0) := h0
        clear T0 T1 h0
        go_wp2_with fail
        refine (badd_yes N B R f n 4 k id c5 S _ _ w5 HT5.out.bas HS5.out hf hi).mono ?_
        rintro e w6 ⟨rfl, N6, k6⟩
        change (addOf S k (cat (Dice.rowOf f id k) (symOf f x n 4 id) k)).1 = true at t2
        rw [t2]
        have HB6 : Hid (Below w.heap.size w w6) := HB5.out.trans (k6.below GR.out HB5.out.size)
        have N6 : Hid (BasinAt w6 N B R f n 4 k (addOf S k (symRow f x n 4 k id)).2) := N6
        have HR : Hid (rankTo (addOf S k (symRow f x n 4 k id)).2 k = k) := t3
        have HJ : Hid (strOf n (joined (solOf (addOf S k (symRow f x n 4 k id)).2 k) 4) = strOf n x) := t4
        clear t2 t3 t4 k6 HB5 HT5 HS5 r5
        generalize (addOf S k (symRow f x n 4 k id)).2 = S' at *
        go_wp2_with fail
        refine (bpay_yes N B R f n 4 k S' w6 N6.out HR.out n1 (by omega) HK.out.symm).mono ?_
        rintro e w7 ⟨b7, c7, rfl, -, -, -, B7, bb7⟩
        have HB7 : Hid (Below w.heap.size w w7) := HB6.out.trans (bb7.mono HB6.out.size)
        have e1 := conv_bytes _ n c7 _ _ B7
        rw [HJ.out] at e1
        have e2 := conv_bytes a n c x _ (HX.out.below HB7.out (Nat.le_refl _))
        clear B7 bb7 HB6 N6 HR HJ
        go_wp2
        go_ret
        exact ⟨rfl, HB7.out⟩

theorem walk (a0 : Int) (a1 : Option Addr) (len1 cap1 : Nat) (z1 : List Int) (a2 a3 : Int) (w : World) (w0 : (Lit.int .u32 a0).wf = true) (w1 : IsRow .u8 w a1 len1 cap1 z1) (w2 : (Lit.int .u8 a2).wf = true) (w3 : (Lit.int .u8 a3).wf = true) :
    Calls Try.prog 5 #[.int .u32 a0, .slice a1 len1 cap1, .int .u8 a2, .int .u8 a3] w fun e w' => e = .returned (.bool true) ∧ Below w.heap.size w w' := by
  have b0 := bounds_u32 w0
  have b2 := bounds_u8 w2
  have b3 := bounds_u8 w3
  obtain ⟨f, rfl⟩ : ∃ n : Nat, a0 = n := ⟨a0.toNat, by omega⟩
  obtain ⟨l, rfl⟩ : ∃ n : Nat, a2 = n := ⟨a2.toNat, by omega⟩
  obtain ⟨m, rfl⟩ : ∃ n : Nat, a3 = n := ⟨a3.toNat, by omega⟩
  have r1 : Came w a1 len1 cap1 z1 := w1
  obtain ⟨h1, -, -⟩ := r1.bytes
  by_cases hl : 1 ≤ len1 ∧ len1 ≤ 60
  · exact core f a1 len1 cap1 l m _ _ w h1 (by omega) hl.1 hl.2 (by omega) (by omega) rfl
  · exact none' f a1 len1 cap1 l m w hl

/-! ### THE ROW's STEP: WRITTEN OUT: LEAVE IT -/
set_option maxRecDepth 100000 in
theorem lifted (os : Os) (started : os.Started) (H : Type) (enc : TypeId × Value → H) :
    ReturnsInHanded {} Try.checked os 5 .any (Rows.basinFirstSpec.pre6 enc Try.prog Try.f5 Rows.basinFirstRow.domain false) (Rows.basinFirstSpec.post enc Try.prog Try.f5 false true false false) := by
  refine returnsInHanded_of_change (C := Try.checked) own started (by kernel_rfl) Try.func5
    (ChangeSpec.witness6 (enc := enc) (C := Try.checked) false ⟨#[], #[.int .u32 0, .slice none 0 0, .int .u8 0, .int .u8 0], []⟩ 8 (by kernel_rfl) (by kernel_rfl) (by kernel_rfl) (by kernel_rfl)) ?_
  intro W base args ds gs before hval0 hW hcnd _
  have hval : ∀ (j : Nat) t v, Try.f5.params[j]? = some t → args[j]? = some v → Value.okWide Try.prog W .any base t v := hval0
  have hW' := hW
  obtain ⟨p, q, hA0, hV, rfl, hfz, hnd⟩ := hW
  have hA : DataW.TrodAll enc Try.prog W 0 (fun _ => true) true Try.f5.params.toList args.toList ds p := hA0
  rw [Try.params5] at hA hval
  obtain ⟨v0, vs0, d0, ds0, p0, q0, hargs, rfl, rfl, h0, r0⟩ := trodAll_cons hA
  obtain ⟨v1, vs1, d1, ds1, p1, q1, rfl, rfl, rfl, h1, r1⟩ := trodAll_cons r0
  obtain ⟨v2, vs2, d2, ds2, p2, q2, rfl, rfl, rfl, h2, r2⟩ := trodAll_cons r1
  obtain ⟨v3, vs3, d3, ds3, p3, q3, rfl, rfl, rfl, h3, r3⟩ := trodAll_cons r2
  obtain ⟨rfl, rfl, rfl⟩ := trodAll_nil r3
  obtain rfl : args = #[v0, v1, v2, v3] := by cases args; simp_all
  obtain ⟨rfl, rfl⟩ := trodVars_none hV
  obtain ⟨a0, rfl, rfl, rfl, w0⟩ := open_int Try.underlying22 (hval 0 22 v0 rfl rfl) h0
  obtain ⟨a1, len1, cap1, rfl⟩ := okWide_slice Try.underlying34 (hval 1 34 v1 rfl rfl)
  have k1 := h1
  have lt1 : ∀ x ∈ p1, x.block < W.heap.size := by obtain ⟨m, hm⟩ := k1; exact DataW.trod_lt m _ _ _ hm
  obtain ⟨z1, w1⟩ : ∃ zs, IsRow .u8 W a1 len1 cap1 zs := by
    obtain ⟨fuel, hf⟩ := h1
    rcases open_ints Try.underlying34 Try.underlying5 (by kernel_rfl) hf with ⟨hcs, _⟩ | ⟨x, l, c, zs, hcs, _, hl, hm, hz, _, hcell, hwz⟩
    · simp [Value.cells] at hcs
      obtain ⟨rfl, rfl, rfl⟩ := hcs
      exact ⟨[], .inl ⟨rfl, rfl, rfl, rfl⟩⟩
    · simp [Value.cells] at hcs
      obtain ⟨rfl, rfl, rfl⟩ := hcs
      exact ⟨zs, .inr ⟨_, rfl, hl, hm, by simpa using hz, hcell, hwz⟩⟩
  obtain ⟨a2, rfl, rfl, rfl, w2⟩ := open_int Try.underlying5 (hval 2 5 v2 rfl rfl) h2
  obtain ⟨a3, rfl, rfl, rfl, w3⟩ := open_int Try.underlying5 (hval 3 5 v3 rfl rfl) h3
  clear hA0 hval0
  refine (walk a0 a1 len1 cap1 z1 a2 a3 W w0 w1 w2 w3).mono fun e W' ⟨he, bel⟩ => ?_
  subst he
  exact ⟨_, rfl, _, _, _, [], _, [], hW', trodAll_mk1 (shut_bool Try.underlying4 _), (trodAll_cons_mk (shut_int Try.underlying22 w0) (trodAll_cons_mk (Below.trod laidOut (by kernel_rfl) (of_decide_eq_true (by kernel_rfl)) k1 bel lt1) (trodAll_cons_mk (shut_int Try.underlying5 w2) (trodAll_cons_mk (shut_int Try.underlying5 w3) trodAll_mk0)))), rfl, bel.frame _, fun h => by cases h⟩

theorem over : Rows.basinFirstRow.holds Try.pinned (OpenSpec.ofChange Rows.basinFirstSpec) :=
  OpenClaim.holds_of_wide 5 Try.f5 rfl rfl rfl rfl rfl rfl rfl ⟨rfl, rfl, rfl, rfl, rfl⟩ rfl rfl rfl rfl rfl (by kernel_rfl) Try.func5 (by kernel_rfl)
    (of_decide_eq_true (by kernel_rfl)) (by unfold Func.isWrapper; first | (rw [if_pos (by decide +kernel)]; kernel_rfl) | (rw [if_neg (by decide +kernel)]; exact ⟨rfl, rfl⟩))
    (fun os started H enc _ => lifted os started H enc)

theorem proved : Rows.BasinFirstSaid := over
end Go.Proofs.Ytgbeklifcchmlaa.basinFirst
namespace Go.Proofs.Ytgbeklifcchmlaa
theorem basinFirst_holds : Rows.BasinFirstSaid := basinFirst.proved
#print axioms basinFirst_holds
end Go.Proofs.Ytgbeklifcchmlaa

/-
  What symbols are, as numbers: the first ones are the text; sums of texts have sums of symbols.
-/
import Derived.Test.YthlidbenhlidjaaFou
namespace Go.Proofs.Ythlidbenhlidjaa
open Go.RowKit Go.Deep

theorem one_mul {a : Nat} (h : a < 256) : Gf.mul 1 a = a := by rw [Gf.mul_comm, Gf.mul_one a h]
theorem mixTo_succ (R : Nat → Nat) (Z : Nat → Nat → Nat) (t j : Nat) : mixTo R Z (t + 1) j = mixTo R Z t j ^^^ Gf.mul (R t) (Z t j) := rfl
theorem mixTo_zero (R : Nat → Nat) (Z : Nat → Nat → Nat) (t j : Nat) (h : ∀ i, i < t → R i = 0) : mixTo R Z t j = 0 := by
  induction t with
  | zero => rfl
  | succ t ih => rw [mixTo_succ, ih (fun i hi => h i (by omega)), h t (by omega), Gf.zero_mul]; rfl
theorem mixTo_unit (Z : Nat → Nat → Nat) (i t j : Nat) (hi : i < t) (hz : Z i j < 256) : mixTo (fun l => if l = i then 1 else 0) Z t j = Z i j := by
  induction t with
  | zero => omega
  | succ t ih =>
    rw [mixTo_succ]
    by_cases e : t = i
    · subst e
      rw [mixTo_zero _ _ _ _ (fun l hl => if_neg (by omega)), if_pos rfl, one_mul hz, Nat.zero_xor]
    · rw [ih (by omega), if_neg e, Gf.zero_mul, Nat.xor_zero]
theorem mixTo_xor (R : Nat → Nat) (Z Y X : Nat → Nat → Nat) (t j : Nat) (hR : ∀ i, i < t → R i < 256) (hz : ∀ i, i < t → Z i j < 256) (hy : ∀ i, i < t → Y i j < 256) (hx : ∀ i, i < t → X i j = Z i j ^^^ Y i j) :
    mixTo R Z t j ^^^ mixTo R Y t j = mixTo R X t j := by
  induction t with
  | zero => exact Nat.xor_self 0
  | succ t ih =>
    rw [mixTo_succ, mixTo_succ, mixTo_succ, ← ih (fun i hi => hR i (by omega)) (fun i hi => hz i (by omega)) (fun i hi => hy i (by omega)) (fun i hi => hx i (by omega)), hx t (by omega),
      Gf.mul_xor _ _ _ (hR t (by omega)) (hz t (by omega)) (hy t (by omega)), Gf.xor4]
theorem mixTo_lt (R : Nat → Nat) (Z : Nat → Nat → Nat) (t j : Nat) : mixTo R Z t j < 256 := by
  induction t with
  | zero => show 0 < 256; decide
  | succ t ih => exact Gf.xor_lt _ _ ih (Gf.mul_lt _ _)
theorem mixTo_congr (R R' : Nat → Nat) (Z Z' : Nat → Nat → Nat) (t j : Nat) (h : ∀ i, i < t → R i = R' i) (hz : ∀ i, i < t → Z i j = Z' i j) : mixTo R Z t j = mixTo R' Z' t j := by
  induction t with
  | zero => rfl
  | succ t ih => rw [mixTo_succ, mixTo_succ, ih (fun i hi => h i (by omega)) (fun i hi => hz i (by omega)), h t (by omega), hz t (by omega)]

theorem cnt_pos {n s : Nat} (s1 : 1 ≤ s) (n1 : 1 ≤ n) : 1 ≤ cntOf n s := by
  unfold cntOf
  exact (Nat.le_div_iff_mul_le (by omega)).2 (by omega)
theorem cnt_ge' (n s : Nat) (s1 : 1 ≤ s) : n ≤ cntOf n s * s := by
  unfold cntOf
  have h1 := Nat.div_add_mod (n + s - 1) s
  have h2 := Nat.mod_lt (n + s - 1) (show s > 0 by omega)
  rw [Nat.mul_comm] at h1
  omega
theorem symOf_lt (f : Nat) (x : Nat → Nat) (n s id j : Nat) : symOf f x n s id j < 256 := mixTo_lt _ _ _ _
theorem symOf_first (f : Nat) (x : Nat → Nat) (n s i j : Nat) (hx : ∀ i, i < n → x i < 256) (h : i < cntOf n s) : symOf f x n s i j = piece x n s i j := by
  unfold symOf
  rw [← rowOf_unit h]
  exact mixTo_unit _ _ _ _ h (piece_lt hx j)
theorem symOf_xor (f : Nat) (x y z : Nat → Nat) (n s id j : Nat) (hr : ∀ i, i < cntOf n s → Dice.rowOf f id (cntOf n s) i < 256) (hx : ∀ i, i < n → x i < 256) (hy : ∀ i, i < n → y i < 256) (hz : ∀ i, i < n → z i = x i ^^^ y i) :
    symOf f x n s id j ^^^ symOf f y n s id j = symOf f z n s id j := by
  refine mixTo_xor _ _ _ _ _ _ hr (fun i _ => piece_lt hx j) (fun i _ => piece_lt hy j) fun i _ => ?_
  unfold piece
  split
  · exact hz _ (by assumption)
  · rfl
end Go.Proofs.Ythlidbenhlidjaa

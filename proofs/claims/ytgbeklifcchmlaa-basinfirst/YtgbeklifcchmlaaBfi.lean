/-
  What a Basin says of a text's symbols: a row and the symbol that it says; the text, once there are as many rows as unknowns. Plain mathematics over what memory holds.
-/
import Derived.Test.YtgbeklifcchmlaaBsn
import Derived.Test.YtgbeklifcchmlaaFit
namespace Go.Proofs.Ytgbeklifcchmlaa
open Go.RowKit Go.Deep

/-- Symbol id's row, and behind it the symbol. -/
def symRow (f : Nat) (x : Nat → Nat) (n s k id : Nat) : Nat → Nat := cat (Dice.rowOf f id k) (symOf f x n s id) k
theorem symRow_sp (f : Nat) (x : Nat → Nat) (n s k id : Nat) (hk : k = cntOf n s) : Sp (Rw (truS (piece x n s) k) k) (symRow f x n s k id) := by
  unfold symRow symOf
  rw [← hk]
  exact row_sp _ _ _ (fun i => Dice.rowOf_lt _ _ _ _)
theorem symRow_mix (f : Nat) (x : Nat → Nat) (n s k id : Nat) (hk : k = cntOf n s) : symRow f x n s k id = mixTo (Dice.rowOf f id k) (tru (piece x n s) k) k := by
  unfold symRow symOf
  rw [← hk]
  exact mix_cat _ _ _ (fun i => Dice.rowOf_lt _ _ _ _)
theorem symRow_low (f : Nat) (x : Nat → Nat) (n s k id i : Nat) (hi : i < k) : symRow f x n s k id i = Dice.rowOf f id k i := if_pos hi
theorem symRow_first (f : Nat) (x : Nat → Nat) (n s k i : Nat) (hx : ∀ i, i < n → x i < 256) (hk : k = cntOf n s) (hi : i < k) : symRow f x n s k i = tru (piece x n s) k i := by
  unfold symRow tru
  rw [← rowOf_unit hi, show symOf f x n s i = piece x n s i from funext fun j => symOf_first f x n s i j hx (hk ▸ hi)]

theorem sol_text {k n s : Nat} {x : Nat → Nat} {S : Nat → Option (Nat → Nat)} (hx : ∀ i, i < n → x i < 256) (hR : Red S k) (hs : ∀ g, Rw S k g → Sp (Rw (truS (piece x n s) k) k) g) (hr : rankTo S k = k) (hk : k = cntOf n s) (s1 : 1 ≤ s) : strOf n (joined (solOf S k) s) = strOf n x := by
  refine strOf_congr fun i hi => ?_
  rw [← joined_piece x n s i hi]
  have h1 : i / s < k := by
    have := cnt_ge n s s1
    rw [Nat.div_lt_iff_lt_mul (by omega), hk]
    omega
  obtain ⟨r, e⟩ := rank_full S k hr _ h1
  have e2 := full_tru (fun i j => piece_lt hx j) hR hs hr _ h1 r e
  unfold joined solOf
  rw [e, e2]
  show tru (piece x n s) k (i / s) (k + i % s) = _
  rw [tru_high _ (by omega), Nat.add_sub_cancel_left]
end Go.Proofs.Ytgbeklifcchmlaa

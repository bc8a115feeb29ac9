/-
  Numbers in bytes, the highest first; the document's High and Num.
-/
import Derived.Test.YthlidbenhlidjaaCpn
import Derived.Test.YthlidbenhlidjaaCrc
namespace Go.Proofs.Ythlidbenhlidjaa
open Go.RowKit Go.Deep

/-- The i-th byte of v in n bytes, the highest first. -/
def high (v n i : Nat) : Nat := v / 256 ^ (n - 1 - i) % 256
theorem high_lt (v n i : Nat) : high v n i < 256 := Nat.mod_lt _ (by decide)
theorem numTo_high_to (v n : Nat) (hv : v < 256 ^ n) : ∀ k, k ≤ n → Crc.numTo (high v n) k = v / 256 ^ (n - k)
  | 0, _ => by
    rw [Nat.sub_zero, Nat.div_eq_of_lt hv]; rfl
  | k + 1, hk => by
    show Crc.numTo (high v n) k * 256 + high v n k = _
    rw [numTo_high_to v n hv k (by omega)]
    unfold high
    rw [show n - 1 - k = n - (k + 1) by omega, show n - k = n - (k + 1) + 1 by omega, Nat.pow_succ, ← Nat.div_div_eq_div_mul]
    omega
/-- A number in n bytes is that number. -/
theorem numTo_high (v n : Nat) (hv : v < 256 ^ n) : Crc.numTo (high v n) n = v := by
  rw [numTo_high_to v n hv n (Nat.le_refl _), Nat.sub_self, Nat.pow_zero, Nat.div_one]
theorem numTo_div {x : Nat → Nat} (k : Nat) : ∀ d, (∀ i, i < k + d → x i < 256) → Crc.numTo x (k + d) / 256 ^ d = Crc.numTo x k
  | 0, _ => by rw [Nat.pow_zero, Nat.div_one]; rfl
  | d + 1, hx => by
    have e : Crc.numTo x (k + (d + 1)) = Crc.numTo x (k + d) * 256 + x (k + d) := rfl
    have l := hx (k + d) (by omega)
    rw [e, Nat.pow_succ, Nat.mul_comm (256 ^ d), ← Nat.div_div_eq_div_mul, show (Crc.numTo x (k + d) * 256 + x (k + d)) / 256 = Crc.numTo x (k + d) by omega]
    exact numTo_div k d fun i hi => hx i (by omega)
/-- The bytes of the number that n bytes are. -/
theorem high_numTo {x : Nat → Nat} {n i : Nat} (hx : ∀ i, i < n → x i < 256) (hi : i < n) : high (Crc.numTo x n) n i = x i := by
  unfold high
  have h := numTo_div (x := x) (i + 1) (n - 1 - i) (fun j hj => hx j (by omega))
  rw [show i + 1 + (n - 1 - i) = n by omega] at h
  rw [h]
  show (Crc.numTo x i * 256 + x i) % 256 = x i
  have := hx i hi
  omega
theorem numTo_congr {x y : Nat → Nat} : ∀ n, (∀ i, i < n → x i = y i) → Crc.numTo x n = Crc.numTo y n
  | 0, _ => rfl
  | n + 1, h => by
    show Crc.numTo x n * 256 + x n = Crc.numTo y n * 256 + y n
    rw [numTo_congr n fun i hi => h i (by omega), h n (by omega)]
theorem high_set {w : World} {B t n v k : Nat} (hk : k < n) (h : w.rowIs B t n (byteAt fun i => if k < i then high v n i else 0)) : (w.setCell ⟨B, k, none⟩ (.int .u8 ((v / 256 ^ (n - (k + 1)) % 256 : Nat) : Int))).rowIs B t n (byteAt fun i => if k ≤ i then high v n i else 0) := by
  refine (h.set k _).congr fun i _ => ?_
  unfold byteAt
  dsimp only
  by_cases e : i = k
  · subst e; rw [if_pos rfl, if_pos (Nat.le_refl _)]; unfold high; rw [show n - 1 - i = n - (i + 1) by omega]
  · rw [if_neg e]
    by_cases g : k < i
    · rw [if_pos g, if_pos (by omega)]
    · rw [if_neg g, if_neg (by omega)]

end Go.Proofs.Ythlidbenhlidjaa
